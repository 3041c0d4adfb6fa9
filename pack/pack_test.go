package pack_test

import (
	"encoding/hex"
	"math"
	"math/rand"
	"reflect"
	"slices"
	"strings"
	"testing"

	"splice/api"
	"splice/mut"
	"splice/pack"
	"splice/vint"
)

// bytes are those that stand as hexadecimal numbers.
func bytes(t *testing.T, l string) string {
	t.Helper()
	b, err := hex.DecodeString(strings.ReplaceAll(l, " ", ""))
	if err != nil {
		t.Fatal(err)
	}
	return string(b)
}

// sample is the entries of the chapter's example.
func sample() []api.Entry {
	return []api.Entry{
		{M: api.Mut{Client: 7, Seq: 1, Kind: api.MutPut, Pairs: []api.Pair{{Key: 5, Val: 7}, {Key: 9, Val: -1}}}, Time: 3, Done: true},
		{M: api.Mut{Client: 8, Seq: 4, Kind: api.MutDel, Over: api.Span{Lo: 2, Hi: 6}}, Time: 3, Done: true},
		{M: api.Mut{Client: 7, Seq: 2, Kind: api.MutCas, Pairs: []api.Pair{{Key: 5, Val: 1}}, Old: api.Absent}, Time: 5},
		{M: api.Mut{Client: 8, Seq: 5, Kind: api.MutMove, Pairs: []api.Pair{{Key: 9, Val: 2}, {Key: 4, Val: 2}}}, Time: 300, Done: true},
	}
}

// sampleText is the bytes that the chapter tells of them.
func sampleText() string {
	return "02 07 08 04" + "03 03 05 05 0e 03 01" + "05 00 04 66 02 03" + "02 02 68 05 02 01" + "07 a7 02 69 09 04 09"
}

// put is an entry of a short mutation.
func put(client, seq, time int) api.Entry {
	return api.Entry{M: api.Mut{Client: client, Seq: seq, Kind: api.MutPut, Pairs: []api.Pair{{Key: 5, Val: 7}}}, Time: time}
}

// mutations are some of each kind, at the edges of their fields.
func mutations() []api.Mut {
	eight := api.Mut{Client: 1, Seq: 1, Kind: api.MutPut}
	for i := range api.MaxPairs {
		eight.Pairs = append(eight.Pairs, api.Pair{Key: 4088 + i, Val: i - 4})
	}
	return []api.Mut{
		eight,
		{Client: api.MaxClient, Seq: api.MaxSeq, Kind: api.MutPut, Pairs: []api.Pair{{Key: 0, Val: api.MaxVal}, {Key: 4095, Val: -api.MaxVal}}},
		{Client: 1, Seq: 9, Kind: api.MutDel, Over: api.Span{Lo: 0, Hi: 4096}},
		{Client: 1, Seq: 9, Kind: api.MutDel, Over: api.Span{Lo: 4095, Hi: 4096}},
		{Client: 2, Seq: 1, Kind: api.MutAdd, Pairs: []api.Pair{{Key: 0, Val: -api.MaxVal}}},
		{Client: 2, Seq: 3, Kind: api.MutCas, Pairs: []api.Pair{{Key: 4095, Val: 0}}, Old: api.MaxVal},
		{Client: 2, Seq: 2, Kind: api.MutCas, Pairs: []api.Pair{{Key: 4095, Val: 0}}, Old: -api.MaxVal},
		{Client: 2, Seq: 3, Kind: api.MutCas, Pairs: []api.Pair{{Key: 1, Val: 0}}},
		{Client: 2, Seq: 4, Kind: api.MutCas, Pairs: []api.Pair{{Key: 1, Val: 0}}, Old: api.Absent},
		{Client: 3, Seq: 1, Kind: api.MutMove, Pairs: []api.Pair{{Key: 0, Val: api.MaxVal}, {Key: 4095, Val: api.MaxVal}}},
		{Client: 3, Seq: 2, Kind: api.MutMove, Pairs: []api.Pair{{Key: 4095}, {Key: 0}}},
	}
}

// entriesOf are mutations that rise by so much time.
func entriesOf(ms []api.Mut, step int) []api.Entry {
	var l []api.Entry
	for i, m := range ms {
		l = append(l, api.Entry{M: m, Time: i * step, Done: i%2 == 0})
	}
	return l
}

// thousand is as many entries as there may be, of so many clients.
func thousand(clients int) []api.Entry {
	var l []api.Entry
	for i := range api.MaxList {
		l = append(l, put(1+i%clients, 1+i/clients, i))
	}
	return l
}

func good() [][]api.Entry {
	return [][]api.Entry{
		nil, {}, sample(), sample()[:1], sample()[1:], entriesOf(mutations(), 0), entriesOf(mutations(), 1), entriesOf(mutations(), 1<<36),
		{put(1, 1, 0)}, {put(1, 2, api.MaxTime)}, {put(api.MaxClient, api.MaxSeq, api.MaxTime), put(1, 1, api.MaxTime)},
		{put(5, 3, 1), put(5, 2, 1), put(5, 2, 1), put(5, 3, 1), put(5, 4, 1), put(5, 6, 1)}, thousand(1), thousand(1000), thousand(30),
	}
}

func bad() [][]api.Entry {
	l := [][]api.Entry{
		{put(1, 1, -1)}, {put(1, 1, api.MaxTime+1)}, {put(1, 1, 5), put(1, 2, 4)}, {put(1, 1, 5), put(2, 1, 6), put(1, 2, 5)}, {put(1, 1, math.MinInt)}, {put(1, 1, math.MaxInt)},
		append(thousand(3), put(1, 1, api.MaxTime)), append(thousand(3), thousand(1)...), {{}}, {put(0, 1, 1)}, {put(-1, 1, 1)}, {put(api.MaxClient+1, 1, 1)}, {put(1, 0, 1)}, {put(1, api.MaxSeq+1, 1)},
	}
	for _, spoil := range []func(m *api.Mut){
		func(m *api.Mut) { m.Kind = 0 }, func(m *api.Mut) { m.Kind = 6 }, func(m *api.Mut) { m.Kind = math.MaxInt }, func(m *api.Mut) { m.Kind = -99 }, func(m *api.Mut) { m.Pairs = nil },
		func(m *api.Mut) { m.Pairs = slices.Repeat(m.Pairs, 2) }, func(m *api.Mut) { m.Pairs[0].Key = 4096 }, func(m *api.Mut) { m.Pairs[0].Key = -1 },
		func(m *api.Mut) { m.Pairs[0].Val = api.Absent }, func(m *api.Mut) { m.Old = 1 }, func(m *api.Mut) { m.Over.Hi = 1 }, func(m *api.Mut) { m.Kind = api.MutMove },
		func(m *api.Mut) { m.Kind = api.MutDel }, func(m *api.Mut) { m.Kind, m.Old = api.MutCas, api.Absent+1 },
	} {
		e := put(7, 1, 3)
		spoil(&e.M)
		l = append(l, []api.Entry{e}, []api.Entry{put(7, 1, 3), e})
	}
	return l
}

// model is the bytes of entries as the chapter tells them, straight on. It does
// not ask whether they can be packed; names may be handed in that are not theirs.
func model(l []api.Entry, names []int) string {
	s := vint.Num(len(names))
	for _, n := range names {
		s += vint.Num(n)
	}
	s += vint.Num(len(l))
	for i, e := range l {
		before, time := 0, 0
		for _, x := range l[:i] {
			time = x.Time
			if x.M.Client == e.M.Client {
				before = x.M.Seq
			}
		}
		s += modelEntry(e, slices.Index(names, e.M.Client), e.Time-time, e.M.Seq == before+1)
	}
	return s
}

// modelEntry is an entry's bytes; next tells whether its Seq is left out.
func modelEntry(e api.Entry, place, time int, next bool) string {
	head := 4 * place
	if e.Done {
		head++
	}
	seq := vint.Num(e.M.Seq)
	if next {
		head, seq = head+2, ""
	}
	return vint.Num(head) + vint.Num(time) + seq + modelMut(e.M)
}

func modelMut(m api.Mut) string {
	switch m.Kind {
	case api.MutPut:
		s := vint.Num([]int{1, 5, 9, 13, 17, 21, 25, 29}[len(m.Pairs)-1]) + vint.Num(m.Pairs[0].Key) + vint.Whole(m.Pairs[0].Val)
		for i := 1; i < len(m.Pairs); i++ {
			s += vint.Num(m.Pairs[i].Key-m.Pairs[i-1].Key-1) + vint.Whole(m.Pairs[i].Val)
		}
		return s
	case api.MutDel:
		return vint.Num(102) + vint.Num(m.Over.Lo) + vint.Num(m.Over.Hi-m.Over.Lo-1)
	case api.MutAdd:
		return vint.Num(103) + vint.Num(m.Pairs[0].Key) + vint.Whole(m.Pairs[0].Val)
	case api.MutCas:
		s := vint.Num(104) + vint.Num(m.Pairs[0].Key) + vint.Whole(m.Pairs[0].Val)
		if m.Old == api.Absent {
			return s + "\x01"
		}
		return s + "\x00" + vint.Whole(m.Old)
	}
	return vint.Num(105) + vint.Num(m.Pairs[0].Key) + vint.Whole(m.Pairs[0].Val) + vint.Whole(m.Pairs[1].Key-m.Pairs[0].Key)
}

// modelNames are the clients, each where it is found first.
func modelNames(l []api.Entry) []int {
	var names []int
	for _, e := range l {
		if !slices.Contains(names, e.M.Client) {
			names = append(names, e.M.Client)
		}
	}
	return names
}

func checkNot(t *testing.T, s string) {
	t.Helper()
	if l, e := pack.Unpack(s); e != api.ErrForm || l != nil {
		t.Errorf("Unpack(%x): %v, %v, want ErrForm", s, l, e)
	}
}

// checkBytes asks that bytes are those of what they hold, or hold nothing.
func checkBytes(t *testing.T, s string) {
	t.Helper()
	l, e := pack.Unpack(s)
	if e != api.OK {
		checkNot(t, s)
		return
	}
	if again, e := pack.Pack(l); e != api.OK || again != s || again != model(l, modelNames(l)) {
		t.Errorf("Unpack(%x): %v, which are %x, %v", s, l, again, e)
	}
}

// Promise 21.1: the chapter's examples.
func TestExamples(t *testing.T) {
	if s, e := pack.Pack(sample()); e != api.OK || s != bytes(t, sampleText()) {
		t.Errorf("Pack: %x, %v, want %s", s, e, sampleText())
	}
	if l, e := pack.Unpack(bytes(t, sampleText())); e != api.OK || !reflect.DeepEqual(l, sample()) {
		t.Errorf("Unpack: %v, %v", l, e)
	}
	if l := pack.Names(sample()); !slices.Equal(l, []int{7, 8}) {
		t.Errorf("Names: %v", l)
	}
	l := sample()
	l[3].Time = 4
	if s, e := pack.Pack(l); e != api.ErrArg || s != "" {
		t.Errorf("times that fall: %x, %v", s, e)
	}
	one := put(7, 1, 3)
	one.Done = true
	if s, e := pack.Pack([]api.Entry{one}); e != api.OK || s != bytes(t, "01 07 01 03 03 01 05 0e") {
		t.Errorf("Pack of one: %x, %v", s, e)
	}
	if l, e := pack.Unpack(bytes(t, "00 00")); e != api.OK || l != nil {
		t.Errorf("Unpack of none: %v, %v", l, e)
	}
	for _, s := range []string{"", "00", "00 00 00", "01 07 00"} {
		checkNot(t, bytes(t, s))
	}
}

// Promise 21.1: entries that can be packed have the chapter's bytes, and (21.2) come back from them.
func TestGood(t *testing.T) {
	for _, l := range good() {
		s, e := pack.Pack(l)
		if want := model(l, modelNames(l)); e != api.OK || s != want {
			t.Errorf("Pack(%v): %x, %v, want %x", l, s, e, want)
		}
		back, e := pack.Unpack(s)
		if e != api.OK || len(back) != len(l) || len(l) > 0 && !reflect.DeepEqual(back, l) {
			t.Errorf("Unpack(%x): %v, %v, want %v", s, back, e, l)
		}
		if names := pack.Names(l); !slices.Equal(names, modelNames(l)) {
			t.Errorf("Names(%v): %v", l, names)
		}
	}
}

// Promise 21.1: other entries can't be packed.
func TestBad(t *testing.T) {
	for _, l := range bad() {
		if s, e := pack.Pack(l); e != api.ErrArg || s != "" {
			t.Errorf("Pack(%v): %x, %v", l, s, e)
		}
	}
}

// Promise 21.1: bytes of what can't be packed hold nothing.
func TestBadBytes(t *testing.T) {
	shown := func(e api.Entry) bool { // what is wrong with it is in its bytes
		return e.M.Kind == api.MutPut && 1 <= len(e.M.Pairs) && len(e.M.Pairs) <= 8 && e.M.Old == 0 && e.M.Over == api.Span{}
	}
	for _, l := range bad() {
		if !slices.ContainsFunc(l, func(e api.Entry) bool { return !shown(e) }) {
			checkNot(t, model(l, modelNames(l)))
		}
	}
	for _, s := range []string{
		"01 07 01 03 03 00 05 0e", "01 07 01 03 03 02 05 0e", "01 07 01 03 03 03 05 0e", "01 07 01 03 03 04 05 0e", "01 07 01 03 03 64 05 0e", "01 07 01 03 03 65 05 0e", "01 07 01 03 03 6a 05 0e",
		"01 07 01 03 03 80 01 05 0e", "01 07 01 03 03 ff ff ff ff ff ff ff ff 7f 05 0e", "01 07 01 03 03 69 05 0e 00", "01 07 01 03 03 69 05 0e 0b", "01 07 01 03 03 69 05 01 02", "01 07 01 03 03 66 80 20 00", "01 07 01 03 03 66 00 80 20",
		"01 07 01 03 03 66 05 ff ff ff ff ff ff ff ff 7f", "01 07 01 03 03 66 ff ff ff ff ff ff ff ff 7f 00", "01 07 01 03 03 05 05 0e ff ff ff ff ff ff ff ff 7f 0e", "01 07 01 03 ff ff ff ff ff ff ff ff 7f 01 05 0e",
		"01 07 01 01 03 ff ff ff ff ff ff ff ff 7f 01 05 0e", "01 07 02 01 03 ff ff ff ff ff ff ff ff 7f 01 05 0e 03 00 01 05 0e", "01 00 01 03 03 01 05 0e", "01 07 01 03 03 68 05 0e 02", "01 07 01 03 03 68 05 0e 00",
	} {
		checkNot(t, bytes(t, s))
	}
}

// Promise 21.1: nine pairs of a put, by the number that stands for them, are too many.
func TestPairs(t *testing.T) {
	for n := 1; n <= 40; n++ {
		s := bytes(t, "01 07 01 03 03") + vint.Num(1+4*(n-1)) + bytes(t, "05 0e") + strings.Repeat("\x00\x0e", n-1)
		l, e := pack.Unpack(s)
		if n > api.MaxPairs {
			checkNot(t, s)
		} else if e != api.OK || len(l) != 1 || len(l[0].M.Pairs) != n || l[0].M.Pairs[n-1] != (api.Pair{Key: 4 + n, Val: 7}) {
			t.Errorf("%d pairs: %v, %v", n, l, e)
		}
	}
}

// Promise 21.2: names that are not those of the entries, each once, as they come up, make other bytes.
func TestOneEncoding(t *testing.T) {
	l := sample()
	if model(l, []int{7, 8}) != bytes(t, sampleText()) {
		t.Fatalf("the model: %x", model(l, []int{7, 8}))
	}
	for _, names := range [][]int{{8, 7}, {7, 8, 9}, {9, 7, 8}, {7, 7, 8}, {7, 8, 8}, {7, 8, 7}, {7, 9, 8}, {0, 7, 8}} {
		checkNot(t, model(l, names))
	}
	front := bytes(t, "02 07 08 04")
	for next := range 16 { // which Seqs are left out
		s := front
		for i, e := range l {
			s += modelEntry(e, i%2, []int{3, 0, 2, 295}[i], next>>i&1 == 1)
		}
		if (s == bytes(t, sampleText())) != (next == 13) {
			t.Errorf("%d: %x", next, s)
		}
		if next == 13 {
			checkBytes(t, s)
		} else if next|13 == 13 { // written out where they needn't be
			checkNot(t, s)
		}
	}
}

// Promise 21.2: a Seq that is left out is one greater than the last one of the same client, not of another.
func TestNextSeq(t *testing.T) {
	l := []api.Entry{put(7, 5, 1), put(8, 6, 1), put(7, 6, 1), put(8, 1, 1), put(9, 1, 1), put(8, 2, 1), put(7, 6, 1), put(9, 3, 1)}
	want := "03 07 08 09 08" + "00 01 05 01 05 0e" + "04 00 06 01 05 0e" + "02 00 01 05 0e" + "04 00 01 01 05 0e" + "0a 00 01 05 0e" + "06 00 01 05 0e" + "00 00 06 01 05 0e" + "08 00 03 01 05 0e"
	if s, e := pack.Pack(l); e != api.OK || s != bytes(t, want) {
		t.Errorf("Pack: %x, %v, want %s", s, e, want)
	}
	if back, e := pack.Unpack(bytes(t, want)); e != api.OK || !reflect.DeepEqual(back, l) {
		t.Errorf("Unpack: %v, %v", back, e)
	}
}

// Promise 21.1: a client's place that no name has.
func TestNoName(t *testing.T) {
	for _, s := range []string{
		"00 01 03 03 01 05 0e", "01 07 01 07 03 01 05 0e", "01 07 02 03 03 01 05 0e 07 00 01 05 0e", "01 07 01 ff ff ff ff ff ff ff ff 7f 03 01 05 0e",
	} {
		checkNot(t, bytes(t, s))
	}
}

// Promise 21.1: bytes that say that they hold a huge number of things.
func TestHuge(t *testing.T) {
	for _, n := range []int{1001, 1 << 20, 1 << 40, math.MaxInt} {
		checkNot(t, vint.Num(n))
		checkNot(t, vint.Num(n)+"\x07\x08")
		checkNot(t, "\x00"+vint.Num(n))
		checkNot(t, "\x01\x07"+vint.Num(n)+"\x03\x03\x01\x05\x0e")
	}
	names := make([]int, 1001)
	for i := range names {
		names[i] = i + 1
	}
	checkNot(t, model(nil, names))
	checkNot(t, model(nil, names[:1000]))
	checkNot(t, model(append(thousand(1000), put(1001, 1, 1000)), names))
	checkNot(t, model(append(thousand(2), put(1, 501, 1000)), names[:2]))
}

// Promise 21.1: bytes that are a little other than entries' are those of others, or of none.
func TestAround(t *testing.T) {
	for _, l := range [][]api.Entry{sample(), entriesOf(mutations(), 1<<36)} {
		s, _ := pack.Pack(l)
		for i := range len(s) {
			checkNot(t, s[:i])
			for b := range 256 {
				checkBytes(t, s[:i]+string([]byte{byte(b)})+s[i+1:])
			}
			checkBytes(t, s[:i]+s[i+1:])
			checkBytes(t, s[:i]+"\x00"+s[i:])
		}
		checkNot(t, s+"\x00")
		checkNot(t, s+s)
	}
}

// Promise 21.1: the names of any entries, which needn't be ones that can be packed.
func TestNames(t *testing.T) {
	for _, x := range []struct {
		clients, want []int
	}{
		{nil, nil}, {[]int{0}, []int{0}}, {[]int{0, 0, -1, 0}, []int{0, -1}}, {[]int{math.MinInt, math.MaxInt, math.MinInt}, []int{math.MinInt, math.MaxInt}},
		{[]int{9, 3, 9, 1, 3, 2}, []int{9, 3, 1, 2}}, {[]int{1, 1, 1}, []int{1}},
	} {
		var l []api.Entry
		for _, c := range x.clients {
			l = append(l, api.Entry{M: api.Mut{Client: c}, Time: -len(l)})
		}
		if names := pack.Names(l); !slices.Equal(names, x.want) {
			t.Errorf("Names of %v: %v, want %v", x.clients, names, x.want)
		}
	}
	var l []api.Entry
	for i := range 5000 {
		l = append(l, put(i%3000, 1, 0))
	}
	if names := pack.Names(l); len(names) != 3000 || names[2999] != 2999 {
		t.Errorf("Names of many: %d", len(names))
	}
}

// Promise 21.2: what is appended, of the same clients, changes nothing of what is ahead but the number of entries.
func TestAppend(t *testing.T) {
	l := append(sample(), put(8, 6, 300), put(7, 9, 301), put(7, 10, 400))
	whole, _ := pack.Pack(l)
	for n := 2; n <= len(l); n++ {
		s, e := pack.Pack(l[:n])
		if e != api.OK || s[:3] != whole[:3] || s[3] != byte(n) || !strings.HasPrefix(whole[4:], s[4:]) {
			t.Errorf("%d entries: %x, %v, of %x", n, s, e, whole)
		}
	}
}

// Promises 21.1 and 21.2 with R3: what is handed in is not changed, what is answered is new.
func TestNothingShared(t *testing.T) {
	l := sample()
	s, _ := pack.Pack(l)
	clear(pack.Names(l))
	if !reflect.DeepEqual(l, sample()) {
		t.Errorf("Pack changed what it was handed: %v", l)
	}
	a, _ := pack.Unpack(s)
	b, _ := pack.Unpack(s)
	for i := range a {
		for j := range a[i].M.Pairs {
			a[i].M.Pairs[j] = api.Pair{}
		}
		a[i].M.Pairs = append(a[i].M.Pairs, api.Pair{Key: 99})
	}
	a = append(a[:1], api.Entry{})
	if !reflect.DeepEqual(b, sample()) || len(a) != 2 {
		t.Errorf("what was unpacked is shared: %v", b)
	}
	b[0].M.Pairs = append(b[0].M.Pairs[:1], api.Pair{Key: 77})
	if !reflect.DeepEqual(b[1:], sample()[1:]) {
		t.Errorf("two lists of one answer are one: %v", b)
	}
}

func randomMut(r *rand.Rand) api.Mut {
	m := api.Mut{Client: 1 + r.Intn(4), Seq: 1 + r.Intn(6), Kind: 1 + r.Intn(5)}
	if r.Intn(10) == 0 {
		m.Client, m.Seq = 1+r.Intn(api.MaxClient), 1+r.Intn(api.MaxSeq)
	}
	val := func() int { return r.Intn(2*api.MaxVal>>r.Intn(40)+1) - api.MaxVal>>r.Intn(41) }
	keys := r.Perm(api.MaxKey >> r.Intn(9))
	switch m.Kind {
	case api.MutPut:
		keys = keys[:1+r.Intn(8)]
		slices.Sort(keys)
		for _, key := range keys {
			m.Pairs = append(m.Pairs, api.Pair{Key: key, Val: val()})
		}
	case api.MutDel:
		m.Over = api.Span{Lo: keys[0], Hi: keys[0] + 1 + r.Intn(api.MaxKey-keys[0])}
	case api.MutMove:
		v := r.Intn(api.MaxVal + 1)
		m.Pairs = []api.Pair{{Key: keys[0], Val: v}, {Key: keys[1], Val: v}}
	default:
		m.Pairs = []api.Pair{{Key: keys[0], Val: val()}}
		if m.Kind == api.MutCas {
			m.Old = []int{api.Absent, 0, val()}[r.Intn(3)]
		}
	}
	return m
}

// Promises 21.1 and 21.2: entries by chance, and their bytes, spoiled a little.
func TestAnyEntries(t *testing.T) {
	r := rand.New(rand.NewSource(21))
	for range 1500 {
		var l []api.Entry
		time := 0
		for range r.Intn(12) {
			time += r.Intn(1 << r.Intn(36))
			e := api.Entry{M: randomMut(r), Time: time, Done: r.Intn(2) == 0}
			if mut.Check(e.M) {
				l = append(l, e)
			}
		}
		s, e := pack.Pack(l)
		if e != api.OK || s != model(l, modelNames(l)) {
			t.Fatalf("Pack(%v): %x, %v", l, s, e)
		}
		if back, e := pack.Unpack(s); e != api.OK || !reflect.DeepEqual(back, l) {
			t.Fatalf("Unpack(%x): %v, %v, want %v", s, back, e, l)
		}
		for range 20 {
			b := []byte(s)
			b[r.Intn(len(b))] ^= byte(1 << r.Intn(8))
			checkBytes(t, string(b))
		}
	}
}

// Promises 21.1 and 21.2: whatever the bytes are.
func FuzzUnpack(f *testing.F) {
	for _, l := range good()[:8] {
		s, _ := pack.Pack(l)
		f.Add(s)
	}
	f.Add("")
	f.Fuzz(checkBytes)
}
