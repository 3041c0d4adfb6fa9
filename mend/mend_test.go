package mend_test

import (
	"encoding/hex"
	"math"
	"math/rand"
	"reflect"
	"slices"
	"strings"
	"testing"

	"splice/api"
	"splice/delta"
	"splice/mend"
	"splice/merkle"
	"splice/vint"
)

// bytes are those that stand as hexadecimal numbers.
func bytes(t *testing.T, l string) string {
	t.Helper()
	b, err := hex.DecodeString(strings.ReplaceAll(l, " ", ""))
	if err != nil {
		t.Fatal(err)
	}
	return string(b)
}

// pairs are the pairs of keys and values that stand two by two.
func pairs(l ...int) []api.Pair {
	var out []api.Pair
	for i := 0; i+1 < len(l); i += 2 {
		out = append(out, api.Pair{Key: l[i], Val: l[i+1]})
	}
	return out
}

func some(val int) api.Cell {
	return api.Cell{Val: val, Some: true}
}

func ask(level int, l ...int) api.Ask {
	return api.Ask{Level: level, L: l}
}

// upTo are the numbers below one.
func upTo(n int) []int {
	var l []int
	for i := range n {
		l = append(l, i)
	}
	return l
}

func tree(t *testing.T, l []api.Pair) *merkle.Tree {
	t.Helper()
	x, e := merkle.New(l)
	if e != api.OK {
		t.Fatalf("a tree of %v: %v", l, e)
	}
	return x
}

func mender(t *testing.T, l []api.Pair) *mend.Mender {
	t.Helper()
	m, e := mend.New(l)
	if e != api.OK || m == nil {
		t.Fatalf("New(%v): %v", l, e)
	}
	return m
}

// answer is what a tree tells to an ask that may be.
func answer(t *testing.T, x *merkle.Tree, a api.Ask) api.Told {
	t.Helper()
	told, e := mend.Answer(x, a)
	if e != api.OK {
		t.Fatalf("Answer(%v): %v", a, e)
	}
	return told
}

// own and other are the tables of the chapter's example.
func own() []api.Pair {
	return pairs(5, 1, 6, 2, 300, 3)
}

func other() []api.Pair {
	return pairs(5, 1, 7, 2, 300, 4)
}

func goodAsks() []api.Ask {
	return []api.Ask{
		ask(2, 0), ask(1, 0), ask(1, 15), ask(1, 0, 1), ask(1, upTo(16)...), ask(0, 0), ask(0, 255), ask(0, 0, 18), ask(0, upTo(256)...),
		ask(-1, 0), ask(-1, 4095), ask(-1, 6, 7, 300), ask(-1, upTo(4096)...), ask(-1, 0, 4095), ask(0, 3, 200, 255),
	}
}

func badAsks() []api.Ask {
	l := []api.Ask{
		{}, ask(2), ask(-1), {Level: 0, L: []int{}}, ask(-2, 0), ask(3, 0), ask(math.MaxInt, 0), ask(math.MinInt, 0), ask(2, 1), ask(2, 0, 1), ask(2, 0, 0), ask(2, -1),
		ask(1, 16), ask(1, -1), ask(1, 0, 16), ask(1, 1, 0), ask(1, 3, 3), ask(0, 256), ask(0, -1, 0), ask(0, 5, 4), ask(0, 255, 256),
		ask(-1, 4096), ask(-1, -1), ask(-1, 7, 6), ask(-1, 6, 6), ask(-1, 0, math.MaxInt), ask(-1, math.MinInt, 0), ask(0, math.MaxInt), ask(0, math.MinInt),
		ask(-1, upTo(4097)...), ask(0, upTo(257)...), ask(1, upTo(17)...),
	}
	return append(l, ask(-1, append(upTo(4096), 0)...))
}

func isGoodAsk(a api.Ask) bool {
	sizes := []int{4096, 256, 16, 1}
	if a.Level < -1 || a.Level > 2 || len(a.L) == 0 {
		return false
	}
	for i, at := range a.L {
		if at < 0 || at >= sizes[a.Level+1] || i > 0 && at <= a.L[i-1] {
			return false
		}
	}
	return true
}

// modelAsk is the bytes of an ask as the chapter tells them, straight on.
func modelAsk(a api.Ask) string {
	s := vint.Whole(a.Level) + vint.Num(len(a.L))
	for i, at := range a.L {
		if i == 0 {
			s += vint.Num(at)
		} else {
			s += vint.Num(at - a.L[i-1] - 1)
		}
	}
	return s
}

// modelTold is the bytes of a reply.
func modelTold(x api.Told) string {
	s := vint.Text(modelAsk(x.Ask))
	for _, n := range x.Kids {
		s += string([]byte{byte(n >> 24), byte(n >> 16), byte(n >> 8), byte(n)})
	}
	for _, c := range x.Cells {
		s += vint.Flag(c.Some)
		if c.Some {
			s += vint.Whole(c.Val)
		}
	}
	return s
}

// modelAnswer is what a tree tells, number by number.
func modelAnswer(x *merkle.Tree, a api.Ask) api.Told {
	told := api.Told{Ask: a}
	for _, at := range a.L {
		if a.Level < 0 {
			told.Cells = append(told.Cells, x.Get(at))
			continue
		}
		for child := 16 * at; child < 16*at+16; child++ {
			n, _ := x.Leaf(child)
			if a.Level > 0 {
				n, _ = x.Node(a.Level-1, child)
			}
			told.Kids = append(told.Kids, n)
		}
	}
	return told
}

// numbers are so many that are all other ones.
func numbers(n int) []uint32 {
	var l []uint32
	for i := range n {
		l = append(l, uint32(i+1)*2654435761)
	}
	return l
}

func goodReplies() []api.Told {
	return []api.Told{
		{Ask: ask(2, 0), Kids: make([]uint32, 16)}, {Ask: ask(1, 0, 7), Kids: numbers(32)}, {Ask: ask(0, upTo(256)...), Kids: numbers(4096)},
		{Ask: ask(0, 255), Kids: slices.Repeat([]uint32{math.MaxUint32}, 16)}, {Ask: ask(-1, 4095), Cells: []api.Cell{{}}},
		{Ask: ask(-1, 0, 4095), Cells: []api.Cell{some(api.MaxVal), some(-api.MaxVal)}}, {Ask: ask(-1, 3, 4, 5), Cells: []api.Cell{some(0), {}, some(-1)}},
		{Ask: ask(-1, upTo(4096)...), Cells: slices.Repeat([]api.Cell{some(5), {}}, 2048)},
	}
}

func badReplies() []api.Told {
	l := []api.Told{
		{}, {Ask: ask(2, 0)}, {Ask: ask(2, 0), Kids: numbers(15)}, {Ask: ask(2, 0), Kids: numbers(17)}, {Ask: ask(1, 0, 1), Kids: numbers(16)}, {Ask: ask(0, 0, 1), Kids: numbers(33)},
		{Ask: ask(2, 0), Kids: numbers(16), Cells: make([]api.Cell, 1)}, {Ask: ask(2, 0), Cells: make([]api.Cell, 16)}, {Ask: ask(2, 0), Cells: make([]api.Cell, 1)},
		{Ask: ask(-1, 5)}, {Ask: ask(-1, 5), Cells: make([]api.Cell, 2)}, {Ask: ask(-1, 5, 6), Cells: make([]api.Cell, 1)}, {Ask: ask(-1, 5), Kids: numbers(1)}, {Ask: ask(-1, 5), Kids: numbers(16)},
		{Ask: ask(-1, 5), Kids: numbers(1), Cells: make([]api.Cell, 1)}, {Ask: ask(-1, 5), Kids: numbers(16), Cells: make([]api.Cell, 1)},
	}
	for _, c := range []api.Cell{{Val: 1}, {Val: -1}, some(api.MaxVal + 1), some(-api.MaxVal - 1), some(math.MaxInt), some(math.MinInt), {Val: math.MinInt}} {
		l = append(l, api.Told{Ask: ask(-1, 5), Cells: []api.Cell{c}}, api.Told{Ask: ask(-1, 5, 6, 7), Cells: []api.Cell{some(1), {}, c}})
	}
	for _, a := range badAsks() {
		if len(a.L) < 300 {
			l = append(l, api.Told{Ask: a, Kids: numbers(16 * len(a.L))}, api.Told{Ask: a, Cells: make([]api.Cell, len(a.L))})
		}
	}
	return l
}

// Promise 26.1: replies are a tree's numbers and cells.
func TestAnswer(t *testing.T) {
	for _, l := range [][]api.Pair{nil, own(), other(), pairs(0, 0, 4095, -1, 2048, api.MaxVal)[:2]} {
		x := tree(t, l)
		for _, a := range goodAsks() {
			if told, e := mend.Answer(x, a); e != api.OK || !reflect.DeepEqual(told, modelAnswer(x, a)) {
				t.Errorf("Answer(%v) of %v: %v, %v, want %v", a, l, told, e, modelAnswer(x, a))
			}
		}
	}
	for _, a := range badAsks() {
		if told, e := mend.Answer(tree(t, own()), a); e != api.ErrArg || !reflect.DeepEqual(told, api.Told{}) {
			t.Errorf("Answer(%v): %v, %v", a, told, e)
		}
	}
	for _, a := range append(goodAsks(), badAsks()...) {
		if told, e := mend.Answer(nil, a); e != api.ErrArg || !reflect.DeepEqual(told, api.Told{}) {
			t.Errorf("Answer(%v) of no tree: %v, %v", a, told, e)
		}
	}
	if mend.MaxKeys != 4096 {
		t.Errorf("MaxKeys: %d", mend.MaxKeys)
	}
}

// Promise 26.1: the bytes of asks; and (26.3) they come back.
func TestAskText(t *testing.T) {
	if s := mend.AskText(ask(0, 0, 18)); s != bytes(t, "00 02 00 11") {
		t.Errorf("AskText: %x", s)
	}
	if s := mend.AskText(ask(2, 0)); s != bytes(t, "04 01 00") {
		t.Errorf("AskText: %x", s)
	}
	if s := mend.AskText(ask(-1, 6, 7, 300)); s != bytes(t, "01 03 06 00 a4 02") {
		t.Errorf("AskText: %x", s)
	}
	for _, a := range goodAsks() {
		s := mend.AskText(a)
		if s != modelAsk(a) {
			t.Errorf("AskText(%v): %x, want %x", a, s, modelAsk(a))
		}
		if back, e := mend.ReadAsk(s); e != api.OK || !reflect.DeepEqual(back, a) {
			t.Errorf("ReadAsk(%x): %v, %v", s, back, e)
		}
	}
	for _, a := range badAsks() {
		if s := mend.AskText(a); s != "" {
			t.Errorf("AskText(%v): %x", a, s)
		}
	}
}

func checkNotAsk(t *testing.T, s string) {
	t.Helper()
	if a, e := mend.ReadAsk(s); e != api.ErrForm || !reflect.DeepEqual(a, api.Ask{}) {
		t.Errorf("ReadAsk(%x): %v, %v", s, a, e)
	}
}

func checkNotTold(t *testing.T, s string) {
	t.Helper()
	if x, e := mend.Read(s); e != api.ErrForm || !reflect.DeepEqual(x, api.Told{}) {
		t.Errorf("Read(%x): %v, %v", s, x, e)
	}
}

// checkBytes asks that bytes are those of what they hold, as an ask and as a reply, or hold nothing.
func checkBytes(t *testing.T, s string) {
	t.Helper()
	if a, e := mend.ReadAsk(s); e != api.OK {
		checkNotAsk(t, s)
	} else if !isGoodAsk(a) || mend.AskText(a) != s {
		t.Errorf("ReadAsk(%x): %v", s, a)
	}
	if x, e := mend.Read(s); e != api.OK {
		checkNotTold(t, s)
	} else if mend.Text(x) != s || modelTold(x) != s {
		t.Errorf("Read(%x): %v", s, x)
	}
}

// Promise 26.1: bytes that are no ask's.
func TestReadAsk(t *testing.T) {
	for _, s := range []string{
		"", "00", "00 00", "00 01", "00 02 00", "00 01 00 00", "04 01 01", "04 02 00 00", "06 01 00", "03 01 00", "02 01 10", "02 02 0f 00", "00 01 80 02", "00 02 ff 01 00", "01 01 80 20", "01 02 ff 1f 00",
		"80 00 01 00", "00 81 00 00", "00 01 80 00", "00 01 ff ff ff ff ff ff ff ff 7f", "01 02 00 ff ff ff ff ff ff ff ff 7f", "01 02 05 fe ff ff ff ff ff ff ff 7f", "00 ff ff ff ff ff ff ff ff 7f 00", "01 ff ff ff ff ff ff ff ff 7f",
	} {
		checkNotAsk(t, bytes(t, s))
	}
	for _, n := range []int{4097, 5000, 1 << 40} {
		checkNotAsk(t, "\x01"+vint.Num(n)+strings.Repeat("\x00", min(n, 6000)))
	}
	for _, s := range []string{"00 01 ff 01", "02 01 0f", "01 01 ff 1f", "04 01 00", "01 02 fe 1f 00"} {
		checkBytes(t, bytes(t, s))
		if _, e := mend.ReadAsk(bytes(t, s)); e != api.OK {
			t.Errorf("ReadAsk(%s): %v", s, e)
		}
	}
}

// Promise 26.1: the bytes of replies; and (26.3) they come back.
func TestText(t *testing.T) {
	x := api.Told{Ask: ask(-1, 6, 7, 300), Cells: []api.Cell{{}, some(2), some(-1)}}
	if s := mend.Text(x); s != bytes(t, "06 01 03 06 00 a4 02 00 01 04 01 01") {
		t.Errorf("Text: %x", s)
	}
	x = api.Told{Ask: ask(2, 0), Kids: append([]uint32{0x01020304, 0xfffefdfc}, make([]uint32, 14)...)}
	if s := mend.Text(x); s != bytes(t, "03 04 01 00 01 02 03 04 ff fe fd fc")+strings.Repeat("\x00", 56) {
		t.Errorf("Text: %x", s)
	}
	for _, x := range goodReplies() {
		s := mend.Text(x)
		if s != modelTold(x) {
			t.Errorf("Text(%v): %x, want %x", x, s, modelTold(x))
		}
		if back, e := mend.Read(s); e != api.OK || !reflect.DeepEqual(back, x) {
			t.Errorf("Read(%x): %v, %v", s, back, e)
		}
	}
	for _, x := range badReplies() {
		if s := mend.Text(x); s != "" {
			t.Errorf("Text(%v): %x", x, s)
		}
	}
}

// Promise 26.1: bytes that are no reply's; a cell without a value has no bytes that tell one.
func TestRead(t *testing.T) {
	for _, x := range badReplies() {
		told := isGoodAsk(x.Ask) && x.Ask.Level < 0 && len(x.Kids) == 0 && len(x.Cells) == len(x.Ask.L) && slices.ContainsFunc(x.Cells, func(c api.Cell) bool { return !c.Some && c.Val != 0 })
		if s := modelTold(x); told {
			checkBytes(t, s)
		} else {
			checkNotTold(t, s)
		}
	}
	for _, s := range []string{
		"", "00", "03", "03 04 01", "03 04 01 00", "04 01 01 05 00", "03 01 01 05", "03 01 01 05 00 00", "03 01 01 05 01", "03 01 01 05 02 00", "03 01 01 05 01 80 00", "83 00 01 01 05 00",
		"02 00 00", "02 01 00", "03 01 01 05 01 ff ff ff ff ff ff ff ff 7f",
	} {
		checkNotTold(t, bytes(t, s))
	}
	front := bytes(t, "03 04 01 00")
	for _, n := range []int{0, 1, 60, 63, 65, 68, 128} {
		checkNotTold(t, front+strings.Repeat("\x00", n))
	}
	if _, e := mend.Read(front + strings.Repeat("\x00", 64)); e != api.OK {
		t.Errorf("Read of 16 numbers: %v", e)
	}
	for _, n := range []int{1 << 30, math.MaxInt} {
		checkNotTold(t, vint.Num(n))
		checkNotTold(t, vint.Num(n)+"\x04\x01\x00")
		checkNotTold(t, vint.Text("\x01"+vint.Num(n)+"\x00"))
	}
}

// Promise 26.1: bytes that are a little other than an ask's or a reply's.
func TestAround(t *testing.T) {
	texts := []string{mend.AskText(ask(0, 0, 18)), mend.AskText(ask(-1, 6, 7, 300)), mend.AskText(ask(1, upTo(16)...)), mend.AskText(ask(2, 0))}
	for _, x := range goodReplies() {
		if len(x.Ask.L) < 100 {
			texts = append(texts, mend.Text(x))
		}
	}
	for _, s := range texts {
		for i := range len(s) {
			checkNotTold(t, s[:i])
			checkNotAsk(t, s[:i])
			for b := range 256 {
				checkBytes(t, s[:i]+string([]byte{byte(b)})+s[i+1:])
			}
			checkBytes(t, s[:i]+s[i+1:])
			checkBytes(t, s[:i]+"\x00"+s[i:])
		}
		checkNotTold(t, s+"\x00")
		checkNotAsk(t, s+"\x00")
	}
}

// Promise 26.2: the chapter's example, ask by ask.
func TestExample(t *testing.T) {
	m, x := mender(t, own()), tree(t, other())
	for _, want := range []api.Ask{ask(2, 0), ask(1, 0, 1), ask(0, 0, 18), ask(-1, 6, 7, 300)} {
		a, more := m.Ask()
		if !more || !reflect.DeepEqual(a, want) {
			t.Fatalf("Ask: %v, %v, want %v", a, more, want)
		}
		if l, over := m.Turns(); over || l != nil {
			t.Errorf("Turns ahead of the end: %v, %v", l, over)
		}
		if e := m.Hear(api.Told{Ask: a}); e != api.ErrArg {
			t.Errorf("Hear of nothing: %v", e)
		}
		if e := m.Hear(answer(t, x, a)); e != api.OK {
			t.Fatalf("Hear: %v", e)
		}
	}
	want := []api.Turn{{Key: 6, Was: some(2)}, {Key: 7, Is: some(2)}, {Key: 300, Was: some(3), Is: some(4)}}
	for range 2 {
		if l, over := m.Turns(); !over || !slices.Equal(l, want) {
			t.Errorf("Turns: %v, %v", l, over)
		}
		if a, more := m.Ask(); more || !reflect.DeepEqual(a, api.Ask{}) {
			t.Errorf("Ask at the end: %v, %v", a, more)
		}
		if e := m.Hear(answer(t, x, ask(-1, 6, 7, 300))); e != api.ErrArg {
			t.Errorf("Hear at the end: %v", e)
		}
	}
}

// Promise 26.2: tables that differ in one key; and the same ones, which have no turns after one ask.
func TestOneKey(t *testing.T) {
	m, x := mender(t, pairs(5, 7, 900, 1)), tree(t, pairs(5, 8, 900, 1))
	for _, want := range []api.Ask{ask(2, 0), ask(1, 0), ask(0, 0), ask(-1, 5)} {
		a, _ := m.Ask()
		if !reflect.DeepEqual(a, want) || m.Hear(answer(t, x, a)) != api.OK {
			t.Errorf("Ask: %v, want %v", a, want)
		}
	}
	if l, over := m.Turns(); !over || !slices.Equal(l, []api.Turn{{Key: 5, Was: some(7), Is: some(8)}}) {
		t.Errorf("Turns: %v, %v", l, over)
	}
	for _, l := range [][]api.Pair{nil, own(), other()} {
		m := mender(t, l)
		a, more := m.Ask()
		if !more || !reflect.DeepEqual(a, ask(2, 0)) || m.Hear(answer(t, tree(t, l), a)) != api.OK {
			t.Errorf("Ask: %v, %v", a, more)
		}
		if l, over := m.Turns(); !over || len(l) != 0 {
			t.Errorf("Turns of the same tables: %v, %v", l, over)
		}
		if a, more := m.Ask(); more || !reflect.DeepEqual(a, api.Ask{}) {
			t.Errorf("Ask at the end: %v, %v", a, more)
		}
		if e := m.Hear(answer(t, tree(t, l), ask(2, 0))); e != api.ErrArg {
			t.Errorf("Hear at the end: %v", e)
		}
	}
}

// Promise 26.2: what is no table has no mender.
func TestNew(t *testing.T) {
	for _, l := range [][]api.Pair{pairs(2, 0, 1, 0), pairs(1, 0, 1, 0), pairs(4096, 1), pairs(-1, 1), pairs(1, api.MaxVal+1), pairs(1, -api.MaxVal-1), pairs(1, math.MinInt)} {
		if m, e := mend.New(l); e != api.ErrArg || m != nil {
			t.Errorf("New(%v): %v, %v", l, m, e)
		}
	}
}

// Promise 26.2: what Hear refuses changes nothing, at any ask.
func TestHearRefused(t *testing.T) {
	m, x := mender(t, own()), tree(t, other())
	for {
		a, more := m.Ask()
		if !more {
			break
		}
		before := *m
		for _, told := range append(goodReplies(), badReplies()...) {
			if reflect.DeepEqual(told.Ask, a) && len(told.Kids) == 16*len(a.L) && len(told.Cells) == 0 {
				continue
			}
			if e := m.Hear(told); e != api.ErrArg {
				t.Errorf("Hear(%v) for %v: %v", told, a, e)
			}
		}
		for _, spoil := range []func(x *api.Told){
			func(x *api.Told) { x.Ask.Level++ }, func(x *api.Told) { x.Ask.Level-- }, func(x *api.Told) { x.Ask.L = append(x.Ask.L, 4000) }, func(x *api.Told) { x.Ask.L = x.Ask.L[1:] }, func(x *api.Told) { x.Ask.L[0]++ },
			func(x *api.Told) { x.Kids = append(x.Kids, 1) }, func(x *api.Told) { x.Cells = append(x.Cells, api.Cell{}) }, func(x *api.Told) { x.Kids, x.Cells = nil, nil },
			func(x *api.Told) { x.Kids, x.Cells = numbers(len(x.Cells)), make([]api.Cell, len(x.Kids)) },
		} {
			told := answer(t, x, a)
			spoil(&told)
			if e := m.Hear(told); e != api.ErrArg {
				t.Errorf("Hear(%v) for %v: %v", told, a, e)
			}
		}
		if a.Level == -1 {
			for _, c := range []api.Cell{{Val: 1}, some(api.MaxVal + 1), some(-api.MaxVal - 1)} {
				told := answer(t, x, a)
				told.Cells[len(told.Cells)-1] = c
				if e := m.Hear(told); e != api.ErrArg {
					t.Errorf("Hear(%v): %v", told, e)
				}
			}
		}
		if !reflect.DeepEqual(before, *m) {
			t.Fatalf("the mender is another one: %v, %v", before, *m)
		}
		if m.Hear(answer(t, x, a)) != api.OK {
			t.Errorf("Hear for %v", a)
		}
	}
	if l, over := m.Turns(); !over || len(l) != 3 {
		t.Errorf("Turns: %v, %v", l, over)
	}
}

// Promise 26.2: replies that no tree tells: numbers may differ at a level and
// not below it, and cells may be what they are already.
func TestLies(t *testing.T) {
	x := tree(t, own())
	for level := 2; level >= 0; level-- {
		m := mender(t, own())
		for at := 2; at >= level; at-- {
			a, _ := m.Ask()
			told := answer(t, x, a)
			if at > level {
				told.Kids[3]++
			}
			if e := m.Hear(told); e != api.OK {
				t.Errorf("Hear(%v): %v", told, e)
			}
		}
		if l, over := m.Turns(); !over || len(l) != 0 {
			t.Errorf("level %d: %v, %v", level, l, over)
		}
	}
	m := mender(t, own())
	for level := 2; level >= 0; level-- {
		a, _ := m.Ask()
		told := answer(t, x, a)
		for i := range told.Kids {
			told.Kids[i]++
		}
		if e := m.Hear(told); e != api.OK {
			t.Errorf("Hear at level %d: %v", level, e)
		}
	}
	a, _ := m.Ask()
	if !reflect.DeepEqual(a, ask(-1, upTo(4096)...)) {
		t.Errorf("Ask: %v", a)
	}
	if e := m.Hear(answer(t, tree(t, other()), a)); e != api.OK {
		t.Errorf("Hear: %v", e)
	}
	if l, over := m.Turns(); !over || len(l) != 3 || l[0] != (api.Turn{Key: 6, Was: some(2)}) {
		t.Errorf("Turns: %v, %v", l, over)
	}
}

// Promise 26.2: a nil mender.
func TestNil(t *testing.T) {
	var m *mend.Mender
	if a, more := m.Ask(); more || !reflect.DeepEqual(a, api.Ask{}) {
		t.Errorf("Ask: %v, %v", a, more)
	}
	if e := m.Hear(answer(t, tree(t, nil), ask(2, 0))); e != api.ErrArg {
		t.Errorf("Hear: %v", e)
	}
	if l, over := m.Turns(); over || l != nil {
		t.Errorf("Turns: %v, %v", l, over)
	}
}

// random is a table by chance, and near is one that differs from it in some keys.
func random(r *rand.Rand, n int) []api.Pair {
	keys := r.Perm(api.MaxKey)[:n]
	slices.Sort(keys)
	var l []api.Pair
	for _, key := range keys {
		l = append(l, api.Pair{Key: key, Val: r.Intn(2*api.MaxVal+1) - api.MaxVal})
	}
	return l
}

func near(r *rand.Rand, l []api.Pair, n int) []api.Pair {
	cells := map[int]int{}
	for _, p := range l {
		cells[p.Key] = p.Val
	}
	for range n {
		key := r.Intn(api.MaxKey)
		if r.Intn(3) == 0 {
			delete(cells, key)
		} else {
			cells[key] = r.Intn(100) - 50
		}
	}
	var out []api.Pair
	for key := range api.MaxKey {
		if val, is := cells[key]; is {
			out = append(out, api.Pair{Key: key, Val: val})
		}
	}
	return out
}

// differing are the keys whose numbers two trees do not have in common, nor
// those of the nodes above; the root's children are asked for in any case.
func differing(a, b *merkle.Tree) []int {
	var l []int
	for key := range api.MaxKey {
		m, _ := a.Leaf(key)
		n, _ := b.Leaf(key)
		apart := m != n
		at := key
		for level := range 2 {
			at /= 16
			m, _ := a.Node(level, at)
			n, _ := b.Node(level, at)
			apart = apart && m != n
		}
		if apart {
			l = append(l, key)
		}
	}
	return l
}

// mendAll lets a mender hear a tree till it is finished, by bytes, and tells its asks.
func mendAll(t *testing.T, l []api.Pair, x *merkle.Tree) (turns []api.Turn, asks int) {
	t.Helper()
	m := mender(t, l)
	for a, more := m.Ask(); more; a, more = m.Ask() {
		asks++
		there, e := mend.ReadAsk(mend.AskText(a))
		if e != api.OK || !reflect.DeepEqual(there, a) {
			t.Fatalf("ReadAsk of %v: %v, %v", a, there, e)
		}
		told := answer(t, x, there)
		back, e := mend.Read(mend.Text(told))
		if e != api.OK || !reflect.DeepEqual(back, told) || m.Hear(back) != api.OK {
			t.Fatalf("Read of %v: %v, %v", told, back, e)
		}
	}
	turns, over := m.Turns()
	if !over {
		t.Fatalf("no turns at the end")
	}
	return turns, asks
}

// checkMend asks for what follows of a mender and a tree.
func checkMend(t *testing.T, l, other []api.Pair) {
	t.Helper()
	x, y := tree(t, l), tree(t, other)
	turns, asks := mendAll(t, l, y)
	keys := differing(x, y)
	if len(keys) == 0 && asks != 1 || len(keys) > 0 && asks != 4 {
		t.Errorf("%d asks for %d keys", asks, len(keys))
	}
	if !delta.Fits(l, turns) {
		t.Errorf("turns do not fit: %v", turns)
	}
	var want []api.Turn
	for _, key := range keys {
		want = append(want, api.Turn{Key: key, Was: x.Get(key), Is: y.Get(key)})
	}
	if !slices.Equal(turns, want) {
		t.Errorf("turns %v, want %v", turns, want)
	}
	made, e := delta.Make(l, turns)
	if e != api.OK {
		t.Fatalf("Make: %v", e)
	}
	z := tree(t, made)
	for key := range api.MaxKey {
		is := x.Get(key)
		if slices.Contains(keys, key) {
			is = y.Get(key)
		}
		if z.Get(key) != is {
			t.Fatalf("key %d: %v, want %v", key, z.Get(key), is)
		}
	}
}

// Promise 26.3: any two tables.
func TestMend(t *testing.T) {
	r := rand.New(rand.NewSource(26))
	l := [][]api.Pair{nil, own(), other(), random(r, 300), random(r, 4096), pairs(0, 0), pairs(4095, 0)}
	for _, p := range l {
		for _, q := range l {
			checkMend(t, p, q)
		}
		for _, n := range []int{1, 2, 10, 200} {
			checkMend(t, p, near(r, p, n))
		}
	}
}

// Promise 26.3: two values whose leaves have the same number: their keys stay.
func TestTwins(t *testing.T) {
	a, b := twins()
	if a == b || merkle.Number(some(a)) != merkle.Number(some(b)) {
		t.Fatalf("%x and %x are no twins", a, b)
	}
	checkMend(t, pairs(5, a), pairs(5, b))
	checkMend(t, pairs(5, a, 6, 1), pairs(5, b, 6, 2))
	if turns, _ := mendAll(t, pairs(5, a, 6, 1), tree(t, pairs(5, b, 6, 2))); !slices.Equal(turns, []api.Turn{{Key: 6, Was: some(1), Is: some(2)}}) {
		t.Errorf("turns: %v", turns)
	}
}

// Promise 26.3: tables that differ below nodes that have the same number: their keys stay, too.
func TestNodeTwins(t *testing.T) {
	for _, l := range [][2][]api.Pair{
		{pairs(0, 71609, 1, 567071684), pairs(0, 77597, 1, 614490656)},
		{pairs(0, 75823, 16, 600442350), pairs(0, 128205, 16, 1015255408)},
		{pairs(0, 39438, 256, 312309535), pairs(0, 156756, 256, 1241350777)},
	} {
		if tree(t, l[0]).Root() != tree(t, l[1]).Root() {
			t.Fatalf("%v and %v have two roots", l[0], l[1])
		}
		checkMend(t, l[0], l[1])
		checkMend(t, l[0], append(slices.Clone(l[1]), api.Pair{Key: 4000, Val: 1}))
	}
}

// twins are two values whose leaves have the same number, found by elimination,
// since a sum is a linear thing.
func twins() (a, b int) {
	var rows [32][2]uint64 // by the top bit of a sum: the sum, and the bits that make it
	zero := merkle.Number(some(0))
	for i := range 40 {
		sum, made := uint64(merkle.Number(some(1<<i))^zero), uint64(1)<<i
		for bit := 31; bit >= 0 && sum != 0; bit-- {
			if sum>>bit&1 == 0 {
				continue
			}
			if rows[bit][0] == 0 {
				rows[bit] = [2]uint64{sum, made}
				break
			}
			sum, made = sum^rows[bit][0], made^rows[bit][1]
		}
		if sum == 0 {
			return 0, int(made)
		}
	}
	return 0, 0
}

// Promises 26.1 and 26.2 with R3: what is handed in is neither changed nor kept, and what is answered is new.
func TestNothingShared(t *testing.T) {
	l := own()
	m, x := mender(t, l), tree(t, other())
	clear(l)
	for range 4 {
		a, _ := m.Ask()
		told := answer(t, x, a)
		want := modelAnswer(x, api.Ask{Level: a.Level, L: slices.Clone(a.L)})
		mend.Text(told)
		mend.AskText(a)
		if m.Hear(told) != api.OK || !reflect.DeepEqual(told, want) {
			t.Errorf("Hear changed what it was handed: %v", told)
		}
		clear(a.L)
		if !reflect.DeepEqual(told, want) {
			t.Errorf("a reply shares its ask")
		}
		clear(told.Ask.L)
		clear(told.Kids)
		clear(told.Cells)
		if next, more := m.Ask(); more {
			clear(next.L)
		}
	}
	want := []api.Turn{{Key: 6, Was: some(2)}, {Key: 7, Is: some(2)}, {Key: 300, Was: some(3), Is: some(4)}}
	for range 2 {
		got, _ := m.Turns()
		if !slices.Equal(got, want) {
			t.Errorf("Turns: %v", got)
		}
		clear(got)
	}
}

// Promise 26.1: whatever the bytes are.
func FuzzRead(f *testing.F) {
	for _, a := range goodAsks()[:8] {
		f.Add(mend.AskText(a))
	}
	for _, x := range goodReplies()[:7] {
		f.Add(mend.Text(x))
	}
	f.Add("")
	f.Fuzz(checkBytes)
}

// Promise 26.3: whatever two tables are that differ in some keys.
func FuzzMend(f *testing.F) {
	f.Add(int64(1), 3, 300)
	f.Add(int64(2), 0, 0)
	f.Fuzz(func(t *testing.T, seed int64, many, size int) {
		r := rand.New(rand.NewSource(seed))
		l := random(r, (size%4097+4097)%4097)
		checkMend(t, l, near(r, l, (many%500+500)%500))
	})
}
