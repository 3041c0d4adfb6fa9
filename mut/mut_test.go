package mut_test

import (
	"cmp"
	"math"
	"math/rand"
	"slices"
	"strings"
	"testing"

	"splice/api"
	"splice/mut"
	"splice/span"
	"splice/vint"
)

// pairs are the pairs of keys and values that stand two by two.
func pairs(l ...int) []api.Pair {
	var out []api.Pair
	for i := 0; i+1 < len(l); i += 2 {
		out = append(out, api.Pair{Key: l[i], Val: l[i+1]})
	}
	return out
}

func put(l ...int) api.Mut {
	return api.Mut{Client: 1, Seq: 2, Kind: api.MutPut, Pairs: pairs(l...)}
}

func del(lo, hi int) api.Mut {
	return api.Mut{Client: 3, Seq: 1, Kind: api.MutDel, Over: api.Span{Lo: lo, Hi: hi}}
}

func add(key, val int) api.Mut {
	return api.Mut{Client: 1, Seq: 1, Kind: api.MutAdd, Pairs: pairs(key, val)}
}

func cas(key, val, old int) api.Mut {
	return api.Mut{Client: 2, Seq: 5, Kind: api.MutCas, Pairs: pairs(key, val), Old: old}
}

func move(from, to, val int) api.Mut {
	return api.Mut{Client: 1, Seq: 1, Kind: api.MutMove, Pairs: pairs(from, val, to, val)}
}

// by is the mutation as one of another client, with another number.
func by(client, seq int, m api.Mut) api.Mut {
	m.Client, m.Seq = client, seq
	return m
}

// sample is a valid mutation, the keys that it touches, and its bytes.
type sample struct {
	m     api.Mut
	touch []api.Span
	text  string
}

func at(ends ...int) []api.Span {
	var l []api.Span
	for i := 0; i+1 < len(ends); i += 2 {
		l = append(l, api.Span{Lo: ends[i], Hi: ends[i+1]})
	}
	return l
}

const (
	mostVal  = "\x80\x80\x80\x80\x80\x40" // the greatest value
	leastVal = "\xff\xff\xff\xff\xff\x3f" // the least one
	absent   = "\x82\x80\x80\x80\x80\x40" // Absent
)

func samples() []sample {
	return []sample{
		{put(5, 7), at(5, 6), "\x01\x02\x01\x01\x05\x0e"},
		{put(5, 7, 300, -1), at(5, 6, 300, 301), "\x01\x02\x01\x02\x05\x0e\xac\x02\x01"},
		{put(5, 0, 6, 0, 7, 0, 9, 0), at(5, 8, 9, 10), "\x01\x02\x01\x04\x05\x00\x06\x00\x07\x00\x09\x00"},
		{put(0, 0), at(0, 1), "\x01\x02\x01\x01\x00\x00"},
		{put(0, -api.MaxVal, 4094, 1, 4095, api.MaxVal), at(0, 1, 4094, 4096), "\x01\x02\x01\x03\x00" + leastVal + "\xfe\x1f\x02\xff\x1f" + mostVal},
		{put(1, 1, 3, 1, 5, 1, 7, 1, 9, 1, 11, 1, 13, 1, 15, 1), at(1, 2, 3, 4, 5, 6, 7, 8, 9, 10, 11, 12, 13, 14, 15, 16),
			"\x01\x02\x01\x08\x01\x02\x03\x02\x05\x02\x07\x02\x09\x02\x0b\x02\x0d\x02\x0f\x02"},
		{del(2, 9), at(2, 9), "\x03\x01\x02\x00\x02\x09"},
		{del(0, 4096), at(0, 4096), "\x03\x01\x02\x00\x00\x80\x20"},
		{del(0, 1), at(0, 1), "\x03\x01\x02\x00\x00\x01"},
		{del(4095, 4096), at(4095, 4096), "\x03\x01\x02\x00\xff\x1f\x80\x20"},
		{add(5, 3), at(5, 6), "\x01\x01\x03\x01\x05\x06"},
		{add(0, -api.MaxVal), at(0, 1), "\x01\x01\x03\x01\x00" + leastVal},
		{add(4095, api.MaxVal), at(4095, 4096), "\x01\x01\x03\x01\xff\x1f" + mostVal},
		{cas(0, 1, api.Absent), at(0, 1), "\x02\x05\x04\x01\x00\x02" + absent},
		{cas(4095, api.MaxVal, -api.MaxVal), at(4095, 4096), "\x02\x05\x04\x01\xff\x1f" + mostVal + leastVal},
		{cas(7, -api.MaxVal, api.MaxVal), at(7, 8), "\x02\x05\x04\x01\x07" + leastVal + mostVal},
		{cas(7, 0, 0), at(7, 8), "\x02\x05\x04\x01\x07\x00\x00"},
		{move(9, 4, 3), at(4, 5, 9, 10), "\x01\x01\x05\x02\x09\x06\x04\x06"},
		{move(4, 9, 3), at(4, 5, 9, 10), "\x01\x01\x05\x02\x04\x06\x09\x06"},
		{move(4, 5, 0), at(4, 6), "\x01\x01\x05\x02\x04\x00\x05\x00"},
		{move(5, 4, 1), at(4, 6), "\x01\x01\x05\x02\x05\x02\x04\x02"},
		{move(4095, 0, api.MaxVal), at(0, 1, 4095, 4096), "\x01\x01\x05\x02\xff\x1f" + mostVal + "\x00" + mostVal},
		{by(api.MaxClient, api.MaxSeq, del(2, 9)), at(2, 9), "\x80\x80\x40\x80\x80\x80\x80\x04\x02\x00\x02\x09"},
		{by(api.MaxClient, 1, add(1, 1)), at(1, 2), "\x80\x80\x40\x01\x03\x01\x01\x02"},
		{by(1, api.MaxSeq, cas(1, 1, 1)), at(1, 2), "\x01\x80\x80\x80\x80\x04\x04\x01\x01\x02\x02"},
	}
}

// changed is the mutation with something done to it; its pairs are its own.
func changed(m api.Mut, do func(m *api.Mut)) api.Mut {
	m.Pairs = slices.Clone(m.Pairs)
	do(&m)
	return m
}

// badMuts are mutations that may not be: each kind with each field that may not be so.
func badMuts() []api.Mut {
	l := []api.Mut{{}, {Client: 1, Seq: 1}, put(), put(2, 0, 1, 0), put(1, 0, 1, 0), put(1, 1, 3, 1, 2, 1), put(1, 1, 3, 1, 3, 1), put(2, 1, 1, 1, 3, 1),
		put(1, 1, 3, 1, 5, 1, 7, 1, 9, 1, 11, 1, 13, 1, 15, 1, 17, 1), // one pair too many
		move(1, 1, 2), move(0, 0, 0), move(1, 2, -1), move(1, 2, -api.MaxVal), move(1, 2, api.MaxVal+1),
		cas(1, 1, api.Absent+1), cas(1, 1, -api.MaxVal-1), cas(1, 1, -api.Absent), cas(1, 1, math.MaxInt), cas(1, 1, math.MinInt)}
	for _, p := range [][]api.Pair{nil, {}, pairs(1, 1, 2, 1), pairs(1, 1, 2, 1, 3, 1)} {
		l = append(l, changed(add(1, 1), func(m *api.Mut) { m.Pairs = p }), changed(cas(1, 1, 1), func(m *api.Mut) { m.Pairs = p }))
	}
	for _, p := range [][]api.Pair{nil, pairs(1, 2), pairs(1, 2, 3, 2, 5, 2), pairs(1, 2, 3, 4), pairs(1, 2, 3, -2), pairs(1, -2, 3, 2)} {
		l = append(l, changed(move(1, 2, 3), func(m *api.Mut) { m.Pairs = p }))
	}
	for _, o := range at(3, 3, 4, 3, -1, 2, 0, 4097, 4096, 4097, 0, 0, math.MinInt, math.MaxInt) {
		l = append(l, del(o.Lo, o.Hi))
	}
	for _, m := range []api.Mut{put(5, 7), put(5, 7, 300, -1), del(2, 9), add(5, 3), cas(5, 7, 1), cas(5, 7, api.Absent), cas(5, 7, 0), move(9, 4, 3)} {
		l = append(l, badFields(m)...)
	}
	return l
}

// badFields are what a valid mutation becomes by one field that may not be so.
func badFields(m api.Mut) []api.Mut {
	var l []api.Mut
	change := func(do func(m *api.Mut)) { l = append(l, changed(m, do)) }
	for _, n := range []int{0, -1, math.MinInt, math.MaxInt} {
		change(func(m *api.Mut) { m.Client = n })
		change(func(m *api.Mut) { m.Seq = n })
	}
	change(func(m *api.Mut) { m.Client = api.MaxClient + 1 })
	change(func(m *api.Mut) { m.Seq = api.MaxSeq + 1 })
	for _, kind := range []int{0, -1, 6, 128, math.MinInt, math.MaxInt} {
		change(func(m *api.Mut) { m.Kind = kind })
	}
	if m.Kind != api.MutDel {
		for _, o := range at(2, 9, 0, 1, 1, 0, -1, 0) {
			change(func(m *api.Mut) { m.Over = o })
		}
	} else {
		change(func(m *api.Mut) { m.Pairs = pairs(5, 7) })
		change(func(m *api.Mut) { m.Pairs = pairs(0, 0) })
	}
	if m.Kind != api.MutCas {
		for _, old := range []int{1, -1, api.Absent} {
			change(func(m *api.Mut) { m.Old = old })
		}
	}
	for i := range m.Pairs {
		for _, key := range []int{-1, api.MaxKey, api.MaxKey + 1, math.MinInt, math.MaxInt} {
			change(func(m *api.Mut) { m.Pairs[i].Key = key })
		}
		for _, val := range []int{api.MaxVal + 1, -api.MaxVal - 1, api.Absent, math.MinInt, math.MaxInt} {
			change(func(m *api.Mut) { m.Pairs[i].Val = val })
		}
	}
	return l
}

// bytesOf is what a mutation's bytes would be, whether or not it may be, as far as its numbers have bytes.
func bytesOf(m api.Mut) string {
	s := vint.Num(m.Client) + vint.Num(m.Seq) + vint.Num(m.Kind) + vint.Num(len(m.Pairs))
	for _, p := range m.Pairs {
		s += vint.Num(p.Key) + vint.Whole(p.Val)
	}
	if m.Kind == api.MutDel {
		s += vint.Num(m.Over.Lo) + vint.Num(m.Over.Hi)
	}
	if m.Kind == api.MutCas {
		s += vint.Whole(m.Old)
	}
	return s
}

// isZero tells whether all of a mutation is zero.
func isZero(m api.Mut) bool {
	return m.Client == 0 && m.Seq == 0 && m.Kind == 0 && len(m.Pairs) == 0 && m.Over == api.Span{} && m.Old == 0
}

// Promise 4.1: Check.
func TestCheck(t *testing.T) {
	for _, x := range samples() {
		if !mut.Check(x.m) {
			t.Errorf("%v may not be", x.m)
		}
	}
	if m := changed(del(2, 9), func(m *api.Mut) { m.Pairs = []api.Pair{} }); !mut.Check(m) {
		t.Errorf("an empty list of pairs is not as none")
	}
	for i, m := range badMuts() {
		if mut.Check(m) {
			t.Errorf("%d: %v may be", i, m)
		}
	}
}

// Promise 4.1: Touch.
func TestTouch(t *testing.T) {
	for _, x := range samples() {
		l := mut.Touch(x.m)
		if !slices.Equal(l, x.touch) || !span.Check(l) {
			t.Errorf("%v touches %v, not %v", x.m, l, x.touch)
		}
	}
	for _, m := range badMuts() {
		if l := mut.Touch(m); len(l) != 0 {
			t.Errorf("%v touches %v", m, l)
		}
	}
}

// Promise 4.1: Alone, and that such a mutation touches one key.
func TestAlone(t *testing.T) {
	for _, x := range samples() {
		want := x.m.Kind == api.MutAdd || x.m.Kind == api.MutCas
		if mut.Alone(x.m) != want {
			t.Errorf("Alone(%v): %v", x.m, !want)
		}
		if want && span.Count(mut.Touch(x.m)) != 1 {
			t.Errorf("%v touches %v", x.m, mut.Touch(x.m))
		}
	}
	for _, m := range badMuts() {
		if mut.Alone(m) {
			t.Errorf("Alone(%v)", m)
		}
	}
}

// Promise 4.2: Text.
func TestText(t *testing.T) {
	for _, x := range samples() {
		if s := mut.Text(x.m); s != x.text {
			t.Errorf("Text(%v): %x, not %x", x.m, s, x.text)
		}
	}
	for _, m := range badMuts() {
		if s := mut.Text(m); s != "" {
			t.Errorf("Text(%v): %x", m, s)
		}
	}
}

// Promise 4.2: Read of what encodes a mutation.
func TestRead(t *testing.T) {
	for _, x := range samples() {
		if m, e := mut.Read(x.text); !mut.Same(m, x.m) || e != api.OK {
			t.Errorf("Read(%x): %v, %v, not %v", x.text, m, e, x.m)
		}
	}
}

// refuses tells whether Read answers this error and nothing else.
func refuses(s string, want api.Errno) bool {
	m, e := mut.Read(s)
	return e == want && isZero(m)
}

// Promise 4.2: the errors of Read.
func TestReadErrors(t *testing.T) {
	nine := strings.Repeat("\xff", 9)
	for s, want := range map[string]api.Errno{
		"":                                                         api.ErrShort,
		"\x01":                                                     api.ErrShort,
		"\x01\x01\x02":                                             api.ErrShort,
		"\x01\x01\x06\x00":                                         api.ErrForm,
		"\x01\x01\x00\x00":                                         api.ErrForm,
		"\x00\x00\x00\x00":                                         api.ErrForm,
		"\x01\x01\x06\x00\x00":                                     api.ErrLong, // no kind, but bytes are left
		"\x01\x01\x06\x01":                                         api.ErrShort,
		"\x01\x01\x06\x01\x05":                                     api.ErrShort,
		"\x01\x01\x06\x01\x05\x06":                                 api.ErrForm,
		"\x01\x01\x02\x00\x02\x09\x00":                             api.ErrLong,
		"\x01\x01\x02\x00\x09\x02":                                 api.ErrForm,
		"\x01\x01\x02\x00\x09\x02\x00":                             api.ErrLong,
		"\x01\x01\x02\x00\x09":                                     api.ErrShort,
		"\x01\x01\x02\x00\x00\x81\x20":                             api.ErrForm, // a span beyond MaxKey
		"\x01\x01\x02\x01\x05\x06\x02\x09":                         api.ErrForm, // a MutDel with a pair
		"\x01\x01\x02\x01\x05\x06":                                 api.ErrShort,
		"\x01\x01\x01\x00":                                         api.ErrForm, // a MutPut without a pair
		"\x01\x01\x01\x00\x00\x00":                                 api.ErrLong, // with a span
		"\x01\x01\x01\x02\x02\x00\x01\x00":                         api.ErrForm,
		"\x01\x01\x03\x01\x05\x06\x00":                             api.ErrLong, // a MutAdd with Old
		"\x01\x01\x04\x01\x05\x06":                                 api.ErrShort,
		"\x01\x01\x05\x02\x01\x04\x01\x04":                         api.ErrForm,
		"\x01\x01\x05\x02\x01\x03\x02\x03":                         api.ErrForm,
		"\x00\x01\x02\x00\x02\x09":                                 api.ErrForm,
		"\x01\x00\x02\x00\x02\x09":                                 api.ErrForm,
		"\x81\x80\x40\x01\x02\x00\x02\x09":                         api.ErrForm, // MaxClient + 1
		"\x01\x81\x80\x80\x80\x04\x02\x00\x02\x09":                 api.ErrForm, // MaxSeq + 1
		"\x01\x01\x03\x01\x80\x20\x06":                             api.ErrForm, // the key MaxKey
		"\x01\x01\x03\x01\x05" + absent:                            api.ErrForm,
		"\x01\x01\x03\x01\x05\x81\x80\x80\x80\x80@":                api.ErrForm, // -MaxVal - 1
		"\x01\x01\x04\x01\x05\x06" + absent:                        api.OK,
		"\x01\x01\x04\x01\x05\x06\x84\x80\x80\x80\x80@":            api.ErrForm, // Absent + 1
		"\x81\x00\x01\x02\x00\x02\x09":                             api.ErrForm, // more bytes than necessary
		"\x01\x01\x82\x00\x00\x02\x09":                             api.ErrForm,
		"\x01\x01\x02\x80\x00\x02\x09":                             api.ErrForm,
		"\x01\x01\x02\x00\x82\x00\x09\x09":                         api.ErrForm,
		"\x01\x01\x03\x01\x05\x86\x00":                             api.ErrForm,
		"\x80\x00":                                                 api.ErrForm, // ahead of the bytes' end
		"\x01\x80":                                                 api.ErrShort,
		nine:                                                       api.ErrShort,
		nine + "\x01":                                              api.ErrForm,
		"\x01\x01" + nine + "\x01\x00":                             api.ErrForm,
		"\x01\x01\xff\xff\xff\xff\xff\xff\xff\xff\x7f\x00":         api.ErrForm,  // the kind 2^63 - 1
		"\x01\x01\x01\xff\xff\xff\xff\xff\xff\xff\xff\x7f\x00\x00": api.ErrShort, // that many pairs
		"\x01\x01\x01\xff\xff\xff\xff\xff\xff\xff\xff\x7f\x00\x80\x00":             api.ErrForm,
		"\x01\x01\x02\x00\x00\xff\xff\xff\xff\xff\xff\xff\xff\x7f":                 api.ErrForm,
		"\x01\x01\x03\x01\xff\xff\xff\xff\xff\xff\xff\xff\x7f\x00":                 api.ErrForm,
		"\x01\x01\x03\x01\x05\xff\xff\xff\xff\xff\xff\xff\xff\x7f":                 api.ErrForm,
		"\x01\x01\x04\x01\x05\x06\xfe\xff\xff\xff\xff\xff\xff\xff\x7f":             api.ErrForm,
		"\x01\x01\x01\x09\x01\x02\x03\x02\x05\x02\x07\x02\x09\x02\x0b\x02\x0d\x02": api.ErrShort,
	} {
		m, e := mut.Read(s)
		if e != want || e != api.OK && !isZero(m) {
			t.Errorf("Read(%x): %v, %v, not %v", s, m, e, want)
		}
	}
}

// Promise 4.2: more pairs than there may be are read all the same: what stands behind them is refused first.
func TestReadManyPairs(t *testing.T) {
	for _, n := range []int{9, 10, 300, 100000} {
		var b strings.Builder
		for i := range n {
			b.WriteString(vint.Num(i) + "\x02")
		}
		for kind, behind := range map[string]string{"\x01": "", "\x02": "\x02\x09", "\x03": "", "\x04": "\x02", "\x05": "", "\x07": ""} {
			s := "\x01\x01" + kind + vint.Num(n) + b.String() + behind
			if !refuses(s, api.ErrForm) || !refuses(s+"\x00", api.ErrLong) || !refuses(s[:len(s)-1], api.ErrShort) {
				t.Errorf("%d pairs of the kind %x", n, kind)
			}
		}
	}
}

// Promise 4.2: bytes that are cut off anywhere, and bytes behind the end.
func TestReadCuts(t *testing.T) {
	for _, x := range samples() {
		for n := range len(x.text) {
			if !refuses(x.text[:n], api.ErrShort) {
				t.Errorf("Read(%x), of %x", x.text[:n], x.text)
			}
		}
		for _, behind := range []string{"\x00", "\x80", "\x80\x00", x.text} {
			if !refuses(x.text+behind, api.ErrLong) {
				t.Errorf("Read(%x)", x.text+behind)
			}
		}
	}
}

// Promise 4.2: the bytes of what may not be; nothing is refused for that ahead of the reader's errors.
func TestReadBad(t *testing.T) {
	for _, m := range badMuts() {
		plain := m
		if m.Kind != api.MutDel {
			plain.Over = api.Span{}
		}
		if m.Kind != api.MutCas {
			plain.Old = 0
		}
		s := bytesOf(m)
		if mut.Check(plain) || hasNoBytes(m) {
			continue // its bytes are another one's
		}
		if !refuses(s, api.ErrForm) || !refuses(s+"\x00", api.ErrLong) || !refuses(s[:len(s)-1], api.ErrShort) {
			t.Errorf("Read(%x), of %v", s, m)
		}
	}
}

// hasNoBytes tells whether some number of a mutation has no bytes.
func hasNoBytes(m api.Mut) bool {
	for _, n := range []int{m.Client, m.Seq, m.Kind, m.Over.Lo, m.Over.Hi} {
		if vint.Num(n) == "" {
			return true
		}
	}
	return vint.Whole(m.Old) == "" || slices.ContainsFunc(m.Pairs, func(p api.Pair) bool { return vint.Num(p.Key) == "" || vint.Whole(p.Val) == "" })
}

// Promise 4.3: Same.
func TestSame(t *testing.T) {
	all := badMuts()
	for _, x := range samples() {
		all = append(all, x.m)
	}
	for _, a := range all {
		copied := changed(a, func(*api.Mut) {})
		if !mut.Same(a, copied) {
			t.Errorf("%v is not the same as itself", a)
		}
		for _, do := range []func(m *api.Mut){
			func(m *api.Mut) { m.Client++ },
			func(m *api.Mut) { m.Seq++ },
			func(m *api.Mut) { m.Kind++ },
			func(m *api.Mut) { m.Over.Lo++ },
			func(m *api.Mut) { m.Over.Hi++ },
			func(m *api.Mut) { m.Old++ },
			func(m *api.Mut) { m.Pairs = append(m.Pairs, api.Pair{}) },
			func(m *api.Mut) { m.Pairs = append(pairs(0, 0), m.Pairs...) },
		} {
			if b := changed(a, do); mut.Same(a, b) || mut.Same(b, a) {
				t.Errorf("%v is the same as %v", a, b)
			}
		}
		for i := range a.Pairs {
			key := changed(a, func(m *api.Mut) { m.Pairs[i].Key++ })
			val := changed(a, func(m *api.Mut) { m.Pairs[i].Val++ })
			if mut.Same(a, key) || mut.Same(a, val) {
				t.Errorf("%v is the same with another pair %d", a, i)
			}
		}
	}
	none, empty := api.Mut{Kind: 2}, api.Mut{Kind: 2, Pairs: []api.Pair{}}
	if !mut.Same(none, empty) || !mut.Same(empty, none) || !mut.Same(api.Mut{}, api.Mut{}) {
		t.Errorf("no pairs are not the same as no pairs")
	}
	if mut.Same(move(4, 9, 3), move(9, 4, 3)) {
		t.Errorf("the pairs' order is as nothing")
	}
}

// Promise 4.3: Stamp.
func TestStamp(t *testing.T) {
	for _, time := range []int{0, 1, 7, api.MaxTime, -1, math.MinInt, math.MaxInt} {
		for _, x := range samples() {
			if s := mut.Stamp(time, x.m); s != (api.Stamp{Time: time, Client: x.m.Client, Seq: x.m.Seq}) {
				t.Errorf("Stamp(%d, %v): %v", time, x.m, s)
			}
		}
	}
	if s := mut.Stamp(5, api.Mut{Client: -3, Seq: 9}); s != (api.Stamp{Time: 5, Client: -3, Seq: 9}) {
		t.Errorf("Stamp: %v", s)
	}
}

// Promise 4.3: Compare.
func TestCompare(t *testing.T) {
	for _, x := range []struct {
		a, b api.Stamp
		want int
	}{
		{api.Stamp{Time: 1, Client: 9}, api.Stamp{Time: 2}, -1},
		{api.Stamp{Client: 2, Seq: 1}, api.Stamp{Client: 1, Seq: 9}, 1},
		{api.Stamp{}, api.Stamp{}, 0},
		{api.Stamp{Time: 1, Client: 2, Seq: 3}, api.Stamp{Time: 1, Client: 2, Seq: 3}, 0},
		{api.Stamp{Time: 1, Client: 2, Seq: 3}, api.Stamp{Time: 1, Client: 2, Seq: 4}, -1},
		{api.Stamp{Time: 1, Client: 2, Seq: 9}, api.Stamp{Time: 1, Client: 3, Seq: 4}, -1},
		{api.Stamp{Time: 3, Client: 2, Seq: 9}, api.Stamp{Time: 1, Client: 3, Seq: 10}, 1},
		{api.Stamp{Time: math.MinInt}, api.Stamp{Time: math.MaxInt}, -1}, // their difference is no int
		{api.Stamp{Client: math.MaxInt}, api.Stamp{Client: math.MinInt}, 1},
		{api.Stamp{Seq: math.MinInt}, api.Stamp{Seq: math.MaxInt}, -1},
	} {
		if n := mut.Compare(x.a, x.b); n != x.want {
			t.Errorf("Compare(%v, %v): %d, not %d", x.a, x.b, n, x.want)
		}
		if n := mut.Compare(x.b, x.a); n != -x.want {
			t.Errorf("Compare(%v, %v): %d, not %d", x.b, x.a, n, -x.want)
		}
	}
}

// Promise 4.4: stamps are totally ordered: they stand as they were made, by times, clients and numbers that rise.
func TestOrder(t *testing.T) {
	var l []api.Stamp
	numbers := []int{math.MinInt, -1, 0, 1, 2, api.MaxClient, api.MaxSeq, api.MaxTime, math.MaxInt}
	for _, time := range numbers {
		for _, client := range numbers {
			for _, seq := range numbers {
				l = append(l, api.Stamp{Time: time, Client: client, Seq: seq})
			}
		}
	}
	for i, a := range l {
		for j, b := range l {
			want := min(max(i-j, -1), 1)
			if n := mut.Compare(a, b); n != want {
				t.Fatalf("Compare(%v, %v): %d, not %d", a, b, n, want)
			}
		}
	}
	mixed := slices.Clone(l)
	rand.New(rand.NewSource(1)).Shuffle(len(mixed), func(i, j int) { mixed[i], mixed[j] = mixed[j], mixed[i] })
	slices.SortFunc(mixed, mut.Compare)
	if !slices.Equal(mixed, l) {
		t.Errorf("sorted otherwise")
	}
}

// Promise 4.4: two valid mutations have the same bytes exactly if they are the same.
func TestOneText(t *testing.T) {
	l := []api.Mut{changed(del(2, 9), func(m *api.Mut) { m.Pairs = []api.Pair{} })}
	for _, x := range samples() {
		l = append(l, x.m, by(1, 1, x.m), by(2, 2, x.m), changed(x.m, func(*api.Mut) {}))
	}
	for _, a := range l {
		for _, b := range l {
			if mut.Same(a, b) != (mut.Text(a) == mut.Text(b)) {
				t.Errorf("%v, %v: %x, %x", a, b, mut.Text(a), mut.Text(b))
			}
		}
	}
}

// readsBack tells whether any bytes are refused with nothing beside the error, or are the bytes of what was read.
func readsBack(s string) bool {
	m, e := mut.Read(s)
	if e != api.OK {
		return isZero(m) && (e == api.ErrShort || e == api.ErrForm || e == api.ErrLong)
	}
	return mut.Check(m) && mut.Text(m) == s
}

// Promise 4.4: encoding what was read makes the bytes that were read: of the samples with one byte changed, left out or put in.
func TestReadsBack(t *testing.T) {
	read := 0
	for _, x := range samples() {
		for i := range x.text {
			for b := range 256 {
				one := string([]byte{byte(b)})
				for _, s := range []string{x.text[:i] + one + x.text[i+1:], x.text[:i] + one + x.text[i:], x.text[:i] + x.text[i+1:]} {
					if !readsBack(s) {
						t.Fatalf("%x is read, and written otherwise", s)
					}
					if _, e := mut.Read(s); e == api.OK {
						read++
					}
				}
			}
		}
	}
	if read < 1000 {
		t.Errorf("only %d were read", read)
	}
}

// Promise 4.4: decoding an encoding gives the mutation, of any that may be.
func TestRoundTrip(t *testing.T) {
	dice := rand.New(rand.NewSource(9))
	value := func() int { return dice.Intn(2*api.MaxVal+1) - api.MaxVal }
	for range 5000 {
		m := api.Mut{Client: 1 + dice.Intn(api.MaxClient), Seq: 1 + dice.Intn(api.MaxSeq), Kind: 1 + dice.Intn(5)}
		key := dice.Intn(400)
		switch m.Kind {
		case api.MutPut:
			for range 1 + dice.Intn(api.MaxPairs) {
				m.Pairs = append(m.Pairs, api.Pair{Key: key, Val: value()})
				key += 1 + dice.Intn(460)
			}
		case api.MutDel:
			m.Over = api.Span{Lo: key, Hi: key + 1 + dice.Intn(3000)}
		case api.MutCas:
			m.Old = value()
			fallthrough
		case api.MutAdd:
			m.Pairs = pairs(key, value())
		case api.MutMove:
			val := max(value(), 0)
			m.Pairs = pairs(key, val, (key+1+dice.Intn(4000))%api.MaxKey, val)
		}
		s := mut.Text(m)
		if back, e := mut.Read(s); s == "" || s != bytesOf(m) || !mut.Same(back, m) || e != api.OK {
			t.Fatalf("%v: %x, %v, %v", m, s, back, e)
		}
	}
}

// R3: what is handed in is not changed; what is answered shares nothing with it, nor with another answer.
func TestNothingShared(t *testing.T) {
	for _, x := range samples() {
		m := changed(x.m, func(m *api.Mut) { m.Pairs = append(m.Pairs, pairs(7, 7, 7, 7)...)[:len(m.Pairs)] })
		was := slices.Clone(m.Pairs[:cap(m.Pairs)])
		first, touched := read(x.text), mut.Touch(m)
		for i := range first.Pairs {
			first.Pairs[i] = api.Pair{Key: -1, Val: -1}
		}
		for i := range touched {
			touched[i] = api.Span{Lo: -1, Hi: -1}
		}
		mut.Check(m)
		mut.Alone(m)
		mut.Stamp(1, m)
		if !mut.Same(read(x.text), m) || mut.Text(m) != x.text || !slices.Equal(mut.Touch(m), x.touch) {
			t.Errorf("%v: %v, %v", x.m, read(x.text), mut.Touch(m))
		}
		if !slices.Equal(m.Pairs[:cap(m.Pairs)], was) {
			t.Errorf("%v: changed: %v", x.m, m.Pairs[:cap(m.Pairs)])
		}
	}
}

func read(s string) api.Mut {
	m, _ := mut.Read(s)
	return m
}

// Promises 4.2 and 4.4, R1: any bytes are refused or are the bytes of what was read.
func FuzzRead(f *testing.F) {
	for _, x := range samples() {
		f.Add([]byte(x.text))
	}
	f.Fuzz(func(t *testing.T, b []byte) {
		if !readsBack(string(b)) {
			t.Errorf("%x is read, and written otherwise", b)
		}
	})
}

// Promises 4.1, 4.2 and R1: mutations of any numbers make no call panic, and those that may not be have no bytes and no keys.
func FuzzMut(f *testing.F) {
	f.Add(1, 2, 1, 2, 5, 7, 300, -1, 0, 0, 0)
	f.Add(1, 2, 2, 0, 0, 0, 0, 0, 2, 9, 0)
	f.Add(1, 2, 5, 2, 9, 3, 4, 3, 0, 0, 0)
	f.Fuzz(func(t *testing.T, client, seq, kind, n, key, val, key2, val2, lo, hi, old int) {
		m := api.Mut{Client: client, Seq: seq, Kind: kind, Pairs: pairs(key, val, key2, val2)[:min(max(n, 0), 2)], Over: api.Span{Lo: lo, Hi: hi}, Old: old}
		valid := mut.Check(m)
		if s := mut.Text(m); valid && (s != bytesOf(m) || !readsBack(s)) || !valid && s != "" {
			t.Errorf("Text(%v): %x", m, s)
		}
		if l := mut.Touch(m); !span.Check(l) || len(l) > 0 != valid {
			t.Errorf("Touch(%v): %v", m, l)
		}
		if mut.Alone(m) && !valid {
			t.Errorf("Alone(%v)", m)
		}
		if !mut.Same(m, m) || mut.Compare(mut.Stamp(key, m), mut.Stamp(val, m)) != cmp.Compare(key, val) {
			t.Errorf("%v: Same, Compare", m)
		}
	})
}
