package span_test

import (
	"math"
	"math/rand"
	"slices"
	"testing"

	"splice/api"
	"splice/span"
)

// spans are the spans of ends that stand two by two.
func spans(ends ...int) []api.Span {
	var l []api.Span
	for i := 0; i+1 < len(ends); i += 2 {
		l = append(l, api.Span{Lo: ends[i], Hi: ends[i+1]})
	}
	return l
}

// row is n spans of the length long, the first one from lo on, one every step keys.
func row(n, lo, step, long int) []api.Span {
	var l []api.Span
	for i := range n {
		l = append(l, api.Span{Lo: lo + i*step, Hi: lo + i*step + long})
	}
	return l
}

// keys tells of every key whether it is meant; it is what sets are held against.
type keys [api.MaxKey]bool

func keysOf(l []api.Span) keys {
	var k keys
	for _, s := range l {
		for key := s.Lo; key < s.Hi; key++ {
			k[key] = true
		}
	}
	return k
}

// set is the keys as spans, one after the other as they stand.
func (k keys) set() []api.Span {
	var l []api.Span
	for key := 0; key < api.MaxKey; key++ {
		lo := key
		for key < api.MaxKey && k[key] {
			key++
		}
		if key > lo {
			l = append(l, api.Span{Lo: lo, Hi: key})
		}
	}
	return l
}

// both makes keys of what keep says of two of them.
func both(a, b keys, keep func(inA, inB bool) bool) keys {
	var k keys
	for key := range k {
		k[key] = keep(a[key], b[key])
	}
	return k
}

// answer is what a call that makes sets answers.
type answer struct {
	set []api.Span
	e   api.Errno
}

func (x answer) is(set []api.Span, e api.Errno) bool {
	return x.e == e && slices.Equal(x.set, set)
}

// wanted is the answer whose set has these keys, if it is not too long.
func wanted(k keys) answer {
	if set := k.set(); len(set) <= api.MaxSpans {
		return answer{set, api.OK}
	}
	return answer{nil, api.ErrLong}
}

type operation struct {
	name string
	call func(a, b []api.Span) ([]api.Span, api.Errno)
	keep func(inA, inB bool) bool
}

func operations() []operation {
	return []operation{
		{"Join", span.Join, func(inA, inB bool) bool { return inA || inB }},
		{"Meet", span.Meet, func(inA, inB bool) bool { return inA && inB }},
		{"Less", span.Less, func(inA, inB bool) bool { return inA && !inB }},
	}
}

func (o operation) of(a, b []api.Span) answer {
	set, e := o.call(a, b)
	return answer{set, e}
}

func badSpans() []api.Span {
	return spans(3, 3, 0, 0, 4, 3, -1, 2, -1, 0, -2, -1, 0, 4097, 4095, 4097, 4096, 4096, 4096, 4097, 5000, 6000, 2, 0, 0, -1,
		math.MinInt, math.MaxInt, math.MinInt, 1, 1, math.MaxInt, 1, math.MinInt, math.MaxInt, math.MaxInt, math.MaxInt, math.MinInt)
}

func goodSpans() []api.Span {
	return spans(0, 1, 0, 2, 1, 2, 3, 4, 0, 4096, 0, 4095, 1, 4096, 4095, 4096, 4094, 4095, 4094, 4096, 2048, 2049)
}

// goodSets are sets at every edge; no two have the same keys.
func goodSets() [][]api.Span {
	l := [][]api.Span{nil, spans(0, 1, 4095, 4096), spans(0, 1, 2, 3), spans(0, 4094, 4095, 4096), spans(1, 3, 4, 5), spans(1, 4, 5, 7), spans(3, 6),
		row(64, 0, 64, 63), row(64, 1, 64, 63), row(64, 0, 2, 1), row(64, 1, 2, 1), row(64, 3, 3, 2), row(64, 4, 3, 2), row(63, 0, 2, 1), row(64, 3969, 2, 1)}
	for _, s := range goodSpans() {
		l = append(l, []api.Span{s})
	}
	return l
}

// notSets are lists that are no sets, most of them of spans that are valid.
func notSets() [][]api.Span {
	l := [][]api.Span{
		spans(1, 3, 3, 5), spans(0, 1, 1, 2), spans(5, 6, 1, 2), spans(1, 3, 2, 5), spans(1, 9, 2, 3), spans(1, 3, 1, 3), spans(4095, 4096, 0, 1),
		spans(1, 3, 5, 6, 6, 7), spans(1, 3, 5, 7, 4, 9), spans(1, 3, 8, 9, 5, 6), spans(5, 6, 1, 2, 8, 9),
		row(65, 0, 2, 1), row(65, 0, 63, 62), append(row(64, 0, 2, 1), api.Span{Lo: 127, Hi: 128}), row(1000, 0, 2, 1),
	}
	for _, s := range badSpans() {
		l = append(l, []api.Span{s}, []api.Span{s, {Lo: 100, Hi: 200}}, []api.Span{{Lo: 100, Hi: 200}, s}, []api.Span{{Lo: 0, Hi: 1}, s, {Lo: 4095, Hi: 4096}})
	}
	return l
}

// someSets are sets made by rolling dice that always fall alike: short ones and long ones, near one another and far apart.
func someSets(n int) [][]api.Span {
	dice := rand.New(rand.NewSource(7))
	var l [][]api.Span
	for range n {
		most, wide := 1+dice.Intn(api.MaxSpans), 1+dice.Intn(60)
		end := dice.Intn(40) - 1
		if dice.Intn(3) == 0 {
			end = api.MaxKey - most*wide/2
		}
		var set []api.Span
		for len(set) < most && end+2 < api.MaxKey {
			lo := end + 1 + dice.Intn(wide)
			end = lo + 1 + dice.Intn(wide)
			if end > api.MaxKey {
				end = api.MaxKey
			}
			if lo >= 0 && lo < end {
				set = append(set, api.Span{Lo: lo, Hi: end})
			}
		}
		l = append(l, set)
	}
	return l
}

// Promise 3.1: One.
func TestOne(t *testing.T) {
	for _, s := range goodSpans() {
		if !span.One(s) {
			t.Errorf("%v may not be", s)
		}
	}
	for _, s := range badSpans() {
		if span.One(s) {
			t.Errorf("%v may be", s)
		}
	}
}

// Promise 3.1: Check.
func TestCheck(t *testing.T) {
	if !span.Check(nil) || !span.Check([]api.Span{}) {
		t.Errorf("the empty set is none")
	}
	for _, l := range append(goodSets(), someSets(200)...) {
		if !span.Check(l) {
			t.Errorf("%v is no set", l)
		}
	}
	for _, l := range notSets() {
		if span.Check(l) {
			t.Errorf("%v is a set", l)
		}
	}
}

// Promise 3.1: Make.
func TestMake(t *testing.T) {
	for _, x := range []struct {
		l, want []api.Span
		e       api.Errno
	}{
		{nil, nil, api.OK},
		{[]api.Span{}, nil, api.OK},
		{spans(5, 7, 1, 3, 3, 4), spans(1, 4, 5, 7), api.OK},
		{spans(1, 3, 3, 5), spans(1, 5), api.OK},
		{spans(3, 5, 1, 3), spans(1, 5), api.OK},
		{spans(1, 3, 4, 5), spans(1, 3, 4, 5), api.OK},
		{spans(1, 9, 2, 3), spans(1, 9), api.OK},
		{spans(2, 3, 1, 9, 10, 12), spans(1, 9, 10, 12), api.OK},
		{spans(1, 9, 1, 2, 8, 10), spans(1, 10), api.OK},
		{spans(1, 2, 1, 9, 1, 2), spans(1, 9), api.OK},
		{spans(4, 5, 4, 5), spans(4, 5), api.OK},
		{spans(4095, 4096, 0, 1), spans(0, 1, 4095, 4096), api.OK},
		{spans(0, 4096, 4095, 4096, 0, 1), spans(0, 4096), api.OK},
		{spans(0, 2048, 2048, 4096), spans(0, 4096), api.OK},
		{row(64, 0, 2, 1), row(64, 0, 2, 1), api.OK},
		{row(65, 0, 2, 1), nil, api.ErrLong},
		{row(2048, 0, 2, 1), nil, api.ErrLong},
		{append(row(65, 0, 2, 1), api.Span{Lo: 1, Hi: 2}), append(spans(0, 3), row(63, 4, 2, 1)...), api.OK},
		{append(row(65, 0, 2, 1), api.Span{Lo: 0, Hi: 4096}), spans(0, 4096), api.OK},
		{row(4096, 0, 1, 1), spans(0, 4096), api.OK},
		{append(row(64, 0, 2, 1), row(64, 0, 2, 1)...), row(64, 0, 2, 1), api.OK},
		{append(row(65, 0, 2, 1), api.Span{Lo: 3, Hi: 3}), nil, api.ErrArg},
		{append(spans(-1, 2), row(65, 0, 2, 1)...), nil, api.ErrArg},
		{append(row(65, 0, 2, 1), api.Span{Lo: 4096, Hi: 4097}), nil, api.ErrArg},
	} {
		if set, e := span.Make(x.l); !(answer{set, e}).is(x.want, x.e) {
			t.Errorf("Make(%v): %v, %v, not %v, %v", x.l, set, e, x.want, x.e)
		}
		back := slices.Clone(x.l)
		slices.Reverse(back)
		if set, e := span.Make(back); !(answer{set, e}).is(x.want, x.e) {
			t.Errorf("Make(%v): %v, %v, not %v, %v", back, set, e, x.want, x.e)
		}
	}
	for _, s := range badSpans() {
		for at := range 3 {
			l := slices.Insert(spans(1, 3, 5, 7), at, s)
			if set, e := span.Make(l); !(answer{set, e}).is(nil, api.ErrArg) {
				t.Errorf("Make(%v): %v, %v", l, set, e)
			}
		}
	}
}

// Promise 3.1: Make, of spans in any order, over one another and apart.
func TestMakeAny(t *testing.T) {
	dice := rand.New(rand.NewSource(3))
	for range 400 {
		var l []api.Span
		for range dice.Intn(90) {
			lo := dice.Intn(api.MaxKey)
			l = append(l, api.Span{Lo: lo, Hi: min(lo+1+dice.Intn(40), api.MaxKey)})
		}
		want := wanted(keysOf(l))
		if set, e := span.Make(l); !want.is(set, e) {
			t.Fatalf("Make(%v): %v, %v, not %v", l, set, e, want)
		}
	}
}

// Promise 3.2: Has, also of lists that are no sets: a span that may not be has no key.
func TestHas(t *testing.T) {
	for _, x := range []struct {
		l   []api.Span
		has []int
		not []int
	}{
		{nil, nil, []int{-1, 0, 1, 4095, 4096}},
		{spans(128, 129), []int{128}, []int{127, 129, 0, -128}},
		{spans(0, 4096), []int{0, 1, 4094, 4095}, []int{-1, 4096, 4097, math.MinInt, math.MaxInt}},
		{spans(1, 3, 5, 7), []int{1, 2, 5, 6}, []int{0, 3, 4, 7}},
		{spans(5, 7, 1, 3, 2, 6), []int{1, 2, 3, 4, 5, 6}, []int{0, 7}},
		{spans(4095, 4096), []int{4095}, []int{4094, 4096}},
		{spans(-1, 5, 10, 5000, 9, 8, 3, 4), []int{3}, []int{-1, 0, 1, 2, 4, 8, 9, 10, 4095, 4999}},
		{spans(math.MinInt, math.MaxInt, 4096, 4097, -9, 0), nil, []int{-9, -1, 0, 7, 4096, math.MinInt, math.MaxInt}},
		{row(65, 0, 2, 1), []int{0, 126, 128}, []int{1, 127, 129, 130}},
	} {
		for _, key := range x.has {
			if !span.Has(x.l, key) {
				t.Errorf("%v has no %d", x.l, key)
			}
		}
		for _, key := range x.not {
			if span.Has(x.l, key) {
				t.Errorf("%v has %d", x.l, key)
			}
		}
	}
	for _, set := range append(goodSets(), someSets(30)...) {
		k := keysOf(set)
		for key := range api.MaxKey {
			if span.Has(set, key) != k[key] {
				t.Fatalf("Has(%v, %d): %v", set, key, !k[key])
			}
		}
	}
}

// Promise 3.2: Count.
func TestCount(t *testing.T) {
	for _, x := range []struct {
		l    []api.Span
		want int
	}{
		{nil, 0}, {[]api.Span{}, 0}, {spans(0, 1), 1}, {spans(4095, 4096), 1}, {spans(0, 4096), 4096}, {spans(1, 4, 5, 7), 5},
		{row(64, 0, 2, 1), 64}, {row(64, 0, 64, 63), 64 * 63},
	} {
		if n := span.Count(x.l); n != x.want {
			t.Errorf("Count(%v): %d, not %d", x.l, n, x.want)
		}
	}
	for _, l := range notSets() {
		if n := span.Count(l); n != 0 {
			t.Errorf("Count(%v): %d, of no set", l, n)
		}
	}
	for _, set := range someSets(50) {
		n := 0
		for _, in := range keysOf(set) {
			if in {
				n++
			}
		}
		if got := span.Count(set); got != n {
			t.Errorf("Count(%v): %d, not %d", set, got, n)
		}
	}
}

// Promise 3.3: what Join, Meet and Less make, in so many words.
func TestOperations(t *testing.T) {
	for _, x := range []struct {
		a, b             []api.Span
		join, meet, less []api.Span
	}{
		{nil, nil, nil, nil, nil},
		{spans(1, 4, 5, 7), spans(3, 6), spans(1, 7), spans(3, 4, 5, 6), spans(1, 3, 6, 7)},
		{spans(3, 6), spans(1, 4, 5, 7), spans(1, 7), spans(3, 4, 5, 6), spans(4, 5)},
		{spans(1, 3), nil, spans(1, 3), nil, spans(1, 3)},
		{nil, spans(1, 3), spans(1, 3), nil, nil},
		{spans(1, 3), spans(1, 3), spans(1, 3), spans(1, 3), nil},
		{spans(1, 3), spans(3, 5), spans(1, 5), nil, spans(1, 3)},
		{spans(3, 5), spans(1, 3), spans(1, 5), nil, spans(3, 5)},
		{spans(1, 3), spans(4, 5), spans(1, 3, 4, 5), nil, spans(1, 3)},
		{spans(0, 4096), spans(0, 1, 4095, 4096), spans(0, 4096), spans(0, 1, 4095, 4096), spans(1, 4095)},
		{spans(0, 1, 4095, 4096), spans(0, 4096), spans(0, 4096), spans(0, 1, 4095, 4096), nil},
		{spans(0, 1), spans(4095, 4096), spans(0, 1, 4095, 4096), nil, spans(0, 1)},
		{spans(2, 9), spans(3, 4, 5, 6), spans(2, 9), spans(3, 4, 5, 6), spans(2, 3, 4, 5, 6, 9)},
		{spans(1, 2, 3, 4, 5, 6), spans(2, 3, 4, 5), spans(1, 6), nil, spans(1, 2, 3, 4, 5, 6)},
		{row(64, 0, 2, 1), row(64, 1, 2, 1), spans(0, 128), nil, row(64, 0, 2, 1)},
		{row(64, 0, 2, 1), spans(127, 128), append(row(63, 0, 2, 1), api.Span{Lo: 126, Hi: 128}), nil, row(64, 0, 2, 1)},
	} {
		for i, want := range [][]api.Span{x.join, x.meet, x.less} {
			if o := operations()[i]; !o.of(x.a, x.b).is(want, api.OK) {
				t.Errorf("%s(%v, %v): %v, not %v", o.name, x.a, x.b, o.of(x.a, x.b), want)
			}
		}
	}
}

// Promise 3.3: sets of MaxSpans spans, and of one more.
func TestOperationsTooLong(t *testing.T) {
	join, meet, less := operations()[0], operations()[1], operations()[2]
	full, tooLong := row(64, 0, 2, 1), answer{nil, api.ErrLong}
	for _, x := range []struct {
		o    operation
		a, b []api.Span
		want answer
	}{
		{join, row(63, 0, 2, 1), spans(126, 127), answer{full, api.OK}},
		{join, full, full, answer{full, api.OK}},
		{join, full, spans(128, 129), tooLong},
		{join, spans(128, 129), full, tooLong},
		{join, full, row(64, 1000, 2, 1), tooLong},
		{meet, spans(0, 4096), full, answer{full, api.OK}},
		{meet, row(64, 3, 3, 2), row(64, 4, 3, 2), answer{row(64, 4, 3, 1), api.OK}},
		{meet, row(33, 0, 10, 9), row(32, 5, 10, 9), answer{row(64, 5, 5, 4), api.OK}},
		{meet, row(33, 0, 10, 9), row(33, 5, 10, 9), tooLong},
		{meet, row(64, 0, 10, 9), row(64, 5, 10, 9), tooLong},
		{less, spans(0, 128), row(64, 1, 2, 1), answer{full, api.OK}},
		{less, spans(0, 129), row(64, 1, 2, 1), tooLong},
		{less, row(32, 0, 10, 8), row(32, 3, 10, 2), answer{row(64, 0, 5, 3), api.OK}},
		{less, append(row(32, 0, 10, 8), api.Span{Lo: 400, Hi: 401}), row(32, 3, 10, 2), tooLong},
		{less, row(64, 0, 10, 9), row(64, 3, 10, 2), tooLong},
	} {
		if got := x.o.of(x.a, x.b); !got.is(x.want.set, x.want.e) {
			t.Errorf("%s(%v, %v): %v, not %v", x.o.name, x.a, x.b, got, x.want)
		}
	}
}

// Promises 3.3 and 3.4: Join is the union, Meet the intersection, Less the difference.
func TestOperationsAny(t *testing.T) {
	sets := append(goodSets(), someSets(40)...)
	long := map[string]int{}
	for _, a := range sets {
		for _, b := range sets {
			for _, o := range operations() {
				want := wanted(both(keysOf(a), keysOf(b), o.keep))
				if got := o.of(a, b); !got.is(want.set, want.e) {
					t.Fatalf("%s(%v, %v): %v, not %v", o.name, a, b, got, want)
				}
				if want.e == api.ErrLong {
					long[o.name]++
				}
			}
		}
	}
	if len(long) != 3 {
		t.Errorf("what was too long: %v", long)
	}
}

// Promise 3.3: lists that are no sets, on either side, whatever the other one is.
func TestOperationsOfNoSets(t *testing.T) {
	others := append([][]api.Span{nil, spans(0, 4096), spans(100, 200), row(64, 1000, 2, 1)}, notSets()...)
	for _, bad := range notSets() {
		for _, other := range others {
			for _, o := range operations() {
				if got := o.of(bad, other); !got.is(nil, api.ErrArg) {
					t.Errorf("%s(%v, %v): %v", o.name, bad, other, got)
				}
				if got := o.of(other, bad); !got.is(nil, api.ErrArg) {
					t.Errorf("%s(%v, %v): %v", o.name, other, bad, got)
				}
			}
			if span.Within(bad, other) || span.Within(other, bad) {
				t.Errorf("Within: %v, %v", bad, other)
			}
			if span.Touch(bad, other) || span.Touch(other, bad) {
				t.Errorf("Touch: %v, %v", bad, other)
			}
		}
	}
}

// Promise 3.3: Within and Touch, in so many words.
func TestWithinAndTouch(t *testing.T) {
	for _, x := range []struct {
		a, b          []api.Span
		within, touch bool
	}{
		{nil, nil, true, false},
		{[]api.Span{}, nil, true, false},
		{nil, spans(1, 3), true, false},
		{spans(1, 3), nil, false, false},
		{spans(1, 3), spans(1, 3), true, true},
		{spans(2, 3), spans(1, 4, 5, 7), true, true},
		{spans(3, 6), spans(1, 4, 5, 7), false, true},
		{spans(1, 4, 5, 7), spans(3, 6), false, true},
		{spans(1, 4, 5, 7), spans(4, 5), false, false},
		{spans(4, 5), spans(1, 4, 5, 7), false, false},
		{spans(1, 4, 5, 7), spans(1, 7), true, true},
		{spans(1, 7), spans(1, 4, 5, 7), false, true},
		{spans(0, 1, 4095, 4096), spans(0, 4096), true, true},
		{spans(4095, 4096), spans(0, 4095), false, false},
		{spans(4095, 4096), spans(4095, 4096), true, true},
		{spans(0, 1), spans(0, 1), true, true},
		{spans(0, 1), spans(1, 2), false, false},
		{spans(1, 2), spans(0, 1), false, false},
		{row(64, 0, 10, 9), row(64, 5, 10, 9), false, true}, // too many keys in common for a set
		{row(64, 0, 10, 9), row(64, 3, 10, 2), false, true},
		{row(64, 3, 10, 2), row(64, 0, 10, 9), true, true},
		{row(64, 0, 2, 1), row(64, 1, 2, 1), false, false},
		{row(64, 0, 2, 1), spans(0, 126), false, true},
		{row(64, 0, 2, 1), spans(126, 127), false, true},
	} {
		if span.Within(x.a, x.b) != x.within {
			t.Errorf("Within(%v, %v): %v", x.a, x.b, !x.within)
		}
		if span.Touch(x.a, x.b) != x.touch {
			t.Errorf("Touch(%v, %v): %v", x.a, x.b, !x.touch)
		}
	}
}

// Promise 3.3: Within and Touch of any sets.
func TestWithinAndTouchAny(t *testing.T) {
	sets := append(goodSets(), someSets(40)...)
	for _, a := range sets {
		for _, b := range sets {
			within, touch := true, false
			kb := keysOf(b)
			for key, in := range keysOf(a) {
				within = within && (!in || kb[key])
				touch = touch || in && kb[key]
			}
			if span.Within(a, b) != within {
				t.Fatalf("Within(%v, %v): %v", a, b, !within)
			}
			if span.Touch(a, b) != touch {
				t.Fatalf("Touch(%v, %v): %v", a, b, !touch)
			}
		}
	}
}

// Promise 3.4: there is one set of any keys, and all that is answered is a set.
func TestOneSetOfKeys(t *testing.T) {
	sets := append(goodSets(), someSets(60)...)
	for _, a := range sets {
		if made, e := span.Make(a); !(answer{made, e}).is(a, api.OK) {
			t.Errorf("Make(%v): %v, %v", a, made, e)
		}
		for _, b := range sets {
			same := slices.Equal(a, b)
			if keysOf(a) == keysOf(b) != same || span.Within(a, b) && span.Within(b, a) != same {
				t.Errorf("%v and %v: %v", a, b, same)
			}
			for _, o := range operations() {
				if got := o.of(a, b); !span.Check(got.set) {
					t.Errorf("%s(%v, %v) is no set: %v", o.name, a, b, got.set)
				}
			}
		}
	}
}

// Promise 3.4: a set is what it has in common with another one, and what it has alone.
func TestPartsJoin(t *testing.T) {
	sets := someSets(60)
	for _, a := range sets {
		for _, b := range sets {
			meet, e := span.Meet(a, b)
			less, f := span.Less(a, b)
			if e != api.OK || f != api.OK {
				continue
			}
			if got := operations()[0].of(meet, less); !got.is(a, api.OK) || span.Touch(less, b) || span.Count(meet)+span.Count(less) != span.Count(a) {
				t.Fatalf("%v, %v: %v and %v, %v", a, b, meet, less, got)
			}
		}
	}
}

// R3: what is handed in is not changed, nor what stands behind it; what is answered shares nothing with it.
func TestNothingShared(t *testing.T) {
	room := func(l []api.Span) []api.Span { return append(slices.Clone(l), spans(7, 8, 7, 8, 7, 8)...)[:len(l)] }
	all := func(l []api.Span) []api.Span { return slices.Clone(l[:cap(l)]) }
	calls := operations()
	calls = append(calls, operation{name: "Make", call: func(a, _ []api.Span) ([]api.Span, api.Errno) { return span.Make(a) }})
	for _, o := range calls {
		for _, ends := range [][]int{{1, 4, 5, 7}, {1, 4}, {1, 3, 4, 5, 6, 7}} {
			a, b := room(spans(ends...)), room(spans(2, 3, 9, 12))
			wasA, wasB := all(a), all(b)
			first := o.of(a, b)
			kept := slices.Clone(first.set)
			second := o.of(a, b)
			for i := range first.set {
				first.set[i] = api.Span{Lo: -5, Hi: -4}
			}
			_ = append(first.set, spans(20, 21)...)
			if !slices.Equal(all(a), wasA) || !slices.Equal(all(b), wasB) || !second.is(kept, api.OK) || !o.of(a, b).is(kept, api.OK) {
				t.Errorf("%s: %v, %v, %v", o.name, a, b, second)
			}
		}
	}
	l := room(spans(5, 7, 1, 3, 3, 4))
	was := all(l)
	span.Make(l)
	span.Check(l)
	span.Has(l, 6)
	span.Count(l)
	span.Within(l, l)
	span.Touch(l, l)
	if !slices.Equal(all(l), was) {
		t.Errorf("changed: %v", all(l))
	}
}

// R3: a set may be both arguments at once.
func TestWithItself(t *testing.T) {
	for _, set := range goodSets() {
		was := slices.Clone(set)
		for i, want := range [][]api.Span{set, set, nil} {
			if o := operations()[i]; !o.of(set, set).is(want, api.OK) {
				t.Errorf("%s of %v with itself: %v", o.name, set, o.of(set, set))
			}
		}
		if !span.Within(set, set) || span.Touch(set, set) != (len(set) > 0) || !slices.Equal(set, was) {
			t.Errorf("%v with itself", set)
		}
	}
}

// Promises 3.1 to 3.4 and R1: spans of any numbers make no call panic, and what is made of valid ones has their keys.
func FuzzSpans(f *testing.F) {
	f.Add([]byte{1, 0, 4, 0, 5, 0, 7, 0, 3, 0, 6, 0}, 1)
	f.Add([]byte{0, 0, 0, 16, 255, 15, 0, 16}, -1)
	f.Fuzz(func(t *testing.T, b []byte, far int) {
		var l []api.Span
		for ; len(b) >= 4; b = b[4:] {
			l = append(l, api.Span{Lo: int(b[0]) | int(b[1])<<8, Hi: int(b[2]) | int(b[3])<<8})
		}
		wild := append(slices.Clone(l), api.Span{Lo: far, Hi: far + 1}, api.Span{Lo: -far, Hi: far})
		for _, o := range operations() {
			o.of(wild, l)
			o.of(l, wild)
		}
		span.Make(wild)
		span.Has(wild, far)
		span.Count(wild)
		if slices.ContainsFunc(l, func(s api.Span) bool { return !span.One(s) }) {
			return
		}
		want := wanted(keysOf(l))
		if set, e := span.Make(l); !want.is(set, e) {
			t.Errorf("Make(%v): %v, %v", l, set, e)
		}
		half := len(l) / 2
		a, e := span.Make(l[:half])
		c, g := span.Make(l[half:])
		if e != api.OK || g != api.OK {
			return
		}
		for _, o := range operations() {
			want := wanted(both(keysOf(a), keysOf(c), o.keep))
			if got := o.of(a, c); !got.is(want.set, want.e) {
				t.Errorf("%s(%v, %v): %v", o.name, a, c, got)
			}
		}
	})
}
