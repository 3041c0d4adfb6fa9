package view_test

import (
	"fmt"
	"math"
	"slices"
	"testing"

	"splice/api"
	"splice/chart"
	"splice/view"
)

// spans are the spans from one key up to another that stand two by two.
func spans(l ...int) (out []api.Span) {
	for i := 0; i+1 < len(l); i += 2 {
		out = append(out, api.Span{Lo: l[i], Hi: l[i+1]})
	}
	return out
}

// pairs are the pairs of keys and values that stand two by two.
func pairs(l ...int) (out []api.Pair) {
	for i := 0; i+1 < len(l); i += 2 {
		out = append(out, api.Pair{Key: l[i], Val: l[i+1]})
	}
	return out
}

// done is an entry of a mutation of the client 1 that did not fail, by its time as its number.
func done(time, kind int, l ...int) api.Entry {
	return api.Entry{M: api.Mut{Client: 1, Seq: time, Kind: kind, Pairs: pairs(l...)}, Time: time, Done: true}
}

// put is an entry of a put.
func put(time int, l ...int) api.Entry {
	return done(time, api.MutPut, l...)
}

// failed is an entry of a put that counts as one that failed.
func failed(time int, l ...int) api.Entry {
	e := put(time, l...)
	e.Done = false
	return e
}

// del is an entry of a delete.
func del(time, lo, hi int) api.Entry {
	e := done(time, api.MutDel)
	e.M.Over = api.Span{Lo: lo, Hi: hi}
	return e
}

// page is a note of a shard's entries from the n-th one on.
func page(from, n, time int, l ...api.Entry) api.Note {
	return api.Note{Kind: api.NotePage, From: from, N: n, Time: time, Entries: l}
}

// state is a note of what a shard has at a time, behind n entries.
func state(from, n, time int, l ...int) api.Note {
	return api.Note{Kind: api.NoteState, From: from, N: n, Time: time, Pairs: pairs(l...)}
}

// charted is the first chart of some shards, after some changes.
func charted(t *testing.T, shards int, l ...api.Change) api.Chart {
	t.Helper()
	x, e := chart.First(3, shards)
	for _, c := range l {
		if e == api.OK {
			x, _, _, e = chart.Apply(x, c)
		}
	}
	if e != api.OK {
		t.Fatalf("the chart: %v", e)
	}
	return x
}

// begin is a view of keys that knows the first chart of some shards.
func begin(t *testing.T, shards int, on ...int) *view.View {
	t.Helper()
	v := view.New(spans(on...))
	if v == nil {
		t.Fatalf("no view of %v", on)
	}
	learns(t, v, charted(t, shards))
	return v
}

func learns(t *testing.T, v *view.View, x api.Chart) {
	t.Helper()
	if e := v.Learn(x); e != api.OK || !same(v.Chart(), x) {
		t.Fatalf("Learn: %v, %v", e, v.Chart())
	}
}

// hears lets notes of entries and states come.
func hears(t *testing.T, v *view.View, l ...api.Note) {
	t.Helper()
	for _, n := range l {
		if e := hear(v, n); e != api.OK {
			t.Fatalf("%v: %v", n, e)
		}
	}
}

func hear(v *view.View, n api.Note) api.Errno {
	if n.Kind == api.NoteState {
		return v.State(n)
	}
	return v.Page(n)
}

// same tells whether two are the same; nil lists and empty ones are.
func same(a, b any) bool {
	return fmt.Sprint(a) == fmt.Sprint(b)
}

// has looks what a view's mark and base are.
func has(t *testing.T, v *view.View, mark int, l ...int) {
	t.Helper()
	if v.Mark() != mark || !slices.Equal(v.Base(), pairs(l...)) {
		t.Fatalf("mark %d, base %v; not %d, %v", v.Mark(), v.Base(), mark, pairs(l...))
	}
}

// wants looks what a view wants: for each source its shard and how many entries it has, all with one time.
func wants(t *testing.T, v *view.View, time int, l ...int) {
	t.Helper()
	var want []api.Note
	for _, p := range pairs(l...) {
		want = append(want, api.Note{Kind: api.NotePull, To: p.Key, Client: 7, N: p.Val, Time: time})
	}
	if got := v.Wants(7); !same(got, want) {
		t.Fatalf("Wants: %v, not %v", got, want)
	}
}

// saw looks which entries were seen, by their times.
func saw(t *testing.T, v *view.View, times ...int) {
	t.Helper()
	l := v.Seen()
	var got []int
	for _, e := range l {
		got = append(got, e.Time)
	}
	if !slices.Equal(got, times) || len(v.Seen()) > 0 {
		t.Fatalf("Seen: %v, not at %v", l, times)
	}
}

// stays looks whether a call changes nothing that can be observed but what was seen, and answers an error.
func stays(t *testing.T, v *view.View, what any, want api.Errno, call func() api.Errno) {
	t.Helper()
	was := fmt.Sprint(v.Mark(), v.Base(), v.Chart(), v.On(), v.Wants(1))
	if e := call(); e != want {
		t.Errorf("%v: %v, not %v", what, e, want)
	}
	if now := fmt.Sprint(v.Mark(), v.Base(), v.Chart(), v.On(), v.Wants(1)); now != was || len(v.Seen()) > 0 {
		t.Errorf("%v: %s becomes %s", what, was, now)
	}
}

// Promise 14.1: a view of a set that is not empty, and no other.
func TestNew(t *testing.T) {
	var most []api.Span
	for i := range api.MaxSpans {
		most = append(most, api.Span{Lo: 3 * i, Hi: 3*i + 1})
	}
	for _, on := range [][]api.Span{spans(0, 1), spans(0, 4096), spans(4095, 4096), spans(0, 10, 3000, 3010), most} {
		v := view.New(on)
		if v == nil || !slices.Equal(v.On(), on) || v.Mark() != 0 || len(v.Base()) > 0 || !same(v.Chart(), api.Chart{}) || len(v.Wants(1)) > 0 || len(v.Seen()) > 0 {
			t.Errorf("a view of %v: %v", on, v)
		}
	}
	for _, on := range [][]api.Span{
		nil, {}, spans(0, 0), spans(-1, 2), spans(0, 4097), spans(1, 3, 3, 5), spans(5, 6, 1, 2), spans(2, 1),
		spans(math.MinInt, math.MaxInt), append(most, api.Span{Lo: 300, Hi: 301}),
	} {
		if v := view.New(on); v != nil {
			t.Errorf("a view of %v", on)
		}
	}
}

// Promise 14.1: the sources are those shards that have a followed key, by their keys.
func TestLearn(t *testing.T) {
	v := begin(t, 2, 0, 10, 3000, 3010)
	wants(t, v, 0, 1, -1, 2, -1)
	learns(t, v, charted(t, 2, api.Change{Kind: api.Split, ID: 1, At: 5}))
	wants(t, v, 0, 3, -1, 4, -1, 2, -1)
	v = begin(t, 2, 0, 10)
	wants(t, v, 0, 1, -1)
	learns(t, v, charted(t, 2, api.Change{Kind: api.Split, ID: 1, At: 10}))
	wants(t, v, 0, 3, -1)
	v = begin(t, 3, 1364, 1366, 2729, 2730)
	wants(t, v, 0, 1, -1, 2, -1)
	v = begin(t, 24, 0, 4096)
	if l := v.Wants(1); len(l) != 24 || l[23].To != 24 {
		t.Errorf("Wants: %v", l)
	}
}

// Promise 14.1: sources that the chart has still stay as they are; what others had that pended is gone.
func TestLearnStays(t *testing.T) {
	v := begin(t, 2, 0, 10, 3000, 3010)
	hears(t, v, state(1, 3, 5, 1, 1), state(2, 4, 5, 3000, 2), page(1, 3, 9, put(7, 2, 2)), page(2, 4, 6, put(8, 3001, 3)))
	has(t, v, 6, 1, 1, 3000, 2)
	learns(t, v, charted(t, 2, api.Change{Kind: api.Split, ID: 1, At: 2}))
	has(t, v, 6, 1, 1, 3000, 2)
	wants(t, v, 6, 3, -1, 4, -1, 2, 5) // the floor 9 is gone
	hears(t, v, state(3, 0, 9, 0, 7), page(2, 4, 12))
	has(t, v, 6, 1, 1, 3000, 2)
	hears(t, v, state(4, 1, 10, 2, 2, 3, 4))
	has(t, v, 6, 1, 1, 3000, 2) // the state of 4 is of a later time than the floor of 3
	hears(t, v, page(3, 0, 10))
	has(t, v, 10, 0, 7, 2, 2, 3, 4, 3000, 2, 3001, 3)
	saw(t, v, 8)
}

// Promise 14.1: a chart that is no newer changes nothing; one that may not be is refused, whatever its epoch.
func TestLearnOther(t *testing.T) {
	v := begin(t, 2, 0, 10, 3000, 3010)
	hears(t, v, state(1, 3, 5, 1, 1), page(1, 3, 8, put(7, 2, 2)))
	other := charted(t, 2, api.Change{Kind: api.Shift, ID: 1, At: 2})
	first := charted(t, 5)
	stays(t, v, "the same epoch", api.OK, func() api.Errno { return v.Learn(first) })
	learns(t, v, charted(t, 2, api.Change{Kind: api.Shift, ID: 2, At: 0}, api.Change{Kind: api.Shift, ID: 3, At: 1}))
	for _, x := range []api.Chart{charted(t, 2), other, v.Chart()} {
		stays(t, v, x, api.OK, func() api.Errno { return v.Learn(x) })
	}
	for _, change := range []func(x *api.Chart){
		func(x *api.Chart) { x.Epoch = 0 }, func(x *api.Chart) { x.Next = 1 }, func(x *api.Chart) { x.L = x.L[1:] }, func(x *api.Chart) { x.L[0].ID = x.L[1].ID },
		func(x *api.Chart) { x.Epoch = -1 }, func(x *api.Chart) { x.Epoch = math.MaxInt }, func(x *api.Chart) { x.L[0].Keys.Hi-- }, func(x *api.Chart) { *x = api.Chart{} },
	} {
		for _, x := range []api.Chart{charted(t, 2), charted(t, 2, api.Change{Kind: api.Shift, ID: 1, At: 0}, api.Change{Kind: api.Shift, ID: 3, At: 0}, api.Change{Kind: api.Shift, ID: 4, At: 0})} {
			change(&x)
			stays(t, v, x, api.ErrArg, func() api.Errno { return v.Learn(x) })
		}
	}
	wants(t, v, 8, 1, 4, 4, -1)
}

// Promise 14.1: a chart lets a view advance, if it takes away a source that was waited for.
func TestLearnAdvances(t *testing.T) {
	v := begin(t, 2, 0, 10, 3000, 3010)
	hears(t, v, state(1, 0, 5, 1, 1, 3001, 6), page(1, 0, 6, put(6, 2, 2)))
	has(t, v, 0)
	all := api.Chart{Epoch: 2, Next: 3, L: []api.Shard{{ID: 1, Keys: api.Span{Lo: 0, Hi: 4096}}}}
	learns(t, v, all)
	has(t, v, 6, 1, 1, 2, 2, 3001, 6)
	wants(t, v, 6, 1, 1)
	saw(t, v, 6)
}

// Promises 14.2 to 14.4: the chapter's examples.
func TestExamples(t *testing.T) {
	v := view.New(spans(0, 10))
	if e := v.Page(page(1, 0, 0)); e != api.ErrNone {
		t.Errorf("Page: %v", e)
	}
	learns(t, v, charted(t, 1))
	hears(t, v, state(1, 1, 3, 5, 7))
	has(t, v, 3, 5, 7)
	hears(t, v, page(1, 1, 6, put(4, 5, 9)))
	has(t, v, 6, 5, 9)
	saw(t, v, 4)

	v = begin(t, 2, 0, 10, 3000, 3010)
	hears(t, v, state(1, 2, 5))
	has(t, v, 0)
	hears(t, v, state(2, 0, 4))
	has(t, v, 0)
	hears(t, v, page(2, 0, 7))
	has(t, v, 5)
	hears(t, v, page(1, 2, 9))
	has(t, v, 7)
	if e := v.Page(page(1, 3, 9)); e != api.ErrForm {
		t.Errorf("Page: %v", e)
	}
}

// Promise 14.2: entries that came already do not come again, and a floor does not fall.
func TestPage(t *testing.T) {
	v := begin(t, 1, 0, 100)
	hears(t, v, state(1, 2, 5), page(1, 2, 4, put(6, 6, 6), put(7, 7, 7), put(8, 8, 8)))
	has(t, v, 5)
	wants(t, v, 5, 1, 5)
	l := []api.Entry{put(1, 1, 1), put(2, 2, 2), put(6, 6, 1), put(7, 7, 1), put(8, 8, 1), put(9, 9, 9), put(10, 10, 10)}
	hears(t, v, page(1, 0, 3, l[:2]...), page(1, 0, 0, l[:3]...), page(1, 0, math.MinInt, l[:5]...), page(1, 1, -1, l[1:5]...), page(1, 5, 5))
	wants(t, v, 5, 1, 5)
	hears(t, v, page(1, 4, 5, l[4:6]...))
	wants(t, v, 5, 1, 6)
	hears(t, v, page(1, 0, 9, l...))
	has(t, v, 9, 6, 6, 7, 7, 8, 8, 9, 9)
	wants(t, v, 9, 1, 7)
	saw(t, v, 6, 7, 8, 9)
	hears(t, v, page(1, 7, 10))
	has(t, v, 10, 6, 6, 7, 7, 8, 8, 9, 9, 10, 10)
	saw(t, v, 10)
}

// Promise 14.2: what is no page, of no source, or from no place; in this order.
func TestPageErrors(t *testing.T) {
	var wrong []api.Entry
	for _, change := range []func(e *api.Entry){
		func(e *api.Entry) { e.Time = -1 }, func(e *api.Entry) { e.Time = api.MaxTime + 1 }, func(e *api.Entry) { e.Time = math.MinInt }, func(e *api.Entry) { e.Time = math.MaxInt },
		func(e *api.Entry) { e.M.Client = 0 }, func(e *api.Entry) { e.M.Kind = 6 }, func(e *api.Entry) { e.M.Over.Hi = 1 }, func(e *api.Entry) { e.M.Old = 1 },
		func(e *api.Entry) { e.M.Pairs = pairs(2, 1, 1, 2) }, func(e *api.Entry) { e.M.Pairs = nil }, func(e *api.Entry) { e.M.Pairs[0].Val = api.Absent },
	} {
		e := put(3, 1, 1)
		change(&e)
		wrong = append(wrong, e)
	}
	v := view.New(spans(0, 10, 3000, 3010))
	stays(t, v, "no chart", api.ErrNone, func() api.Errno { return v.Page(page(1, -1, 0)) })
	learns(t, v, charted(t, 3, api.Change{Kind: api.Shift, ID: 2, At: 0}))
	hears(t, v, state(1, 2, 5))
	for _, e := range wrong {
		for _, n := range []api.Note{page(9, 9, 9, e), page(1, 0, 9, put(1, 1, 1), e), page(1, 2, 9, e, put(4, 1, 1)), page(1, 3, 9, e), page(3, 0, 9, e)} {
			stays(t, v, n, api.ErrArg, func() api.Errno { return v.Page(n) })
		}
	}
	for kind := range 15 {
		n := page(1, 2, 9, put(6, 1, 1))
		if n.Kind = kind - 1; n.Kind != api.NotePage {
			stays(t, v, n, api.ErrArg, func() api.Errno { return v.Page(n) })
		}
	}
	for _, from := range []int{0, 2, 3, 4, 5, -1, math.MinInt, math.MaxInt} { // 3 has no state, 4 no followed key
		stays(t, v, from, api.ErrNone, func() api.Errno { return v.Page(page(from, -1, 9, put(6, 1, 1))) })
	}
	for _, n := range []int{-1, 3, 4, math.MinInt, math.MaxInt} {
		stays(t, v, n, api.ErrForm, func() api.Errno { return v.Page(page(1, n, 9, put(6, 1, 1))) })
	}
	wants(t, v, 5, 1, 2, 3, -1)
}

// Promise 14.2: times of entries from 0 up to the greatest one.
func TestPageEdges(t *testing.T) {
	v := begin(t, 1, 0, 100)
	least := put(1, 1, 1)
	least.Time = 0
	most := put(1, 2, 2)
	most.Time = api.MaxTime
	hears(t, v, state(1, 0, 0), page(1, 0, 1, least, most))
	has(t, v, 1, 1, 1)
	hears(t, v, page(1, 2, api.MaxTime-1))
	has(t, v, api.MaxTime-1, 1, 1)
	hears(t, v, page(1, 2, api.MaxTime))
	has(t, v, api.MaxTime, 1, 1, 2, 2)
	hears(t, v, page(1, 2, math.MaxInt))
	has(t, v, math.MaxInt, 1, 1, 2, 2)
	wants(t, v, math.MaxInt, 1, 2)
}

// R1: a state behind any number of entries.
func TestManyEntries(t *testing.T) {
	v := begin(t, 1, 0, 100)
	hears(t, v, state(1, math.MaxInt-1, 0), page(1, math.MaxInt-1, 1, put(1, 1, 1), put(1, 2, 2)))
	has(t, v, 1, 1, 1, 2, 2)
	wants(t, v, 1, 1, math.MaxInt)
	hears(t, v, page(1, math.MaxInt, 2, put(2, 3, 3)), page(1, math.MaxInt-1, 2, put(1, 1, 5)))
	has(t, v, 2, 1, 1, 2, 2, 3, 3)
	wants(t, v, 2, 1, math.MaxInt)
}

// Promise 14.3: the first state alone is heard; pages go on behind it.
func TestState(t *testing.T) {
	v := begin(t, 2, 0, 10, 3000, 3010)
	hears(t, v, state(2, 0, 0))
	has(t, v, 0)
	wants(t, v, 0, 1, -1, 2, 0)
	hears(t, v, state(1, 9, 0, 0, 1, 9, 2, 10, 3, 3005, 4))
	has(t, v, 0, 0, 1, 9, 2)
	wants(t, v, 0, 1, 9, 2, 0)
	stays(t, v, "a second state", api.ErrNone, func() api.Errno { return v.State(state(1, 10, 4, 1, 1)) })
	hears(t, v, page(2, 0, 4), page(1, 9, 5))
	has(t, v, 4, 0, 1, 9, 2)
}

// Promise 14.3: what is no state, or of no source that waits for one; in this order.
func TestStateErrors(t *testing.T) {
	v := view.New(spans(0, 10, 3000, 3010))
	stays(t, v, "no chart", api.ErrNone, func() api.Errno { return v.State(state(1, 0, 0)) })
	learns(t, v, charted(t, 3, api.Change{Kind: api.Shift, ID: 2, At: 0}))
	hears(t, v, state(1, 2, 5))
	for kind := range 15 {
		n := state(3, 2, 9, 1, 1)
		if n.Kind = kind - 1; n.Kind != api.NoteState {
			stays(t, v, n, api.ErrArg, func() api.Errno { return v.State(n) })
		}
	}
	for _, from := range []int{1, 3, 9} {
		for _, n := range []api.Note{
			state(from, 0, 5, 2, 2, 1, 1), state(from, 0, 5, 1, 1, 1, 1), state(from, 0, 5, 1, api.Absent), state(from, 0, 5, 4096, 1), state(from, 0, 5, -1, 1),
			state(from, -1, 5), state(from, 0, -1), state(from, math.MinInt, 5), state(from, 0, math.MinInt),
		} {
			stays(t, v, n, api.ErrArg, func() api.Errno { return v.State(n) })
		}
	}
	for _, from := range []int{0, 1, 2, 4, 5, -1, math.MinInt, math.MaxInt} { // 1 has a state, 4 no followed key
		stays(t, v, from, api.ErrNone, func() api.Errno { return v.State(state(from, 0, 5)) })
	}
	wants(t, v, 5, 1, 2, 3, -1)
}

// Promise 14.3: a state takes the place of what the base has of the source's followed keys, and of no others.
func TestStateReplaces(t *testing.T) {
	v := begin(t, 2, 0, 10, 20, 30, 3000, 3010)
	hears(t, v, state(1, 0, 4, 1, 1, 5, 5, 15, 15, 25, 25), state(2, 0, 4, 3000, 1, 3009, 2))
	has(t, v, 4, 1, 1, 5, 5, 25, 25, 3000, 1, 3009, 2)
	learns(t, v, charted(t, 2, api.Change{Kind: api.Split, ID: 1, At: 5}, api.Change{Kind: api.Shift, ID: 2, At: 0}))
	hears(t, v, state(3, 0, 6, 0, 1, 4, 4, 5, 9, 3001, 7), state(4, 3, 6, 4, 9, 6, 6, 15, 1, 29, 2, 30, 3), state(5, 0, 6))
	has(t, v, 6, 0, 1, 4, 4, 6, 6, 29, 2)
}

// Promise 14.3: no state is taken ahead of the least floor; pages of its source behind it come on top of it.
func TestStateWaits(t *testing.T) {
	v := begin(t, 3, 0, 10, 1400, 1410, 3000, 3010)
	hears(t, v, state(1, 0, 9, 1, 1), page(1, 0, 12, put(10, 2, 2), put(11, 1, 5)), state(2, 5, 7, 1400, 1))
	has(t, v, 0)
	hears(t, v, state(3, 0, 8, 3000, 1), page(2, 5, 11, put(8, 1400, 2), put(9, 1401, 3), put(11, 1402, 4)))
	has(t, v, 0)
	saw(t, v)
	hears(t, v, page(3, 0, 9, put(9, 3000, 9), put(10, 3000, 10)))
	has(t, v, 9, 1, 1, 1400, 2, 1401, 3, 3000, 9)
	saw(t, v, 8, 9, 9)
	hears(t, v, page(3, 2, 20))
	has(t, v, 11, 1, 5, 2, 2, 1400, 2, 1401, 3, 1402, 4, 3000, 10)
	saw(t, v, 10, 11, 11, 10)
}

// A state whose floor is below the mark is taken, and the mark stays.
func TestStateBelow(t *testing.T) {
	v := begin(t, 2, 0, 10, 3000, 3010)
	hears(t, v, state(1, 0, 9, 1, 1), state(2, 0, 9, 3000, 1), page(2, 0, 9, put(10, 3001, 1)))
	has(t, v, 9, 1, 1, 3000, 1)
	learns(t, v, charted(t, 2, api.Change{Kind: api.Shift, ID: 1, At: 2}))
	hears(t, v, state(3, 0, 4, 2, 2))
	has(t, v, 9, 2, 2, 3000, 1)
	wants(t, v, 9, 3, 0, 2, 1)
	hears(t, v, page(3, 0, 6, put(5, 3, 3), put(6, 4, 4)))
	has(t, v, 9, 2, 2, 3000, 1) // nothing is taken till the least floor is above the mark
	saw(t, v)
	hears(t, v, page(3, 2, 10), page(2, 1, 11))
	has(t, v, 10, 2, 2, 3, 3, 4, 4, 3000, 1, 3001, 1)
	saw(t, v, 5, 6, 10)
}

// Promise 14.2: entries are taken on the keys that their source has and the view follows, and only those that are done.
func TestEntries(t *testing.T) {
	v := begin(t, 2, 0, 10, 20, 30, 3000, 3010)
	hears(t, v, state(1, 0, 0, 1, 1, 5, 5, 25, 25), state(2, 0, 0, 3000, 1, 3009, 2))
	move := done(2, api.MutMove, 1, 1, 3000, 1)
	wide := del(3, 5, 3001)
	fails := done(4, api.MutAdd, 2, -1)
	cas := done(5, api.MutCas, 2, 8)
	cas.M.Old = api.Absent
	outside := put(6, 15, 1, 3010, 2)
	hears(t, v, page(1, 0, 6, put(1, 0, 3, 12, 4), move, wide, fails, cas, outside, failed(6, 7, 7)))
	has(t, v, 0, 1, 1, 5, 5, 25, 25, 3000, 1, 3009, 2)
	hears(t, v, page(2, 0, 2, move, wide, put(7, 3005, 5)))
	has(t, v, 2, 0, 3, 1, 0, 5, 5, 25, 25, 3000, 2, 3009, 2)
	saw(t, v, 1, 2, 2)
	hears(t, v, page(2, 3, 7))
	has(t, v, 6, 0, 3, 1, 0, 2, 8, 3009, 2)
	saw(t, v, 3, 4, 5, 6, 6, 3)
	hears(t, v, page(1, 7, 9))
	has(t, v, 7, 0, 3, 1, 0, 2, 8, 3005, 5, 3009, 2)
	saw(t, v, 7)
}

// Entries are taken in the order in which they came, those up to the mark; the others pend.
func TestEntriesOrder(t *testing.T) {
	v := begin(t, 1, 0, 10)
	hears(t, v, state(1, 0, 0), page(1, 0, 5, put(7, 1, 7), put(5, 1, 5), put(4, 1, 4), put(6, 1, 6)))
	has(t, v, 5, 1, 4)
	saw(t, v, 5, 4)
	hears(t, v, page(1, 4, 7))
	has(t, v, 7, 1, 6)
	saw(t, v, 7, 6)
}

// Promise 14.4: what is wanted, for any client.
func TestWants(t *testing.T) {
	v := begin(t, 2, 0, 10, 3000, 3010)
	for _, client := range []int{7, 1, 0, -1, math.MinInt, math.MaxInt} {
		want := []api.Note{{Kind: api.NotePull, To: 1, Client: client, N: -1}, {Kind: api.NotePull, To: 2, Client: client, N: -1}}
		if l := v.Wants(client); !same(l, want) {
			t.Errorf("Wants: %v, not %v", l, want)
		}
	}
	hears(t, v, state(2, 8, 6))
	wants(t, v, 6, 1, -1, 2, 8)
	hears(t, v, state(1, 0, 9))
	wants(t, v, 9, 1, 0, 2, 8)
	hears(t, v, page(2, 8, 7, put(7, 3000, 1)))
	wants(t, v, 9, 1, 0, 2, 9)
	hears(t, v, page(2, 9, 12))
	wants(t, v, 12, 1, 0, 2, 9)
	has(t, v, 9, 3000, 1)
	learns(t, v, charted(t, 2, api.Change{Kind: api.Merge, ID: 1}))
	wants(t, v, 9, 3, -1) // the mark, if no floor is above it
}

// Promise 14.4: what was seen is told once, also what a state made of no account.
func TestSeen(t *testing.T) {
	v := begin(t, 1, 0, 10)
	hears(t, v, state(1, 0, 0))
	saw(t, v)
	hears(t, v, page(1, 0, 1, put(1, 1, 1)), page(1, 1, 2, failed(2, 1, 1), put(3, 1, 1)), page(1, 3, 3, put(3, 4000, 1)))
	l := v.Seen()
	want := []api.Entry{put(1, 1, 1), failed(2, 1, 1), put(3, 1, 1), put(3, 4000, 1)}
	if !same(l, want) {
		t.Errorf("Seen: %v, not %v", l, want)
	}
	saw(t, v)
	hears(t, v, page(1, 4, 9))
	saw(t, v)
}

// Promises 14.1 to 14.4: a nil view.
func TestNil(t *testing.T) {
	var v *view.View
	if e := v.Learn(charted(t, 1)); e != api.ErrArg {
		t.Errorf("Learn: %v", e)
	}
	if v.Page(page(1, 0, 0)) != api.ErrArg || v.State(state(1, 0, 0)) != api.ErrArg {
		t.Errorf("Page, State")
	}
	if v.Wants(1) != nil || v.Mark() != 0 || v.Base() != nil || !same(v.Chart(), api.Chart{}) || v.On() != nil || v.Seen() != nil {
		t.Errorf("a nil view has something")
	}
}
