package audit_test

import (
	"fmt"
	"math"
	"slices"
	"testing"

	"splice/api"
	"splice/audit"
)

// spans are the spans from one key up to another that stand two by two.
func spans(l ...int) (out []api.Span) {
	for i := 0; i+1 < len(l); i += 2 {
		out = append(out, api.Span{Lo: l[i], Hi: l[i+1]})
	}
	return out
}

// pairs are the pairs of keys and values that stand two by two.
func pairs(l ...int) (out []api.Pair) {
	for i := 0; i+1 < len(l); i += 2 {
		out = append(out, api.Pair{Key: l[i], Val: l[i+1]})
	}
	return out
}

func made(client, seq, kind int, l ...int) api.Mut {
	return api.Mut{Client: client, Seq: seq, Kind: kind, Pairs: pairs(l...)}
}

func put(client, seq int, l ...int) api.Mut {
	return made(client, seq, api.MutPut, l...)
}

func add(client, seq, key, val int) api.Mut {
	return made(client, seq, api.MutAdd, key, val)
}

func del(client, seq, lo, hi int) api.Mut {
	return api.Mut{Client: client, Seq: seq, Kind: api.MutDel, Over: api.Span{Lo: lo, Hi: hi}}
}

// at is the entry of a mutation that did not fail.
func at(time int, m api.Mut) api.Entry {
	return api.Entry{M: m, Time: time, Done: true}
}

// failed is the entry of a mutation that failed.
func failed(time int, m api.Mut) api.Entry {
	return api.Entry{M: m, Time: time}
}

func none() api.Cell {
	return api.Cell{}
}

func some(val int) api.Cell {
	return api.Cell{Val: val, Some: true}
}

// issued is the event that a mutation's client issued it.
func issued(m api.Mut) api.Event {
	return api.Event{Kind: api.EvIssue, Client: m.Client, M: m}
}

// read is the event that a client read a key.
func read(client, key, mark int, c api.Cell) api.Event {
	return api.Event{Kind: api.EvRead, Client: client, Key: key, Mark: mark, Cell: c}
}

// sample is the order and the story of the chapter's examples.
func sample() ([]api.Entry, []api.Event) {
	return []api.Entry{at(3, put(1, 1, 5, 7)), at(6, put(2, 1, 5, 9)), at(8, put(2, 2, 6, 1))}, []api.Event{
		issued(put(1, 1, 5, 7)), read(1, 5, 0, some(7)), read(2, 5, 2, none()), read(2, 5, 5, some(7)), read(1, 5, 6, some(9)),
		read(2, 5, 4, some(7)), issued(put(1, 3, 5, 7)), read(1, 6, 9, some(2)), {Kind: 3, Client: 1},
	}
}

// same tells whether two are the same; nil lists and empty ones are.
func same(a, b any) bool {
	return fmt.Sprint(a) == fmt.Sprint(b)
}

// finds looks what is wrong with a story: places and reasons, two by two.
func finds(t *testing.T, order []api.Entry, story []api.Event, l ...int) {
	t.Helper()
	var want []api.Finding
	for _, p := range pairs(l...) {
		want = append(want, api.Finding{At: p.Key, Why: p.Val})
	}
	if got, e := audit.Check(order, story); e != api.OK || !slices.Equal(got, want) {
		t.Errorf("Check of %v: %v, %v, not %v", story, got, e, want)
	}
}

// notOrders are lists of entries that are no orders.
func notOrders() [][]api.Entry {
	a, b := at(3, put(1, 1, 5, 7)), at(6, put(2, 1, 5, 9))
	l := [][]api.Entry{
		{b, a}, {a, a}, {a, b, b}, {at(3, put(2, 1, 5, 7)), a}, {at(3, put(1, 2, 5, 7)), a}, {a, failed(3, put(1, 1, 6, 8))}, {at(0, put(1, 1, 5, 7)), at(-1, put(1, 2, 5, 7))},
	}
	for _, m := range []api.Mut{{}, put(0, 1, 5, 1), put(9, 0, 5, 1), put(9, 1), put(9, 1, 6, 1, 5, 1), put(9, 1, 4096, 1), put(9, 1, 5, api.Absent), del(9, 1, 5, 5), made(9, 1, 6, 5, 1)} {
		l = append(l, []api.Entry{at(4, m)}, []api.Entry{a, failed(4, m)}, []api.Entry{a, at(4, m), b}, []api.Entry{at(1, m), a, b})
	}
	return l
}

// Promise 24.1: Order; what is none is refused by all.
func TestOrder(t *testing.T) {
	a, b := at(3, put(1, 1, 5, 7)), at(6, put(2, 1, 5, 9))
	for _, l := range [][]api.Entry{
		nil, {}, {a}, {b}, {a, b}, {a, at(3, put(1, 2, 5, 7)), at(3, put(2, 1, 5, 7)), at(4, put(1, 1, 5, 7))}, {failed(0, put(9, 9, 9, 9)), a},
		{at(math.MinInt, put(1, 1, 5, 7)), at(-1, put(1, 1, 5, 7)), a, at(math.MaxInt, put(1, 1, 5, 7))},
	} {
		if !audit.Order(l) {
			t.Errorf("%v is no order", l)
		}
		finds(t, l, nil)
	}
	_, story := sample()
	for _, l := range notOrders() {
		if audit.Order(l) {
			t.Errorf("%v is an order", l)
		}
		if f, e := audit.Check(l, story); f != nil || e != api.ErrArg {
			t.Errorf("Check by %v: %v, %v", l, f, e)
		}
		if s, e := audit.Steps(l, 5); s != nil || e != api.ErrArg {
			t.Errorf("Steps of %v: %v, %v", l, s, e)
		}
		if b, e := audit.Blame(l, spans(0, 100), 9); b != nil || e != api.ErrArg {
			t.Errorf("Blame of %v: %v, %v", l, b, e)
		}
		if p, n := audit.Pending(l, story, 2, 1, 0), audit.Lag(l, spans(0, 100), 0); p != nil || n != 0 {
			t.Errorf("Pending and Lag of %v: %v, %d", l, p, n)
		}
	}
}

// Promise 24.1: the chapter's examples.
func TestExamples(t *testing.T) {
	order, story := sample()
	finds(t, order, story, 5, api.WhyMark, 6, api.WhySeq, 7, api.WhyRead, 8, api.WhyForm)
	order = order[:1]
	finds(t, order, []api.Event{issued(put(1, 1, 5, 7)), read(1, 5, 0, some(7)), read(1, 5, 4, some(7))})
	finds(t, order, []api.Event{issued(put(1, 1, 5, 7)), read(1, 5, 0, some(7)), read(1, 5, 4, some(8))}, 2, api.WhyRead)
}

// Promise 24.1: WhyForm, ahead of all other reasons.
func TestForm(t *testing.T) {
	order, _ := sample()
	var wrong []api.Event
	for _, change := range []func(ev *api.Event){
		func(ev *api.Event) { ev.Kind = 0 }, func(ev *api.Event) { ev.Kind = 3 }, func(ev *api.Event) { ev.Kind = -1 }, func(ev *api.Event) { ev.Kind = math.MaxInt },
		func(ev *api.Event) { ev.Client = 2 }, func(ev *api.Event) { ev.Client = 0 }, func(ev *api.Event) { ev.Client, ev.M.Client = 0, 0 }, func(ev *api.Event) { ev.M.Client = 2 },
		func(ev *api.Event) { ev.Key = 5 }, func(ev *api.Event) { ev.Key = -1 }, func(ev *api.Event) { ev.Mark = 1 }, func(ev *api.Event) { ev.Mark = -1 },
		func(ev *api.Event) { ev.Cell = some(0) }, func(ev *api.Event) { ev.Cell.Val = 1 }, func(ev *api.Event) { ev.M = api.Mut{} }, func(ev *api.Event) { ev.M.Seq = 0 },
		func(ev *api.Event) { ev.M.Seq = api.MaxSeq + 1 }, func(ev *api.Event) { ev.M.Old = 1 }, func(ev *api.Event) { ev.M.Pairs = nil }, func(ev *api.Event) { ev.M.Pairs = pairs(5, api.Absent) },
		func(ev *api.Event) { ev.Client, ev.M.Client = api.MaxClient+1, api.MaxClient+1 },
	} {
		for _, seq := range []int{1, 2} { // the second one would have the wrong number
			ev := issued(put(1, seq, 5, 1))
			change(&ev)
			wrong = append(wrong, ev)
		}
	}
	for _, change := range []func(ev *api.Event){
		func(ev *api.Event) { ev.Client = 0 }, func(ev *api.Event) { ev.Client = -1 }, func(ev *api.Event) { ev.Client = api.MaxClient + 1 }, func(ev *api.Event) { ev.Client = math.MaxInt },
		func(ev *api.Event) { ev.Key = -1 }, func(ev *api.Event) { ev.Key = 4096 }, func(ev *api.Event) { ev.Key = math.MaxInt }, func(ev *api.Event) { ev.Key = math.MinInt },
		func(ev *api.Event) { ev.Mark = -1 }, func(ev *api.Event) { ev.Mark = math.MinInt },
		func(ev *api.Event) { ev.Cell = some(api.MaxVal + 1) }, func(ev *api.Event) { ev.Cell = some(-api.MaxVal - 1) }, func(ev *api.Event) { ev.Cell = api.Cell{Val: 7} }, func(ev *api.Event) { ev.Cell = api.Cell{Val: -7} },
		func(ev *api.Event) { ev.Cell = some(math.MinInt) },
		func(ev *api.Event) { ev.M.Client = 1 }, func(ev *api.Event) { ev.M.Seq = 1 }, func(ev *api.Event) { ev.M.Kind = 1 }, func(ev *api.Event) { ev.M.Pairs = pairs(0, 0) },
		func(ev *api.Event) { ev.M.Over.Lo = 1 }, func(ev *api.Event) { ev.M.Over.Hi = 1 }, func(ev *api.Event) { ev.M.Old = 1 }, func(ev *api.Event) { ev.M = put(1, 1, 5, 7) },
		func(ev *api.Event) { ev.Kind = 3 }, func(ev *api.Event) { ev.Kind = 0 },
	} {
		for _, ev := range []api.Event{read(1, 5, 4, some(7)), read(2, 5, 1, some(3)), read(1, 5, 9, none())} {
			change(&ev)
			wrong = append(wrong, ev)
		}
	}
	for _, ev := range wrong { // of each client one has been read up to 2, and none has issued one
		finds(t, order, []api.Event{read(1, 7, 2, none()), read(2, 7, 2, none()), ev, issued(put(1, 1, 9, 9)), read(1, 9, 2, some(9)), read(2, 9, 2, none())}, 2, api.WhyForm)
	}
}

// Promise 24.1: events at the edge of what may be.
func TestFormEdges(t *testing.T) {
	order := []api.Entry{at(0, put(api.MaxClient, 1, 0, api.MaxVal, 4095, -api.MaxVal)), at(7, put(api.MaxClient, 2, 0, 0))}
	last := issued(del(api.MaxClient, 1, 0, 4096))
	last.M.Pairs = []api.Pair{}
	empty := read(1, 4095, 0, some(-api.MaxVal))
	empty.M.Pairs = []api.Pair{}
	finds(t, order, []api.Event{
		last, read(api.MaxClient, 0, 0, some(api.MaxVal)), empty, read(api.MaxClient, 5, math.MaxInt, none()), read(1, 0, 6, some(api.MaxVal)), read(1, 0, 7, some(0)),
	})
	finds(t, nil, []api.Event{read(1, 0, 0, none()), read(1, 4095, 0, none()), read(1, 5, 0, some(0))}, 2, api.WhyRead)
}

// Promise 24.1: WhySeq; an issue that is wrong does not count.
func TestSeq(t *testing.T) {
	var l []api.Event
	for _, p := range pairs(1, 2, 1, 1, 1, 1, 2, 1, 1, 3, 1, 2, 2, 3, 2, 2, 1, 4, 1, 3, 9, api.MaxSeq) {
		l = append(l, issued(put(p.Key, p.Val, 10*p.Key, p.Val)))
	}
	finds(t, nil, l, 0, api.WhySeq, 2, api.WhySeq, 4, api.WhySeq, 6, api.WhySeq, 8, api.WhySeq, 10, api.WhySeq)
	order := []api.Entry{at(3, put(1, 1, 5, 7)), at(4, put(1, 2, 5, 8)), at(5, put(1, 3, 5, 9))}
	finds(t, order, []api.Event{issued(put(1, 4, 5, 1)), issued(put(1, 3, 5, 1)), issued(put(1, 2, 5, 1)), issued(put(1, 1, 5, 1))}, 0, api.WhySeq, 1, api.WhySeq, 2, api.WhySeq) // what is committed does not count
	finds(t, order, []api.Event{issued(put(1, 2, 5, 1)), read(1, 5, 0, none()), issued(put(1, 1, 5, 2)), issued(put(1, 3, 5, 3)), read(1, 5, 0, some(2)), read(1, 5, 5, some(9))}, 0, api.WhySeq, 3, api.WhySeq)
}

// Promise 24.1: WhyMark; marks of reads that are wrong count too, but for those of a form that may not be.
func TestMark(t *testing.T) {
	finds(t, nil, []api.Event{
		read(1, 5, 5, none()), read(1, 5, 4, none()), read(1, 5, 5, none()), read(2, 5, 4, none()), read(1, 5, 9, some(1)), read(1, 5, 8, none()), read(1, 5, 9, none()),
		read(1, 5, 20, api.Cell{Val: 1}), read(1, 5, 10, none()), read(1, 5, 3, some(1)), read(1, 5, 9, none()), read(2, 5, 4, none()), read(2, 5, 3, none()),
	}, 1, api.WhyMark, 4, api.WhyRead, 5, api.WhyMark, 7, api.WhyForm, 9, api.WhyMark, 10, api.WhyMark, 12, api.WhyMark)
}

// Promise 24.1: WhyRead; what a client sees is what is committed up to its mark, and its pendings behind that.
func TestRead(t *testing.T) {
	order := []api.Entry{
		at(2, put(1, 1, 5, 1)), failed(3, put(2, 1, 5, 50)), at(4, add(2, 2, 5, 10)), at(4, del(3, 1, 0, 5)), at(5, add(2, 3, 5, -99)), at(6, made(1, 3, api.MutMove, 5, 4, 9, 4)), at(6, put(2, 4, 5, 0)),
	}
	cells := []api.Cell{none(), none(), some(1), some(1), some(11), some(11), some(0), some(0)}
	for mark, c := range cells {
		finds(t, order, []api.Event{read(7, 5, mark, c)})
		for _, other := range []api.Cell{none(), some(0), some(1), some(11), some(10), some(-88), some(7)} {
			if other != c {
				finds(t, order, []api.Event{read(7, 5, mark, other)}, 0, api.WhyRead)
			}
		}
	}
	finds(t, order, []api.Event{
		issued(put(1, 1, 5, 1)), issued(add(1, 2, 5, 1)), issued(made(1, 3, api.MutMove, 5, 4, 9, 4)), issued(add(1, 4, 9, 1)),
		read(1, 5, 0, some(-2)), read(1, 9, 0, some(5)), read(1, 5, 2, some(-2)), read(1, 5, 4, some(8)), read(1, 9, 5, some(5)), read(2, 9, 5, none()),
		read(1, 5, 6, some(1)), read(1, 9, 6, some(5)), read(2, 9, 6, some(4)), read(1, 9, 9, some(5)),
	})
}

// Promise 24.1: a client's pendings are told by their numbers, whatever is committed under these, and when it was issued.
func TestReadNumbers(t *testing.T) {
	order := []api.Entry{at(3, put(1, 1, 5, 7)), at(4, put(2, 1, 5, 8)), at(9, put(1, 1, 6, 6)), at(9, put(1, 3, 5, 5))}
	finds(t, order, []api.Event{
		read(1, 5, 3, some(7)), issued(put(1, 1, 7, 7)), read(1, 7, 3, none()), issued(put(1, 2, 5, 2)), issued(put(1, 3, 5, 3)), issued(add(2, 1, 5, 1)), read(1, 5, 4, some(3)), read(2, 5, 3, some(8)), read(2, 5, 4, some(8)),
		read(1, 6, 9, some(6)), read(1, 5, 9, some(2)),
	})
	failing := []api.Entry{failed(3, add(1, 1, 5, -1))}
	finds(t, failing, []api.Event{issued(add(1, 1, 5, -1)), issued(put(1, 2, 5, 4)), read(1, 5, 2, some(4)), issued(add(1, 3, 5, -5)), read(1, 5, 3, some(4))})
}

// pendings looks what is pending: the numbers.
func pendings(t *testing.T, order []api.Entry, story []api.Event, place, client, mark int, seqs ...int) {
	t.Helper()
	got := audit.Pending(order, story, place, client, mark)
	var l []int
	for _, m := range got {
		l = append(l, m.Seq)
		if m.Client != client || !slices.ContainsFunc(story, func(ev api.Event) bool { return same(ev.M, m) }) {
			t.Errorf("%v is pending", m)
		}
	}
	if !slices.Equal(l, seqs) {
		t.Errorf("at %d, of %d, up to %d: %v are pending, not %v", place, client, mark, l, seqs)
	}
}

// Promise 24.2: Pending, at any place.
func TestPending(t *testing.T) {
	order, story := sample()
	pendings(t, order, story, 2, 1, 0, 1)
	pendings(t, order, story, 1, 1, 2, 1)
	pendings(t, order, story, 0, 1, 0)
	for _, place := range []int{-1, math.MinInt} {
		pendings(t, order, story, place, 1, 0)
	}
	for _, place := range []int{8, 9, 10, math.MaxInt} {
		pendings(t, order, story, place, 1, 4)
		pendings(t, order, story, place, 1, 3)
		pendings(t, order, story, place, 1, 2, 1)
		pendings(t, order, story, place, 1, -1, 1)
		pendings(t, order, story, place, 1, math.MinInt, 1)
		pendings(t, order, story, place, 2, 0)
	}
	story = append(story, issued(put(2, 2, 5, 5)), issued(put(2, 1, 5, 5)), issued(put(2, 3, 5, 5)), issued(put(2, 2, 5, 6)), api.Event{Kind: api.EvIssue, Client: 2, M: put(1, 2, 5, 5)}, issued(put(2, 3, 5, 7)))
	pendings(t, order, story, 10, 2, 0)
	pendings(t, order, story, 11, 2, 0, 1)
	pendings(t, order, story, 12, 2, 0, 1)
	pendings(t, order, story, 14, 2, 0, 1, 2)
	pendings(t, order, story, 15, 2, 0, 1, 2, 3)
	pendings(t, order, story, 15, 2, 6, 2, 3)
	pendings(t, order, story, 15, 2, 7, 2, 3)
	pendings(t, order, story, 15, 2, 8, 3)
	pendings(t, order, story, 15, 2, math.MaxInt, 3)
	pendings(t, order, story, 15, 1, 0, 1)
	for _, client := range []int{0, 3, -1, math.MinInt, math.MaxInt} {
		pendings(t, order, story, 15, client, 0)
	}
	pendings(t, nil, story, 15, 2, 99, 1, 2, 3)
	pendings(t, order, nil, 15, 2, 0)
	if l := audit.Pending(nil, story, 15, 2, 99); l[0].Pairs[0].Val != 5 || l[1].Pairs[0].Val != 6 || l[2].Pairs[0].Val != 7 {
		t.Errorf("Pending: %v", l)
	}
}

// Promise 24.3: Steps, of what is done and touches the key.
func TestSteps(t *testing.T) {
	a, b, c := at(3, put(1, 1, 5, 7)), at(6, put(2, 1, 5, 9)), at(8, put(2, 2, 6, 1))
	d, e, f := at(9, del(1, 2, 0, 6)), at(10, add(1, 3, 5, -1)), at(11, made(1, 4, api.MutMove, 7, 3, 5, 3))
	order := []api.Entry{a, failed(4, put(7, 1, 5, 4)), b, c, d, e, f, at(12, add(1, 5, 5, 0)), at(13, del(1, 6, 6, 9))}
	for key, want := range map[int][]api.Step{
		5:    {{E: a, Is: some(7)}, {E: b, Was: some(7), Is: some(9)}, {E: d, Was: some(9)}, {E: e}, {E: f, Is: some(3)}, {E: order[7], Was: some(3), Is: some(3)}},
		6:    {{E: c, Is: some(1)}, {E: order[8], Was: some(1)}},
		7:    {{E: f, Is: some(-3)}, {E: order[8], Was: some(-3)}},
		0:    {{E: d}},
		8:    {{E: order[8]}},
		9:    nil,
		4095: nil,
	} {
		if got, e := audit.Steps(order, key); e != api.OK || !same(got, want) {
			t.Errorf("Steps of %d: %v, %v, not %v", key, got, e, want)
		}
	}
	for _, key := range []int{-1, 4096, math.MinInt, math.MaxInt} {
		if got, e := audit.Steps(order, key); e != api.ErrArg || got != nil {
			t.Errorf("Steps of %d: %v, %v", key, got, e)
		}
	}
	if got, e := audit.Steps(nil, 5); e != api.OK || len(got) > 0 {
		t.Errorf("Steps of nothing: %v, %v", got, e)
	}
}

// blames looks which entries are told, by their times.
func blames(t *testing.T, order []api.Entry, on []api.Span, mark int, times ...int) {
	t.Helper()
	got, e := audit.Blame(order, on, mark)
	var l []int
	for _, b := range got {
		l = append(l, b.Time)
		if !slices.ContainsFunc(order, func(x api.Entry) bool { return same(x, b) }) {
			t.Errorf("%v is blamed", b)
		}
	}
	if e != api.OK || !slices.Equal(l, times) {
		t.Errorf("on %v up to %d: %v, %v, not %v", on, mark, l, e, times)
	}
}

// Promise 24.3: Blame, for each key that has a value.
func TestBlame(t *testing.T) {
	order, _ := sample()
	blames(t, order, spans(0, 100), 7, 6)
	blames(t, order, spans(0, 100), 8, 6, 8)
	blames(t, order, spans(0, 100), 5, 3)
	blames(t, order, spans(0, 100), 2)
	blames(t, order, spans(6, 7), 9, 8)
	blames(t, order, spans(7, 100), 9)
	blames(t, order, nil, 9)
	blames(t, nil, spans(0, 100), 9)
	order = []api.Entry{
		at(-5, put(3, 1, 90, 1)), at(1, put(1, 1, 0, 1, 5, 7, 8, 2, 4095, 1)), failed(2, put(1, 2, 5, 1)), at(3, add(1, 3, 5, -99)), at(4, made(1, 4, api.MutMove, 8, 1, 7, 1)), at(5, del(2, 1, 8, 4096)), at(6, put(2, 2, 9, 1)), failed(7, del(2, 3, 0, 9)),
	}
	blames(t, order, spans(0, 4096), 9, 1, 3, 4, 6)
	blames(t, order, spans(0, 4096), 4, 1, 3, 4, 4, -5, 1)
	blames(t, order, spans(0, 4096), 1, 1, 1, 1, -5, 1)
	blames(t, order, spans(0, 4096), -5, -5)
	blames(t, order, spans(0, 4096), math.MaxInt, 1, 3, 4, 6)
	blames(t, order, spans(0, 4096), math.MinInt)
	blames(t, order, spans(4, 6, 9, 10), 9, 3, 6)
	for _, on := range [][]api.Span{spans(0, 0), spans(-1, 5), spans(0, 4097), spans(1, 3, 3, 5), spans(5, 6, 1, 2)} {
		if got, e := audit.Blame(order, on, 9); e != api.ErrArg || got != nil {
			t.Errorf("Blame on %v: %v, %v", on, got, e)
		}
		if n := audit.Lag(order, on, 0); n != 0 {
			t.Errorf("Lag on %v: %d", on, n)
		}
	}
}

// Promise 24.3: Lag, of all entries above the mark that touch the set.
func TestLag(t *testing.T) {
	order, _ := sample()
	order = append(order, failed(9, add(3, 1, 50, 1)), at(9, made(3, 2, api.MutMove, 50, 1, 3000, 1)), at(10, del(4, 1, 2000, 4096)))
	for _, x := range []struct {
		on         []api.Span
		mark, want int
	}{
		{spans(0, 100), 5, 4}, {spans(0, 40), 5, 2}, {spans(0, 40), 6, 1}, {spans(0, 40), 8, 0}, {spans(0, 40), 2, 3}, {spans(0, 40), 3, 2}, {spans(0, 40), math.MinInt, 3}, {spans(0, 4096), math.MaxInt, 0},
		{spans(50, 51), 0, 2}, {spans(3000, 3001), 0, 2}, {spans(7, 9), 0, 0}, {nil, 0, 0}, {spans(0, 4096), -1, 6}, {spans(5, 6, 60, 2001), 0, 3},
	} {
		if n := audit.Lag(order, x.on, x.mark); n != x.want {
			t.Errorf("Lag on %v from %d: %d, not %d", x.on, x.mark, n, x.want)
		}
	}
	if n := audit.Lag(nil, spans(0, 100), 0); n != 0 {
		t.Errorf("Lag of nothing: %d", n)
	}
}

// Promise 24.3: Marks, of all reads of a client.
func TestMarks(t *testing.T) {
	_, story := sample()
	story = append(story, read(2, -1, -7, some(api.Absent)), issued(put(2, 1, 5, 5)), read(0, 5, 3, none()))
	for client, want := range map[int][]int{1: {0, 6, 9}, 2: {2, 5, 4, -7}, 0: {3}, 3: nil, -1: nil, math.MaxInt: nil} {
		if got := audit.Marks(story, client); !slices.Equal(got, want) {
			t.Errorf("Marks of %d: %v, not %v", client, got, want)
		}
	}
	if got := audit.Marks(nil, 1); len(got) > 0 {
		t.Errorf("Marks of nothing: %v", got)
	}
}
