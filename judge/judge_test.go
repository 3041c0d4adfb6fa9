package judge_test

import (
	"fmt"
	"math"
	"slices"
	"testing"

	"splice/api"
	"splice/judge"
)

// spans are the spans from one key up to another that stand two by two.
func spans(l ...int) (out []api.Span) {
	for i := 0; i+1 < len(l); i += 2 {
		out = append(out, api.Span{Lo: l[i], Hi: l[i+1]})
	}
	return out
}

// pairs are the pairs of keys and values that stand two by two.
func pairs(l ...int) (out []api.Pair) {
	for i := 0; i+1 < len(l); i += 2 {
		out = append(out, api.Pair{Key: l[i], Val: l[i+1]})
	}
	return out
}

func made(client, seq, kind int, l ...int) api.Mut {
	return api.Mut{Client: client, Seq: seq, Kind: kind, Pairs: pairs(l...)}
}

func put(client, seq int, l ...int) api.Mut {
	return made(client, seq, api.MutPut, l...)
}

func add(client, seq, key, val int) api.Mut {
	return made(client, seq, api.MutAdd, key, val)
}

func del(client, seq, lo, hi int) api.Mut {
	return api.Mut{Client: client, Seq: seq, Kind: api.MutDel, Over: api.Span{Lo: lo, Hi: hi}}
}

// at is the entry of a mutation that did not fail.
func at(time int, m api.Mut) api.Entry {
	return api.Entry{M: m, Time: time, Done: true}
}

// failed is the entry of a mutation that failed.
func failed(time int, m api.Mut) api.Entry {
	return api.Entry{M: m, Time: time}
}

// shard is a core of keys, with a clock and a log, which is what it knows.
func shard(id, lo, hi, clock int, l ...api.Entry) api.Core {
	c := api.Core{ID: id, Keys: api.Span{Lo: lo, Hi: hi}, Clock: clock, Log: l}
	for _, e := range l {
		c.Known = append(c.Known, api.Known{Client: e.M.Client, Seq: e.M.Seq, Time: e.Time, Done: e.Done})
	}
	slices.SortFunc(c.Known, func(a, b api.Known) int {
		return slices.Compare([]int{a.Client, a.Seq}, []int{b.Client, b.Seq})
	})
	return c
}

// sample is the cores of the chapter's examples, and their entries.
func sample() (l []api.Core, a, b, c api.Entry) {
	a, b, c = at(3, put(1, 1, 5, 1)), at(3, add(2, 1, 5, 2)), at(8, put(1, 2, 6, 9))
	return []api.Core{shard(2, 0, 100, 4, a), shard(1, 0, 100, 9, a, b, c)}, a, b, c
}

// same tells whether two are the same; nil lists and empty ones are.
func same(a, b any) bool {
	return fmt.Sprint(a) == fmt.Sprint(b)
}

// orders looks what the order of cores is.
func orders(t *testing.T, l []api.Core, want ...api.Entry) {
	t.Helper()
	if got, e := judge.Order(l); e != api.OK || !same(got, want) {
		t.Errorf("Order: %v, %v, not %v", got, e, want)
	}
}

// refuses looks whether cores have no order.
func refuses(t *testing.T, what any, l []api.Core, want api.Errno) {
	t.Helper()
	if got, e := judge.Order(l); e != want || got != nil {
		t.Errorf("%v: Order: %v, %v, not %v", what, got, e, want)
	}
	if n := judge.Missing(l); n != -1 {
		t.Errorf("%v: %d are missing", what, n)
	}
}

// Promise 15.1: each entry once, by its time, its client and its number.
func TestOrder(t *testing.T) {
	l, a, b, c := sample()
	orders(t, nil)
	orders(t, []api.Core{})
	orders(t, []api.Core{shard(7, 0, 1, 0)})
	orders(t, l, a, b, c)
	orders(t, []api.Core{l[1], l[0], l[1], l[0]}, a, b, c)
	orders(t, l[:1], a)
	x, y, z := failed(3, add(3, 4, 200, -1)), at(3, put(2, 2, 5, 1, 200, 2)), at(2, made(9, 1, api.MutMove, 5, 1, 200, 1))
	d := shard(3, 200, 300, 3, z, y, x)
	e := shard(4, 0, 100, 9, z, a, b, y, c)
	orders(t, []api.Core{d, e}, z, a, b, y, x, c)
	orders(t, []api.Core{e, d, l[0]}, z, a, b, y, x, c)
	f := shard(5, 0, 300, api.MaxTime, at(1, del(1, 10, 0, 300)), at(api.MaxTime, put(api.MaxClient, api.MaxSeq, 7, 7)))
	orders(t, []api.Core{f, d}, f.Log[0], z, y, x, f.Log[1])
}

// Promise 15.1: a core that may not be; cores that do not agree; in this order.
func TestOrderErrors(t *testing.T) {
	for name, change := range map[string]func(e *api.Entry){
		"done": func(e *api.Entry) { e.Done = false }, "time": func(e *api.Entry) { e.Time = 4 }, "value": func(e *api.Entry) { e.M.Pairs = pairs(5, 2) }, "keys": func(e *api.Entry) { e.M.Pairs = pairs(5, 1, 9, 9) },
		"kind": func(e *api.Entry) { e.M.Kind = api.MutAdd }, "del": func(e *api.Entry) { e.M = del(1, 1, 5, 6) }, "old": func(e *api.Entry) { e.M.Kind, e.M.Old = api.MutCas, 7 },
	} {
		l, a, _, _ := sample()
		change(&a)
		for _, other := range []api.Core{shard(3, 0, 100, 9, a), shard(3, 0, 100, 9, at(1, add(7, 7, 7, 7)), a, at(9, put(1, 3, 5, 5)))} {
			refuses(t, name, append([]api.Core{other}, l...), api.ErrForm)
			refuses(t, name, append(l, other), api.ErrForm)
			refuses(t, name, []api.Core{l[0], other, l[0], l[0]}, api.ErrForm)
			wrong := shard(4, 0, 100, 9)
			wrong.ID = 0
			refuses(t, name, append(l, other, wrong), api.ErrArg)
			refuses(t, name, append([]api.Core{wrong, other}, l...), api.ErrArg)
		}
		orders(t, []api.Core{shard(3, 0, 100, 9, a)}, a)
	}
	for name, change := range map[string]func(c *api.Core){
		"none": func(c *api.Core) { *c = api.Core{} }, "clock": func(c *api.Core) { c.Clock = 7 }, "known": func(c *api.Core) { c.Known = c.Known[1:] }, "order": func(c *api.Core) { slices.Reverse(c.Log) },
		"number": func(c *api.Core) { c.ID = -1 }, "keys": func(c *api.Core) { c.Keys.Hi = 5 }, "sealed": func(c *api.Core) { c.Sealed = true }, "base": func(c *api.Core) { c.Base = pairs(100, 1) },
	} {
		l, _, _, _ := sample()
		change(&l[1])
		refuses(t, name, l, api.ErrArg)
		refuses(t, name, l[1:], api.ErrArg)
	}
}

// Promise 15.1: what cores know without an entry does not count.
func TestOrderKnown(t *testing.T) {
	l, a, b, c := sample()
	heir := shard(3, 0, 50, 9)
	heir.Known = []api.Known{{Client: 1, Seq: 1, Time: 7}, {Client: 5, Seq: 5, Time: 2, Done: true}}
	heir.Base = pairs(5, 3)
	orders(t, append(l, heir), a, b, c)
	orders(t, []api.Core{heir})
}

// folds looks what entries make.
func folds(t *testing.T, l []api.Entry, on []api.Span, mark int, want ...int) {
	t.Helper()
	if got := judge.Fold(l, on, mark); !slices.Equal(got, pairs(want...)) {
		t.Errorf("Fold of %v on %v up to %d: %v, not %v", l, on, mark, got, pairs(want...))
	}
}

// Promise 15.2: Fold, up to a mark, on a set, of what is done.
func TestFold(t *testing.T) {
	_, a, b, c := sample()
	l := []api.Entry{a, b, c}
	folds(t, l, spans(0, 6), 9, 5, 3)
	folds(t, l, spans(0, 100), 9, 5, 3, 6, 9)
	folds(t, l, spans(0, 100), 8, 5, 3, 6, 9)
	folds(t, l, spans(0, 100), 7, 5, 3)
	folds(t, l, spans(0, 100), 3, 5, 3)
	folds(t, l, spans(0, 100), 2)
	folds(t, l, spans(6, 7), 9, 6, 9)
	folds(t, l, spans(0, 4096), math.MaxInt, 5, 3, 6, 9)
	folds(t, l, spans(0, 4096), math.MinInt)
	folds(t, l, nil, 9)
	folds(t, nil, spans(0, 6), 9)
	folds(t, []api.Entry{a, at(4, add(2, 1, 5, 2))}, spans(0, 6), 3, 5, 1)
	folds(t, []api.Entry{a, at(4, add(2, 1, 5, 2))}, spans(0, 6), 9, 5, 3)
}

// Promise 15.2: what failed does not count, nor what fails; the order is that of the list, whatever the times are.
func TestFoldOrder(t *testing.T) {
	all := spans(0, 4096)
	folds(t, []api.Entry{failed(1, put(1, 1, 5, 1)), at(2, add(1, 2, 5, -1)), at(3, add(1, 3, 6, 2)), failed(4, add(1, 4, 6, 2))}, all, 9, 6, 2)
	folds(t, []api.Entry{at(7, put(1, 1, 5, 1)), at(3, put(1, 2, 5, 2)), at(-4, put(1, 2, 6, 3))}, all, 9, 5, 2, 6, 3)
	folds(t, []api.Entry{at(7, put(1, 1, 5, 1)), at(3, put(1, 2, 5, 2)), at(8, put(1, 2, 5, 3))}, all, 3, 5, 2)
	folds(t, []api.Entry{at(-7, put(1, 1, 5, 1)), at(-6, put(1, 2, 5, 2))}, all, -7, 5, 1)
	move := made(1, 3, api.MutMove, 5, 4, 3000, 4)
	folds(t, []api.Entry{at(1, put(1, 1, 5, 9, 6, 8)), at(2, move), at(3, del(1, 4, 6, 4096))}, all, 9, 5, 5)
	folds(t, []api.Entry{at(1, put(1, 1, 5, 9, 6, 8)), at(2, move), at(3, del(1, 4, 6, 4096))}, spans(0, 5, 6, 7, 3000, 4096), 2, 6, 8, 3000, 4)
}

// notSets are lists of spans that are no sets.
func notSets() [][]api.Span {
	return [][]api.Span{spans(0, 0), spans(-1, 5), spans(0, 4097), spans(1, 3, 3, 5), spans(5, 6, 1, 2), spans(math.MinInt, math.MaxInt)}
}

// wrong are mutations that may not be.
func wrong() []api.Mut {
	return []api.Mut{{}, put(0, 1, 5, 1), put(1, 0, 5, 1), put(1, 1), put(1, 1, 6, 1, 5, 1), put(1, 1, 4096, 1), put(1, 1, 5, api.Absent), del(1, 1, 5, 5), made(1, 1, api.MutMove, 5, 1, 5, 1), made(1, 1, 6, 5, 1), {Client: 1, Seq: 1, Kind: 1, Pairs: pairs(5, 1), Old: 1}}
}

// Promise 15.2: Fold and Onto on what is no set, of a mutation that may not be, and onto what is no table.
func TestWrong(t *testing.T) {
	_, a, b, c := sample()
	for _, on := range notSets() {
		folds(t, []api.Entry{a, b, c}, on, 9)
		onto(t, pairs(1, 1), []api.Mut{a.M, b.M}, on)
		onto(t, pairs(1, 1), nil, on)
	}
	for _, m := range wrong() {
		for _, l := range [][]api.Entry{{at(3, m), a}, {a, b, at(4, m)}, {a, failed(4, m), c}, {a, b, c, at(99, m)}} {
			folds(t, l, spans(0, 100), 9)
		}
		onto(t, pairs(1, 1), []api.Mut{a.M, m}, spans(0, 100))
		onto(t, pairs(1, 1), []api.Mut{m, a.M}, spans(0, 100))
		onto(t, pairs(1, 1), []api.Mut{m}, nil)
	}
	for _, base := range [][]api.Pair{pairs(2, 1, 1, 1), pairs(1, 1, 1, 1), pairs(-1, 1), pairs(4096, 1), pairs(1, api.Absent)} {
		onto(t, base, []api.Mut{a.M}, spans(0, 100))
		onto(t, base, nil, nil)
	}
}

// onto looks what mutations make of a table.
func onto(t *testing.T, base []api.Pair, l []api.Mut, on []api.Span, want ...int) {
	t.Helper()
	if got := judge.Onto(base, l, on); !slices.Equal(got, pairs(want...)) {
		t.Errorf("%v onto %v on %v: %v, not %v", l, base, on, got, pairs(want...))
	}
}

// Promise 15.2: Onto, one after the other; what fails changes nothing, nor does what is not in the set.
func TestOnto(t *testing.T) {
	on := spans(0, 6)
	onto(t, nil, []api.Mut{add(3, 1, 5, -1), put(3, 2, 5, 4)}, on, 5, 4)
	onto(t, pairs(5, 3), []api.Mut{add(3, 1, 5, 4)}, on, 5, 7)
	onto(t, pairs(5, 3), []api.Mut{put(3, 2, 5, 4), add(3, 1, 5, 3)}, on, 5, 7)
	onto(t, pairs(5, 3), []api.Mut{add(3, 1, 5, 3), put(3, 2, 5, 4)}, on, 5, 4)
	onto(t, pairs(5, 3), []api.Mut{add(3, 1, 5, 3), add(3, 1, 5, 3)}, on, 5, 9)
	onto(t, pairs(4, 4, 9, 9), []api.Mut{put(1, 1, 5, 5, 9, 1), del(1, 2, 0, 5)}, on, 5, 5, 9, 9)
	onto(t, pairs(4, 4, 9, 9), nil, on, 4, 4, 9, 9)
	onto(t, pairs(4, 4, 9, 9), []api.Mut{put(1, 1, 5, 5)}, nil, 4, 4, 9, 9)
	onto(t, nil, nil, on)
	cas := made(1, 1, api.MutCas, 4, 5)
	cas.Old = 4
	onto(t, pairs(4, 4), []api.Mut{cas, cas}, on, 4, 5)
}

// Promise 15.3: Clients.
func TestClients(t *testing.T) {
	l := func(l ...int) (out []api.Entry) {
		for _, p := range pairs(l...) {
			out = append(out, failed(0, api.Mut{Client: p.Key, Seq: p.Val}))
		}
		return out
	}
	for _, yes := range [][]api.Entry{
		nil, {}, l(1, 2), l(1, 1, 1, 2), l(1, 1, 2, 1, 1, 2), l(1, 1, 1, 9), l(2, 5, 1, 1, 2, 6, 1, 3), l(0, 0), l(-1, -5, -1, -4, 0, 0), l(1, math.MinInt, 1, math.MaxInt, 2, 0),
	} {
		if !judge.Clients(yes) {
			t.Errorf("Clients of %v", yes)
		}
	}
	for _, no := range [][]api.Entry{
		l(1, 2, 1, 1), l(1, 1, 1, 1), l(1, 1, 2, 1, 2, 1), l(1, 5, 2, 9, 1, 4), l(1, 1, 1, 3, 1, 2), l(1, 1, 1, 3, 2, 7, 1, 2, 1, 4), l(0, 0, 0, 0), l(-1, -4, -1, -5), l(1, math.MaxInt, 1, math.MinInt), l(3, 0, 3, -1),
	} {
		if judge.Clients(no) {
			t.Errorf("Clients of %v", no)
		}
	}
}

// misses looks how many entries cores miss.
func misses(t *testing.T, what any, l []api.Core, want int) {
	t.Helper()
	if n := judge.Missing(l); n != want {
		t.Errorf("%v: %d are missing, not %d", what, n, want)
	}
}

// Promise 15.3: Missing: of cores that are not sealed, up to their floors, of their keys, what they do not know.
func TestMissing(t *testing.T) {
	l, a, b, c := sample()
	misses(t, "none", nil, 0)
	misses(t, "the example", l, 1)
	misses(t, "one core", l[1:], 0)
	for _, p := range pairs(3, 1, 7, 1, 8, 2, 99, 2) {
		l[0].Clock = p.Key
		misses(t, p, l, p.Val)
	}
	misses(t, "twice the same", append(l, l[0]), 4)
	l[0].Held = []api.Wait{{M: put(4, 4, 9, 9), Time: 8}}
	misses(t, "a floor of 7", l, 1)
	l[0].Held = []api.Wait{{M: put(4, 4, 9, 9), Time: 9}, {M: put(4, 5, 9, 9), Time: 4}}
	misses(t, "a floor of 3", l, 1)
	l[0].Held = nil
	l[0].Frozen = true
	misses(t, "frozen", l, 2)
	l[0].Sealed = true
	misses(t, "sealed", l, 0)
	l = []api.Core{shard(1, 0, 100, 9, a, b, c), shard(2, 0, 6, 9, a), shard(3, 6, 7, 9), shard(4, 7, 4096, 9)}
	misses(t, "by keys", l, 2)
	l[1].Known = append(l[1].Known, api.Known{Client: 2, Seq: 1, Time: 99})
	misses(t, "known otherwise", l, 1)
	l[2].Known = []api.Known{{Client: 1, Seq: 1, Time: 3}, {Client: 1, Seq: 3, Time: 3}, {Client: 2, Seq: 2, Time: 3}}
	misses(t, "others are known", l, 1)
	l[2].Held = []api.Wait{{M: c.M, Time: 9, Final: true}}
	misses(t, "held", l, 1)
	move := failed(5, made(3, 1, api.MutMove, 9, 1, 4095, 1))
	misses(t, "of one that failed", append(l, shard(5, 4000, 4096, 7, move)), 3)
}
