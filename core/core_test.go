package core_test

import (
	"fmt"
	"math"
	"reflect"
	"slices"
	"testing"

	"splice/api"
	"splice/chart"
	"splice/core"
)

func put(client, seq int, pairs ...api.Pair) api.Mut {
	return api.Mut{Client: client, Seq: seq, Kind: api.MutPut, Pairs: pairs}
}

func del(client, seq, lo, hi int) api.Mut {
	return api.Mut{Client: client, Seq: seq, Kind: api.MutDel, Over: api.Span{Lo: lo, Hi: hi}}
}

func add(client, seq, key, val int) api.Mut {
	return api.Mut{Client: client, Seq: seq, Kind: api.MutAdd, Pairs: []api.Pair{{Key: key, Val: val}}}
}

func cas(client, seq, key, old, val int) api.Mut {
	return api.Mut{Client: client, Seq: seq, Kind: api.MutCas, Pairs: []api.Pair{{Key: key, Val: val}}, Old: old}
}

func move(client, seq, from, to, val int) api.Mut {
	return api.Mut{Client: client, Seq: seq, Kind: api.MutMove, Pairs: []api.Pair{{Key: from, Val: val}, {Key: to, Val: val}}}
}

// charted is the first chart for so many shards, on one node.
func charted(shards int) api.Chart {
	x, _ := chart.First(1, shards)
	return x
}

// begun is a shard's core that nothing has come to.
func begun(s api.Shard) api.Core {
	return api.Core{ID: s.ID, Keys: s.Keys}
}

// two is the chart of two shards, and their cores: the first one has the keys below 2048.
func two() (x api.Chart, a, b api.Core) {
	x = charted(2)
	return x, begun(x.L[0]), begun(x.L[1])
}

// same tells whether two things are told alike: lists that are nil and empty ones are.
func same(a, b any) bool {
	return fmt.Sprint(a) == fmt.Sprint(b)
}

// full is a core that has some of everything: it knows (1, 1) to (1, 3) and (9, 9), and holds (1, 4) and (2, 1) back, of which (2, 1) is the first.
func full() api.Core {
	return api.Core{
		ID: 3, Keys: api.Span{Lo: 100, Hi: 200}, Clock: 50,
		Held: []api.Wait{
			{M: move(1, 4, 150, 2000, 1), Time: 45, Peers: []api.Peer{{Shard: 7, Time: 3}}},
			{M: add(2, 1, 160, 4), Time: 41},
		},
		Base: []api.Pair{{Key: 100, Val: 5}, {Key: 199, Val: -7}},
		Log: []api.Entry{
			{M: add(1, 1, 100, 2), Time: 10, Done: true},
			{M: cas(1, 2, 199, 9, 1), Time: 20},
			{M: del(1, 3, 0, 150), Time: 41, Done: true},
		},
		Known: []api.Known{
			{Client: 1, Seq: 1, Time: 10, Done: true},
			{Client: 1, Seq: 2, Time: 20},
			{Client: 1, Seq: 3, Time: 41, Done: true},
			{Client: 9, Seq: 9, Time: 77, Done: true},
		},
	}
}

// with is full, changed.
func with(change func(c *api.Core)) api.Core {
	c := full()
	change(&c)
	return c
}

// crowd is a core of all keys with so many that are held and so many that are known, at the clock of 5000.
func crowd(held, known int) api.Core {
	c := api.Core{ID: 1, Keys: api.Span{Hi: api.MaxKey}, Clock: 5000}
	for i := range held {
		c.Held = append(c.Held, api.Wait{M: put(2, i+1, api.Pair{Key: i}), Time: 2000 + i})
	}
	for i := range known {
		c.Known = append(c.Known, api.Known{Client: 1, Seq: i + 1, Time: i})
	}
	return c
}

// sealed is a core that does nothing more.
func sealed() api.Core {
	return with(func(c *api.Core) { c.Held, c.Frozen, c.Sealed = nil, true, true })
}

// Promise 12.1: cores that may be.
func TestCheckYes(t *testing.T) {
	for name, c := range map[string]api.Core{
		"a first one":             {ID: 1, Keys: api.Span{Hi: 1}},
		"one of some":             full(),
		"the greatest numbers":    with(func(c *api.Core) { c.ID, c.Clock = api.MaxShard, api.MaxTime }),
		"frozen":                  with(func(c *api.Core) { c.Frozen = true }),
		"sealed":                  sealed(),
		"base at the edges":       with(func(c *api.Core) { c.Keys = api.Span{Lo: 100, Hi: 200}; c.Base = []api.Pair{{Key: 100}, {Key: 199}} }),
		"a held one at 1":         {ID: 1, Keys: api.Span{Hi: 9}, Clock: 1, Held: []api.Wait{{M: del(1, 1, 0, 9), Time: 1}}},
		"a held one at the clock": with(func(c *api.Core) { c.Held[0].Time = 50 }),
		"the first one is final":  with(func(c *api.Core) { c.Held[1].Final = true }),
		"two of a client's held":  with(func(c *api.Core) { c.Held[1].M = add(1, 5, 160, 4) }),
		"one number of two held":  with(func(c *api.Core) { c.Held[1].M = add(2, 4, 160, 4) }),
		"a log at 0":              {ID: 1, Keys: api.Span{Hi: 9}, Log: []api.Entry{{M: del(1, 1, 0, 9)}}, Known: []api.Known{{Client: 1, Seq: 1}}},
		"a log at the clock":      with(func(c *api.Core) { c.Held, c.Clock = nil, 41 }),
		"done, though it fails":   with(func(c *api.Core) { c.Log[1].Done, c.Known[1].Done = true, true }),
		"known behind the clock":  with(func(c *api.Core) { c.Known[3].Time = api.MaxTime }),
		"the greatest that is known": with(func(c *api.Core) {
			c.Known[3] = api.Known{Client: api.MaxClient, Seq: api.MaxSeq, Time: api.MaxTime}
		}),
		"known of equal numbers": with(func(c *api.Core) {
			c.Known = append(c.Known, api.Known{Client: 10, Seq: 9})
		}),
		"a thousand held":  crowd(1000, 0),
		"a thousand known": crowd(0, 1000),
		"a thousand":       crowd(400, 600),
	} {
		if !core.Check(c) {
			t.Errorf("%s: Check is false", name)
		}
	}
}

// none are cores that may not be.
func none() map[string]api.Core {
	return map[string]api.Core{
		"the zero core":      {},
		"number 0":           with(func(c *api.Core) { c.ID = 0 }),
		"a number too great": with(func(c *api.Core) { c.ID = api.MaxShard + 1 }),
		"no keys":            {ID: 1},
		"keys too great":     {ID: 1, Keys: api.Span{Lo: 5, Hi: api.MaxKey + 1}},
		"a clock below 0":    {ID: 1, Keys: api.Span{Hi: 9}, Clock: -1},
		"a clock too great":  with(func(c *api.Core) { c.Clock = api.MaxTime + 1 }),
		"base falls":         with(func(c *api.Core) { c.Base = []api.Pair{{Key: 120}, {Key: 110}} }),
		"base below":         with(func(c *api.Core) { c.Base = []api.Pair{{Key: 99}, {Key: 110}} }),
		"base behind":        with(func(c *api.Core) { c.Base = []api.Pair{{Key: 110}, {Key: 200}} }),
		"a value too great":  with(func(c *api.Core) { c.Base = []api.Pair{{Key: 110, Val: api.MaxVal + 1}} }),
		"more held":          crowd(1001, 0),
		"more known":         crowd(0, 1001),
		"more":               crowd(401, 600),
		"no mutation held":   with(func(c *api.Core) { c.Held[1].M = api.Mut{} }),
		"a wrong one held":   with(func(c *api.Core) { c.Held[1].M.Old = 1 }),
		"one of other keys":  with(func(c *api.Core) { c.Held[1].M = del(2, 1, 200, 300) }),
		"held twice":         with(func(c *api.Core) { c.Held[1].M = put(1, 4, api.Pair{Key: 101}) }),
		"held at 0":          {ID: 1, Keys: api.Span{Hi: 9}, Clock: 9, Held: []api.Wait{{M: del(1, 1, 0, 9)}}},
		"held behind":        with(func(c *api.Core) { c.Held[1].Time = 51 }),
		"held below 0":       {ID: 1, Keys: api.Span{Hi: 9}, Clock: 9, Held: []api.Wait{{M: del(1, 1, 0, 9), Time: -1}}},
		"held and known":     with(func(c *api.Core) { c.Held[1].M = add(9, 9, 160, 4) }),
		"known of client 0":  with(func(c *api.Core) { c.Known = slices.Insert(c.Known, 0, api.Known{Seq: 1}) }),
		"known of number 0":  with(func(c *api.Core) { c.Known = slices.Insert(c.Known, 0, api.Known{Client: 1}) }),
		"known below 0":      with(func(c *api.Core) { c.Known[3].Time = -1 }),
		"known too late":     with(func(c *api.Core) { c.Known[3].Time = api.MaxTime + 1 }),
		"a client too great": with(func(c *api.Core) { c.Known[3].Client = api.MaxClient + 1 }),
		"its seq too great":  with(func(c *api.Core) { c.Known[3].Seq = api.MaxSeq + 1 }),
		"known falls":        with(func(c *api.Core) { c.Known[0], c.Known[1] = c.Known[1], c.Known[0] }),
		"clients fall":       with(func(c *api.Core) { c.Known[3] = api.Known{Client: 1, Seq: 1} }),
		"known twice":        with(func(c *api.Core) { c.Known = append(c.Known, c.Known[3]) }),
		"no mutation logged": with(func(c *api.Core) { c.Log[0].M = api.Mut{} }),
		"a wrong one logged": with(func(c *api.Core) { c.Log[0].M.Kind = 6 }),
		"a log of others":    with(func(c *api.Core) { c.Log[0].M = del(1, 1, 1, 100) }),
		"a log not known":    with(func(c *api.Core) { c.Known = c.Known[1:] }),
		"another time":       with(func(c *api.Core) { c.Log[0].Time = 11 }),
		"done differs":       with(func(c *api.Core) { c.Known[0].Done = false }),
		"done differs, too":  with(func(c *api.Core) { c.Log[1].Done = true }),
		"a log falls":        with(func(c *api.Core) { c.Log[0], c.Log[1] = c.Log[1], c.Log[0] }),
		"a log twice":        with(func(c *api.Core) { c.Log[1] = c.Log[0] }),
		"a log behind":       with(func(c *api.Core) { c.Held, c.Clock = nil, 40 }),
		"held below a log":   with(func(c *api.Core) { c.Held[1].Time = 40 }),
		"held below, too": with(func(c *api.Core) {
			c.Held[1].M, c.Held[1].Time = add(1, 2, 160, 1), 41
			c.Known = slices.Delete(c.Known, 1, 2)
			c.Log = slices.Delete(c.Log, 1, 2)
		}),
		"sealed, not frozen": with(func(c *api.Core) { c.Held, c.Sealed = nil, true }),
		"sealed, one held":   with(func(c *api.Core) { c.Frozen, c.Sealed = true, true }),
	}
}

// Promise 12.1: cores that may not be; they have no table, the floor 0, and nothing is made of them.
func TestCheckNo(t *testing.T) {
	x := charted(3)
	for name, c := range none() {
		if core.Check(c) {
			t.Errorf("%s: Check is true", name)
		}
		if l, n := core.Table(c), core.Floor(c); len(l) != 0 || n != 0 {
			t.Errorf("%s: Table %v, Floor %d", name, l, n)
		}
		if d, e := core.Redo(c, api.Rec{Kind: api.RecClock, Shard: c.ID, Time: 60}); e != api.ErrArg || !same(d, api.Core{}) {
			t.Errorf("%s: Redo %v, %v", name, d, e)
		}
		if o := core.Step(c, x, api.In{Kind: api.InClock, Time: 60}); !same(o, api.Out{C: c, E: api.ErrArg}) {
			t.Errorf("%s: Step %v", name, o)
		}
		if l, e := core.Heirs([]api.Core{c}, []api.Shard{{ID: 5, Keys: c.Keys}}); e != api.ErrArg || len(l) != 0 {
			t.Errorf("%s: Heirs %v, %v", name, l, e)
		}
	}
}

// Promise 12.1: the table is that of the entries that are done, onto the base, on the core's keys.
func TestTable(t *testing.T) {
	if l := core.Table(full()); !same(l, []api.Pair{{Key: 199, Val: -7}}) {
		t.Errorf("the base without 100 to 149: %v", l)
	}
	c := with(func(c *api.Core) { c.Log = c.Log[:2] })
	if l := core.Table(c); !same(l, []api.Pair{{Key: 100, Val: 7}, {Key: 199, Val: -7}}) {
		t.Errorf("an add that is done, a cas that is not: %v", l)
	}
	c.Base[1].Val = 9 // the cas would not fail now, but is not done
	if l := core.Table(c); !same(l, []api.Pair{{Key: 100, Val: 7}, {Key: 199, Val: 9}}) {
		t.Errorf("a cas that is not done: %v", l)
	}
	c = begun(api.Shard{ID: 1, Keys: api.Span{Lo: 4, Hi: 9}})
	c.Clock = 7
	c.Log = []api.Entry{{M: put(1, 1, api.Pair{Key: 3, Val: 1}, api.Pair{Key: 4, Val: 2}, api.Pair{Key: 9, Val: 3}), Time: 6, Done: true}, {M: move(1, 2, 4, 20, 5), Time: 7, Done: true}}
	c.Known = []api.Known{{Client: 1, Seq: 1, Time: 6, Done: true}, {Client: 1, Seq: 2, Time: 7, Done: true}}
	if l := core.Table(c); !same(l, []api.Pair{{Key: 4, Val: -3}}) {
		t.Errorf("keys of its own alone: %v", l)
	}
}

// Promise 12.1: the floor is the clock, or one below the first that is held.
func TestFloor(t *testing.T) {
	if n := core.Floor(with(func(c *api.Core) { c.Held = nil })); n != 50 {
		t.Errorf("nothing held: %d", n)
	}
	if n := core.Floor(full()); n != 40 {
		t.Errorf("held at 45 and 41: %d", n)
	}
	c := begun(charted(1).L[0])
	c.Clock = 11
	c.Held = []api.Wait{{M: del(1, 1, 0, 1), Time: 10, Final: true}, {M: del(1, 2, 0, 1), Time: 11}}
	if n := core.Floor(c); n != 9 {
		t.Errorf("held at 10 and 11: %d", n)
	}
}

// redo is what a record makes of a core, which must be let.
func redo(t *testing.T, c api.Core, r api.Rec) api.Core {
	t.Helper()
	d, e := core.Redo(c, r)
	if e != api.OK || !core.Check(d) {
		t.Fatalf("Redo of %v: %v, %v", r, d, e)
	}
	return d
}

// Promise 12.1: what records of each kind make of a core.
func TestRedo(t *testing.T) {
	c := full()
	m := put(5, 1, api.Pair{Key: 120, Val: 1}, api.Pair{Key: 4000, Val: 2})
	d := redo(t, c, api.Rec{Kind: api.RecWait, Shard: 3, Time: 60, M: m})
	if want := with(func(c *api.Core) { c.Held, c.Clock = append(c.Held, api.Wait{M: m, Time: 60}), 60 }); !same(d, want) {
		t.Errorf("RecWait: %v, not %v", d, want)
	}
	d = redo(t, with(func(c *api.Core) { c.Frozen = true }), api.Rec{Kind: api.RecWait, Shard: 3, Time: api.MaxTime, M: m})
	if len(d.Held) != 3 || d.Clock != api.MaxTime || !d.Frozen {
		t.Errorf("RecWait of a frozen one: %v", d)
	}
	d = redo(t, c, api.Rec{Kind: api.RecFinal, Shard: 3, Client: 1, Seq: 4, Time: 70})
	if want := with(func(c *api.Core) { c.Held[0].Time, c.Held[0].Final, c.Clock = 70, true, 70 }); !same(d, want) {
		t.Errorf("RecFinal of the second one: %v, not %v", d, want)
	}
	d = redo(t, d, api.Rec{Kind: api.RecFinal, Shard: 3, Client: 2, Seq: 1, Time: 41})
	want := with(func(c *api.Core) {
		c.Clock, c.Held = 70, nil
		c.Log = append(c.Log, api.Entry{M: add(2, 1, 160, 4), Time: 41, Done: true}, api.Entry{M: move(1, 4, 150, 2000, 1), Time: 70, Done: true})
		c.Known = []api.Known{c.Known[0], c.Known[1], c.Known[2], {Client: 1, Seq: 4, Time: 70, Done: true}, {Client: 2, Seq: 1, Time: 41, Done: true}, c.Known[3]}
	})
	if !same(d, want) {
		t.Errorf("RecFinal of both: %v, not %v", d, want)
	}
	for _, x := range []struct{ time, clock int }{{0, 50}, {50, 50}, {51, 51}, {api.MaxTime, api.MaxTime}} {
		d := redo(t, c, api.Rec{Kind: api.RecClock, Shard: 3, Time: x.time})
		if want := with(func(c *api.Core) { c.Clock = x.clock }); !same(d, want) {
			t.Errorf("RecClock %d: %v, not %v", x.time, d, want)
		}
	}
	d = redo(t, c, api.Rec{Kind: api.RecFreeze, Shard: 3})
	if want := with(func(c *api.Core) { c.Frozen = true }); !same(d, want) || !same(redo(t, d, api.Rec{Kind: api.RecFreeze, Shard: 3}), want) {
		t.Errorf("RecFreeze: %v, not %v", d, want)
	}
	d = redo(t, with(func(c *api.Core) { c.Held, c.Frozen = nil, true }), api.Rec{Kind: api.RecSeal, Shard: 3, Seq: 4})
	if !same(d, sealed()) {
		t.Errorf("RecSeal: %v, not %v", d, sealed())
	}
}

// Promise 12.1: whether a mutation that is committed is done hangs on the table, and they are committed in the order of stamps.
func TestCommit(t *testing.T) {
	c := begun(charted(1).L[0])
	c.Clock, c.Base = 9, []api.Pair{{Key: 5, Val: 7}}
	held := []api.Mut{add(2, 1, 5, -3), del(1, 1, 5, 6), add(1, 3, 5, -8), cas(1, 2, 5, 4, 6), put(3, 1, api.Pair{Key: 5, Val: -1})}
	for i, time := range []int{1, 5, 2, 2, 7} {
		c.Held = append(c.Held, api.Wait{M: held[i], Time: time, Final: i != 0 && i != 4})
	}
	d := redo(t, c, api.Rec{Kind: api.RecFinal, Shard: 1, Client: 2, Seq: 1, Time: 1})
	want := []api.Entry{{M: held[0], Time: 1, Done: true}, {M: held[3], Time: 2, Done: true}, {M: held[2], Time: 2}, {M: held[1], Time: 5, Done: true}}
	if !same(d.Log, want) || !same(d.Held, c.Held[4:]) || len(core.Table(d)) != 0 {
		t.Errorf("%v", d)
	}
	d = redo(t, c, api.Rec{Kind: api.RecFinal, Shard: 1, Client: 2, Seq: 1, Time: 6}) // behind the cas, which fails now, and the del
	want = []api.Entry{{M: held[3], Time: 2}, {M: held[2], Time: 2}, {M: held[1], Time: 5, Done: true}, {M: held[0], Time: 6}}
	if !same(d.Log, want) || d.Clock != 9 {
		t.Errorf("at 6: %v", d)
	}
	for _, k := range []api.Known{{Client: 1, Seq: 2, Time: 2}, {Client: 1, Seq: 1, Time: 5, Done: true}} {
		if !slices.Contains(d.Known, k) {
			t.Errorf("%v is not known: %v", k, d.Known)
		}
	}
}

// Promise 12.1: what Redo refuses, and by which error if there are several.
func TestRedoErrors(t *testing.T) {
	fit := del(5, 1, 150, 160)
	for _, x := range []struct {
		name string
		c    api.Core
		r    api.Rec
		e    api.Errno
	}{
		{"another shard", full(), api.Rec{Kind: api.RecClock, Shard: 4, Time: 60}, api.ErrArg},
		{"kind 0", full(), api.Rec{Shard: 3}, api.ErrArg},
		{"a kind below 0", full(), api.Rec{Kind: math.MinInt, Shard: 3}, api.ErrArg},
		{"a shard's record", full(), api.Rec{Kind: api.RecShard, Shard: 3}, api.ErrArg},
		{"another shard, sealed", sealed(), api.Rec{Kind: api.RecClock, Shard: 4}, api.ErrArg},
		{"a kind too great, sealed", sealed(), api.Rec{Kind: api.RecChart, Shard: 3}, api.ErrArg},
		{"sealed: wait", sealed(), api.Rec{Kind: api.RecWait, Shard: 3}, api.ErrGone},
		{"sealed: final", sealed(), api.Rec{Kind: api.RecFinal, Shard: 3}, api.ErrGone},
		{"sealed: clock", sealed(), api.Rec{Kind: api.RecClock, Shard: 3, Time: -1}, api.ErrGone},
		{"sealed: freeze", sealed(), api.Rec{Kind: api.RecFreeze, Shard: 3}, api.ErrGone},
		{"sealed: seal", sealed(), api.Rec{Kind: api.RecSeal, Shard: 3}, api.ErrGone},
		{"no mutation", full(), api.Rec{Kind: api.RecWait, Shard: 3, Time: 60}, api.ErrArg},
		{"keys elsewhere", full(), api.Rec{Kind: api.RecWait, Shard: 3, Time: 60, M: del(5, 1, 200, 201)}, api.ErrArg},
		{"not behind the clock", full(), api.Rec{Kind: api.RecWait, Shard: 3, Time: 50, M: fit}, api.ErrArg},
		{"too late", full(), api.Rec{Kind: api.RecWait, Shard: 3, Time: api.MaxTime + 1, M: fit}, api.ErrArg},
		{"held, not behind", full(), api.Rec{Kind: api.RecWait, Shard: 3, Time: 45, M: full().Held[0].M}, api.ErrArg},
		{"held", full(), api.Rec{Kind: api.RecWait, Shard: 3, Time: 60, M: full().Held[0].M}, api.ErrThere},
		{"its number is held", full(), api.Rec{Kind: api.RecWait, Shard: 3, Time: 60, M: del(2, 1, 150, 160)}, api.ErrThere},
		{"known", full(), api.Rec{Kind: api.RecWait, Shard: 3, Time: 60, M: del(9, 9, 150, 160)}, api.ErrThere},
		{"known, and full", crowd(400, 600), api.Rec{Kind: api.RecWait, Shard: 1, Time: 6000, M: del(1, 600, 150, 160)}, api.ErrThere},
		{"held, and full", crowd(400, 600), api.Rec{Kind: api.RecWait, Shard: 1, Time: 6000, M: del(2, 400, 150, 160)}, api.ErrThere},
		{"full", crowd(400, 600), api.Rec{Kind: api.RecWait, Shard: 1, Time: 6000, M: fit}, api.ErrFull},
		{"full of held", crowd(1000, 0), api.Rec{Kind: api.RecWait, Shard: 1, Time: 6000, M: fit}, api.ErrFull},
		{"full, and wrong", crowd(0, 1000), api.Rec{Kind: api.RecWait, Shard: 1, Time: 6000}, api.ErrArg},
		{"not held", full(), api.Rec{Kind: api.RecFinal, Shard: 3, Client: 1, Seq: 5, Time: 60}, api.ErrNone},
		{"known, not held", full(), api.Rec{Kind: api.RecFinal, Shard: 3, Client: 1, Seq: 3, Time: 41}, api.ErrNone},
		{"not held, too late", full(), api.Rec{Kind: api.RecFinal, Shard: 3, Client: 5, Seq: 4, Time: api.MaxTime + 1}, api.ErrNone},
		{"final", with(func(c *api.Core) { c.Held[0].Final = true }), api.Rec{Kind: api.RecFinal, Shard: 3, Client: 1, Seq: 4, Time: 60}, api.ErrThere},
		{"final, too early", with(func(c *api.Core) { c.Held[0].Final = true }), api.Rec{Kind: api.RecFinal, Shard: 3, Client: 1, Seq: 4, Time: 1}, api.ErrThere},
		{"too early", full(), api.Rec{Kind: api.RecFinal, Shard: 3, Client: 1, Seq: 4, Time: 44}, api.ErrArg},
		{"final too late", full(), api.Rec{Kind: api.RecFinal, Shard: 3, Client: 1, Seq: 4, Time: api.MaxTime + 1}, api.ErrArg},
		{"a clock too great", full(), api.Rec{Kind: api.RecClock, Shard: 3, Time: api.MaxTime + 1}, api.ErrArg},
		{"a clock below 0", full(), api.Rec{Kind: api.RecClock, Shard: 3, Time: -1}, api.ErrArg},
		{"seal: held", with(func(c *api.Core) { c.Frozen = true }), api.Rec{Kind: api.RecSeal, Shard: 3}, api.ErrBusy},
		{"seal: held, not frozen", full(), api.Rec{Kind: api.RecSeal, Shard: 3}, api.ErrBusy},
		{"seal: not frozen", with(func(c *api.Core) { c.Held = nil }), api.Rec{Kind: api.RecSeal, Shard: 3}, api.ErrArg},
	} {
		if d, e := core.Redo(x.c, x.r); e != x.e || !same(d, api.Core{}) {
			t.Errorf("%s: %v, %v, not %v", x.name, d, e, x.e)
		}
	}
}

// prop is a note that proposes.
func prop(from, to int, m api.Mut, time int, ask bool) api.Note {
	return api.Note{Kind: api.NoteProp, From: from, To: to, M: m, Time: time, Ask: ask}
}

// ack is a note that acknowledges.
func ack(from int, m api.Mut, time int, done bool) api.Note {
	return api.Note{Kind: api.NoteAck, From: from, Client: m.Client, Seq: m.Seq, Time: time, Done: done}
}

// announced is a note of a final time.
func announced(from, to int, m api.Mut, time int) api.Note {
	return api.Note{Kind: api.NoteFinal, From: from, To: to, Client: m.Client, Seq: m.Seq, Time: time}
}

// held is a record that one is held back.
func held(shard, time int, m api.Mut) api.Rec {
	return api.Rec{Kind: api.RecWait, Shard: shard, Time: time, M: m}
}

// final is a record of a final time.
func final(shard, time int, m api.Mut) api.Rec {
	return api.Rec{Kind: api.RecFinal, Shard: shard, Client: m.Client, Seq: m.Seq, Time: time}
}

// steps tells what is wrong with what comes of a step, and hands on the core.
func steps(t *testing.T, name string, c api.Core, x api.Chart, in api.In, recs []api.Rec, notes []api.Note) api.Core {
	t.Helper()
	o := core.Step(c, x, in)
	if o.E != api.OK || !same(o.Recs, recs) || !same(o.Notes, notes) || !core.Check(o.C) {
		t.Errorf("%s: %v,\nnot %v, %v", name, o, recs, notes)
	}
	return o.C
}

// refuses tells what is wrong with a step that ought to be refused.
func refuses(t *testing.T, name string, c api.Core, x api.Chart, in api.In, e api.Errno) {
	t.Helper()
	if o := core.Step(c, x, in); !same(o, api.Out{C: c, E: e}) {
		t.Errorf("%s: %v, not %v", name, o, e)
	}
}

// Promise 12.2: a push of one shard's keys is held, committed and acknowledged at once; one that is known is acknowledged again.
func TestPushOne(t *testing.T) {
	x, a, _ := two()
	m := put(1, 1, api.Pair{Key: 5, Val: 7})
	c := steps(t, "a put", a, x, api.In{Kind: api.InPush, M: m, Time: 4}, []api.Rec{held(1, 5, m), final(1, 5, m)}, []api.Note{ack(1, m, 5, true)})
	if want := (api.Core{ID: 1, Keys: a.Keys, Clock: 5, Log: []api.Entry{{M: m, Time: 5, Done: true}}, Known: []api.Known{{Client: 1, Seq: 1, Time: 5, Done: true}}}); !same(c, want) {
		t.Errorf("%v, not %v", c, want)
	}
	n := add(1, 2, 5, -8)
	c = steps(t, "an add that fails", c, x, api.In{Kind: api.InPush, M: n}, []api.Rec{held(1, 6, n), final(1, 6, n)}, []api.Note{ack(1, n, 6, false)})
	c = steps(t, "at the clock", c, x, api.In{Kind: api.InPush, M: add(1, 3, 5, 1), Time: 6}, []api.Rec{held(1, 7, add(1, 3, 5, 1)), final(1, 7, add(1, 3, 5, 1))}, []api.Note{ack(1, add(1, 3, 5, 1), 7, true)})
	for i, c := range []api.Core{
		steps(t, "known", c, x, api.In{Kind: api.InPush, M: n, Time: 99}, nil, []api.Note{ack(1, n, 6, false)}),
		steps(t, "known by its numbers", c, x, api.In{Kind: api.InPush, M: del(1, 1, 9, 10)}, nil, []api.Note{ack(1, m, 5, true)}),
		steps(t, "known, of other keys", c, x, api.In{Kind: api.InPush, M: del(1, 1, 4000, 4001)}, nil, []api.Note{ack(1, m, 5, true)}),
	} {
		if len(c.Log) != 3 || c.Clock != 7 {
			t.Errorf("%d: %v", i, c)
		}
	}
	c.Frozen, c.Sealed = true, true
	steps(t, "known to a sealed one", c, x, api.In{Kind: api.InPush, M: m}, nil, []api.Note{ack(1, m, 5, true)})
}

// Promise 12.2: the example: a push of two shards' keys is held and proposed; again, nothing happens.
func TestPushTwo(t *testing.T) {
	x, a, _ := two()
	m := move(1, 1, 5, 4000, 3)
	c := steps(t, "a move", a, x, api.In{Kind: api.InPush, M: m, Time: 9}, []api.Rec{held(1, 10, m)}, []api.Note{prop(1, 2, m, 10, true)})
	if want := (api.Core{ID: 1, Keys: a.Keys, Clock: 10, Held: []api.Wait{{M: m, Time: 10}}}); !same(c, want) {
		t.Errorf("%v, not %v", c, want)
	}
	if d := steps(t, "again", c, x, api.In{Kind: api.InPush, M: m, Time: 20}, nil, nil); !same(c, d) {
		t.Errorf("again: %v", d)
	}
	n := put(2, 1, api.Pair{Key: 5, Val: 7})
	c = steps(t, "one behind it", c, x, api.In{Kind: api.InPush, M: n}, []api.Rec{held(1, 11, n), final(1, 11, n)}, nil)
	if want := []api.Wait{{M: m, Time: 10}, {M: n, Time: 11, Final: true}}; !same(c.Held, want) || len(c.Log) != 0 {
		t.Errorf("%v", c)
	}
	if d := steps(t, "a final one again", c, x, api.In{Kind: api.InPush, M: n}, nil, nil); !same(c, d) {
		t.Errorf("a final one again: %v", d)
	}
}

// Promise 12.2: the parts are asked by keys that rise, this shard alone is not.
func TestPushMany(t *testing.T) {
	x := charted(4)
	m := del(1, 1, 1000, 4096)
	in := api.In{Kind: api.InPush, M: m}
	steps(t, "the third of four", begun(x.L[2]), x, in, []api.Rec{held(3, 1, m)}, []api.Note{prop(3, 1, m, 1, true), prop(3, 2, m, 1, true), prop(3, 4, m, 1, true)})
	x, _, _, _ = chart.Apply(x, api.Change{Kind: api.Split, ID: 2, At: 1500})
	steps(t, "one is split", begun(x.L[0]), x, in, []api.Rec{held(1, 1, m)}, []api.Note{prop(1, 5, m, 1, true), prop(1, 6, m, 1, true), prop(1, 3, m, 1, true), prop(1, 4, m, 1, true)})
}

// Promise 12.2: what a push is refused for, and by which error if there are several.
func TestPushErrors(t *testing.T) {
	x, a, b := two()
	m := put(5, 1, api.Pair{Key: 5, Val: 7})
	frozen, gone, late, full := a, a, a, crowd(400, 600)
	frozen.Frozen = true
	gone.Frozen, gone.Sealed = true, true
	late.Clock = api.MaxTime
	full.Keys = a.Keys
	other := begun(api.Shard{ID: 1, Keys: api.Span{Lo: 6, Hi: 2048}}) // the chart's shard 1 has the key 5, this one has not
	push := func(m api.Mut, time int) api.In { return api.In{Kind: api.InPush, M: m, Time: time} }
	refuses(t, "no mutation", a, x, push(api.Mut{}, 0), api.ErrArg)
	refuses(t, "below 0", a, x, push(m, -1), api.ErrArg)
	refuses(t, "too late", a, x, push(m, api.MaxTime+1), api.ErrArg)
	refuses(t, "wrong, and sealed", gone, x, push(m, api.MaxTime+1), api.ErrArg)
	refuses(t, "wrong, though known", full, x, push(del(1, 1, 0, 1), -1), api.ErrArg)
	refuses(t, "sealed", gone, x, push(m, 0), api.ErrGone)
	refuses(t, "elsewhere", b, x, push(m, 0), api.ErrGone)
	refuses(t, "of no shard of the chart", begun(api.Shard{ID: 9, Keys: a.Keys}), x, push(m, 0), api.ErrGone)
	refuses(t, "elsewhere, frozen, too late", frozen, x, push(del(1, 1, 3000, 3001), api.MaxTime), api.ErrGone)
	refuses(t, "frozen", frozen, x, push(m, 0), api.ErrBusy)
	refuses(t, "frozen, too late", frozen, x, push(m, api.MaxTime), api.ErrBusy)
	refuses(t, "the last time", a, x, push(m, api.MaxTime), api.ErrLong)
	refuses(t, "the last clock", late, x, push(m, 0), api.ErrLong)
	refuses(t, "the last clock, not its keys", api.Core{ID: 1, Keys: other.Keys, Clock: api.MaxTime}, x, push(m, 0), api.ErrLong)
	refuses(t, "not its keys", other, x, push(m, 0), api.ErrArg)
	refuses(t, "full", full, x, push(m, 0), api.ErrFull)
	full.Keys = other.Keys
	full.Held = full.Held[6:]
	full.Known = crowd(0, 606).Known
	refuses(t, "full, not its keys", full, x, push(m, 0), api.ErrArg)
	c := steps(t, "the last but one", a, x, push(m, api.MaxTime-1), []api.Rec{held(1, api.MaxTime, m), final(1, api.MaxTime, m)}, []api.Note{ack(1, m, api.MaxTime, true)})
	steps(t, "known, frozen, late", c, x, push(m, api.MaxTime), nil, []api.Note{ack(1, m, api.MaxTime, true)})
}

// Promise 12.2: one who is asked holds the mutation back, asks back, answers, and settles.
func TestProp(t *testing.T) {
	x, _, b := two()
	m := move(1, 1, 5, 4000, 3)
	in := api.In{Kind: api.InProp, From: 1, M: m, Time: 10, Ask: true}
	c := steps(t, "it is asked", b, x, in, []api.Rec{held(2, 1, m), final(2, 10, m)}, []api.Note{prop(2, 1, m, 1, true), prop(2, 1, m, 1, false), ack(2, m, 10, true)})
	if want := (api.Core{ID: 2, Keys: b.Keys, Clock: 10, Log: []api.Entry{{M: m, Time: 10, Done: true}}, Known: []api.Known{{Client: 1, Seq: 1, Time: 10, Done: true}}}); !same(c, want) {
		t.Errorf("%v, not %v", c, want)
	}
	if d := steps(t, "it is known", c, x, in, nil, []api.Note{announced(2, 1, m, 10)}); !same(d, c) {
		t.Errorf("it is known: %v", d)
	}
	in.From, in.Ask = 77, false
	c.Frozen, c.Sealed = true, true
	steps(t, "known, sealed, not asked, of any shard", c, x, in, nil, []api.Note{announced(2, 77, m, 10)})
	b.Clock, b.Frozen = 20, true
	in.From = 1
	steps(t, "frozen, told", b, x, in, []api.Rec{held(2, 21, m), final(2, 21, m)}, []api.Note{prop(2, 1, m, 21, true), ack(2, m, 21, true)})
}

// Promise 12.2: what the peers gave is kept, one time for each, and the greatest one is the final time.
func TestPeers(t *testing.T) {
	x := charted(4)
	m := del(1, 1, 0, 4096)
	c := begun(x.L[1])
	c.Clock = 6
	in := func(from, time int, ask bool) api.In {
		return api.In{Kind: api.InProp, From: from, M: m, Time: time, Ask: ask}
	}
	c = steps(t, "the first one", c, x, in(4, 90, false), []api.Rec{held(2, 7, m)}, []api.Note{prop(2, 1, m, 7, true), prop(2, 3, m, 7, true), prop(2, 4, m, 7, true)})
	c = steps(t, "one that is no part", c, x, in(60000, 999, true), nil, []api.Note{prop(2, 60000, m, 7, false)})
	c = steps(t, "itself", c, x, in(2, 998, false), nil, nil)
	c = steps(t, "another one", c, x, in(1, 5, true), nil, []api.Note{prop(2, 1, m, 7, false)})
	c = steps(t, "the first one again", c, x, in(4, 9, false), nil, nil)
	if want := []api.Wait{{M: m, Time: 7, Peers: []api.Peer{{Shard: 4, Time: 9}, {Shard: 60000, Time: 999}, {Shard: 2, Time: 998}, {Shard: 1, Time: 5}}}}; !same(c.Held, want) || c.Clock != 7 {
		t.Errorf("%v, not %v", c.Held, want)
	}
	steps(t, "the last one", c, x, in(3, 8, true), []api.Rec{final(2, 9, m)}, []api.Note{prop(2, 3, m, 7, false), ack(2, m, 9, true)})
	steps(t, "the last one, earlier", c, x, in(3, 1, false), []api.Rec{final(2, 9, m)}, []api.Note{ack(2, m, 9, true)})
	d := c
	d.Held = []api.Wait{{M: m, Time: 7, Peers: []api.Peer{{Shard: 4, Time: 9}, {Shard: 3, Time: 50}, {Shard: 4, Time: 60}, {Shard: 3, Time: 70}}}}
	d = steps(t, "twice there", d, x, in(4, 8, false), nil, nil)
	if want := []api.Peer{{Shard: 4, Time: 8}, {Shard: 3, Time: 50}, {Shard: 3, Time: 70}}; !same(d.Held[0].Peers, want) {
		t.Errorf("twice there: %v, not %v", d.Held[0].Peers, want)
	}
}

// Promise 12.2: one that is final, but not first, is kept, and announced to whom proposes it.
func TestPropFinal(t *testing.T) {
	x := charted(3)
	m, n := del(1, 1, 0, 4096), del(1, 2, 0, 4096)
	c := begun(x.L[0])
	c.Clock = 9
	c.Held = []api.Wait{{M: m, Time: 3}, {M: n, Time: 8, Final: true}}
	for _, ask := range []bool{true, false} {
		d := steps(t, "final", c, x, api.In{Kind: api.InProp, From: 3, M: n, Time: 99, Ask: ask}, nil, []api.Note{announced(1, 3, n, 8)})
		if want := []api.Wait{{M: m, Time: 3}, {M: n, Time: 8, Final: true, Peers: []api.Peer{{Shard: 3, Time: 99}}}}; !same(d.Held, want) || d.Clock != 9 {
			t.Errorf("%v", d)
		}
	}
}

// Promise 12.2: what comes with the numbers of another mutation is about the one that is held.
func TestPropOther(t *testing.T) {
	x := charted(3)
	m := del(1, 1, 0, 4096)
	c := begun(x.L[0])
	c.Clock, c.Held = 9, []api.Wait{{M: m, Time: 3}}
	c = steps(t, "of one key", c, x, api.In{Kind: api.InProp, From: 3, M: add(1, 1, 4000, 1), Time: 5, Ask: true}, nil, []api.Note{prop(1, 3, m, 3, false)})
	if want := []api.Wait{{M: m, Time: 3, Peers: []api.Peer{{Shard: 3, Time: 5}}}}; !same(c.Held, want) {
		t.Errorf("%v", c.Held)
	}
}

// Promise 12.2: what a proposal is refused for, and by which error if there are several.
func TestPropErrors(t *testing.T) {
	x, a, b := two()
	m := move(1, 1, 5, 4000, 3)
	gone, late, full := a, a, crowd(400, 600)
	gone.Frozen, gone.Sealed = true, true
	late.Clock = api.MaxTime
	full.Keys = a.Keys
	other := begun(api.Shard{ID: 1, Keys: api.Span{Lo: 6, Hi: 2048}})
	in := api.In{Kind: api.InProp, From: 2, M: m, Time: 10, Ask: true}
	change := func(change func(in *api.In)) api.In {
		now := in
		change(&now)
		return now
	}
	for name, in := range map[string]api.In{
		"no mutation":          change(func(in *api.In) { in.M = api.Mut{} }),
		"of shard 0":           change(func(in *api.In) { in.From = 0 }),
		"of a shard too great": change(func(in *api.In) { in.From = api.MaxShard + 1 }),
		"at 0":                 change(func(in *api.In) { in.Time = 0 }),
		"too late":             change(func(in *api.In) { in.Time = api.MaxTime + 1 }),
	} {
		refuses(t, name, a, x, in, api.ErrArg)
		refuses(t, name+", and sealed", gone, x, in, api.ErrArg)
	}
	refuses(t, "sealed", gone, x, in, api.ErrGone)
	refuses(t, "of no shard of the chart", begun(api.Shard{ID: 9, Keys: a.Keys}), x, in, api.ErrGone)
	refuses(t, "elsewhere, the last clock", late, x, change(func(in *api.In) { in.M = del(1, 1, 3000, 3001) }), api.ErrGone)
	refuses(t, "the last clock", late, x, in, api.ErrLong)
	refuses(t, "the last clock, not its keys", api.Core{ID: 1, Keys: other.Keys, Clock: api.MaxTime}, x, in, api.ErrLong)
	refuses(t, "not its keys", other, x, in, api.ErrArg)
	refuses(t, "full", full, x, change(func(in *api.In) { in.M = move(5, 1, 5, 4000, 3) }), api.ErrFull)
	b.Clock = api.MaxTime - 1
	in.From, in.Time = api.MaxShard, api.MaxTime
	steps(t, "the greatest numbers", b, x, in, []api.Rec{held(2, api.MaxTime, m)}, []api.Note{prop(2, 1, m, api.MaxTime, true), prop(2, api.MaxShard, m, api.MaxTime, false)})
}

// Promise 12.2: one that is held is taken at the last clock, too, and if there is no more room.
func TestPropHeld(t *testing.T) {
	x, _, _ := two()
	c := crowd(400, 600)
	c.Keys, c.Clock = x.L[0].Keys, api.MaxTime
	c.Held[0].M = move(2, 1, 5, 4000, 3)
	c.Held = c.Held[:1]
	c.Known = crowd(0, 999).Known
	in := api.In{Kind: api.InProp, From: 2, M: c.Held[0].M, Time: 3000}
	steps(t, "held", c, x, in, []api.Rec{final(1, 3000, in.M)}, []api.Note{ack(1, in.M, 3000, true)})
}

// Promise 12.2: a final time that is told.
func TestFinal(t *testing.T) {
	x, a, _ := two()
	m, n := move(1, 1, 5, 4000, 3), move(1, 2, 4000, 5, 2)
	a.Clock = 9
	a.Held = []api.Wait{{M: m, Time: 3}, {M: n, Time: 8}}
	in := func(m api.Mut, time int) api.In {
		return api.In{Kind: api.InFinal, Client: m.Client, Seq: m.Seq, Time: time}
	}
	c := steps(t, "the second one", a, x, in(n, 8), []api.Rec{final(1, 8, n)}, nil)
	if d := steps(t, "again", c, x, in(n, 5), nil, nil); !same(c, d) {
		t.Errorf("again: %v", d)
	}
	c = steps(t, "the first one, behind", c, x, in(m, 12), []api.Rec{final(1, 12, m)}, []api.Note{ack(1, n, 8, true), ack(1, m, 12, true)})
	if c.Clock != 12 || len(c.Held) != 0 || !same(core.Table(c), []api.Pair{{Key: 5, Val: -1}}) {
		t.Errorf("%v", c)
	}
	refuses(t, "known", c, x, in(m, 12), api.ErrNone)
	refuses(t, "not held", a, x, in(put(9, 9), api.MaxTime+1), api.ErrNone)
	refuses(t, "too early", a, x, in(m, 2), api.ErrArg)
	refuses(t, "too late", a, x, in(m, api.MaxTime+1), api.ErrArg)
	steps(t, "the last time", a, x, in(m, api.MaxTime), []api.Rec{final(1, api.MaxTime, m)}, nil)
	c.Frozen, c.Sealed = true, true
	refuses(t, "sealed", c, x, in(m, 12), api.ErrGone)
	x, _, _, _ = chart.Apply(x, api.Change{Kind: api.Shift, ID: 1, At: 1}) // the shard is no part any more
	steps(t, "no part", a, x, in(m, 4), []api.Rec{final(1, 4, m)}, []api.Note{ack(1, m, 4, true)})
}

// Promise 12.2: whatever comes, all settles that can, in the order of stamps, each with its own record and what it commits.
func TestSettle(t *testing.T) {
	x, a, b := two()
	a.Clock = 30
	l := []api.Mut{move(1, 1, 5, 4000, 3), add(3, 1, 6, 1), move(1, 2, 4000, 5, 2), add(2, 1, 7, 1), put(4, 1, api.Pair{Key: 4000}, api.Pair{Key: 4001})}
	a.Held = []api.Wait{
		{M: l[0], Time: 20, Peers: []api.Peer{{Shard: 2, Time: 40}}},
		{M: l[1], Time: 10},
		{M: l[2], Time: 25, Peers: []api.Peer{{Shard: 3, Time: 1}}},
		{M: l[3], Time: 10},
	}
	recs := []api.Rec{final(1, 10, l[3]), final(1, 10, l[1]), final(1, 40, l[0])}
	notes := []api.Note{ack(1, l[3], 10, true), ack(1, l[1], 10, true)}
	c := steps(t, "a tick", a, x, api.In{Kind: api.InTick}, recs, append([]api.Note{prop(1, 2, l[2], 25, true)}, notes...))
	if want := []api.Wait{{M: l[0], Time: 40, Final: true, Peers: a.Held[0].Peers}, a.Held[2]}; !same(c.Held, want) || c.Clock != 40 {
		t.Errorf("%v, not %v", c, want)
	}
	n := put(5, 1, api.Pair{Key: 9, Val: 9})
	last := []api.Rec{final(1, 31, n)}
	c = steps(t, "a push", a, x, api.In{Kind: api.InPush, M: n}, append(append([]api.Rec{held(1, 31, n)}, recs[:2]...), append(recs[2:3:3], last...)...), notes)
	if len(c.Held) != 3 || !c.Held[2].Final {
		t.Errorf("%v", c)
	}
	in := api.In{Kind: api.InFinal, Client: 1, Seq: 2, Time: 26}
	steps(t, "a final time", a, x, in, append([]api.Rec{final(1, 26, l[2])}, recs...), append(notes[:2:2], ack(1, l[2], 26, true), ack(1, l[0], 40, true)))
	b.Clock, b.Held = 5, []api.Wait{{M: l[2], Time: 4}, {M: l[4], Time: 3, Final: true}}
	steps(t, "a proposal", b, x, api.In{Kind: api.InProp, From: 1, M: l[2], Time: 2}, []api.Rec{final(2, 4, l[2])}, []api.Note{ack(2, l[4], 3, true), ack(2, l[2], 4, true)})
	steps(t, "nothing that settles", b, x, api.In{Kind: api.InClock, Time: 6}, []api.Rec{{Kind: api.RecClock, Shard: 2, Time: 6}}, nil)
	steps(t, "nothing is committed without a final time", b, x, api.In{Kind: api.InTick}, nil, []api.Note{prop(2, 1, l[2], 4, true)})
	for _, in := range []api.In{{Kind: api.InPush, M: l[0]}, {Kind: api.InClock, Time: 30}} {
		steps(t, "nothing happens", a, x, in, nil, nil)
	}
}

// Promise 12.2: as many as may be held settle at once.
func TestSettleMany(t *testing.T) {
	c := crowd(1000, 0)
	for i := range c.Held {
		c.Held[i].M = add(2, i+1, 7, 1-2*(i%2)) // each one hangs on all those ahead of it
		c.Held[i].Time = 5000 - i
	}
	o := core.Step(c, charted(1), api.In{Kind: api.InTick})
	if o.E != api.OK || len(o.Recs) != 1000 || len(o.Notes) != 1000 || len(o.C.Log) != 1000 || !core.Check(o.C) {
		t.Fatalf("%v, %d records, %d notes", o.E, len(o.Recs), len(o.Notes))
	}
	for i, n := range o.Notes { // the first one takes from nothing
		if n.Seq != 1000-i || n.Time != 4001+i || n.Done != (i > 0) {
			t.Fatalf("the %d-th: %v", i, n)
		}
	}
	if l := core.Table(o.C); !same(l, []api.Pair{{Key: 7, Val: 1}}) {
		t.Errorf("%v", l)
	}
}

// Promise 12.2: what has become another shard's is neither proposed nor settled; what has become this shard's alone is.
func TestChartChanged(t *testing.T) {
	x, a, _ := two()
	m := move(1, 1, 5, 4000, 3)
	a.Clock, a.Held = 9, []api.Wait{{M: m, Time: 3}}
	shift, _, _, _ := chart.Apply(x, api.Change{Kind: api.Shift, ID: 1, At: 1})
	if d := steps(t, "shifted", a, shift, api.In{Kind: api.InTick}, nil, nil); !same(d, a) {
		t.Errorf("shifted: %v", d)
	}
	steps(t, "shifted, proposed", a, shift, api.In{Kind: api.InProp, From: 2, M: m, Time: 5, Ask: true}, nil, []api.Note{prop(1, 2, m, 3, false)})
	split, _, _, _ := chart.Apply(x, api.Change{Kind: api.Split, ID: 2, At: 3000})
	a.Held[0].Peers = []api.Peer{{Shard: 2, Time: 50}}
	steps(t, "the other one is split", a, split, api.In{Kind: api.InTick}, nil, []api.Note{prop(1, 4, m, 3, true)})
	a.Held[0].Peers = append(a.Held[0].Peers, api.Peer{Shard: 4, Time: 8}, api.Peer{Shard: 3, Time: 70})
	steps(t, "the half of it gave", a, split, api.In{Kind: api.InTick}, []api.Rec{final(1, 8, m)}, []api.Note{ack(1, m, 8, true)})
	all := charted(1)
	steps(t, "all keys are its own", a, all, api.In{Kind: api.InTick}, []api.Rec{final(1, 3, m)}, []api.Note{ack(1, m, 3, true)})
}

// Promise 12.2: a tick proposes what is not final again, to those that have not answered, in the order of Held.
func TestTick(t *testing.T) {
	x := charted(3)
	c := begun(x.L[1])
	c.Clock = 9
	l := []api.Mut{del(1, 1, 0, 4096), del(3, 1, 0, 1500), del(2, 1, 0, 4096), del(2, 2, 1500, 4096)}
	c.Held = []api.Wait{{M: l[0], Time: 8, Peers: []api.Peer{{Shard: 1, Time: 2}}}, {M: l[1], Time: 3}, {M: l[2], Time: 5, Final: true}, {M: l[3], Time: 4}}
	d := steps(t, "four", c, x, api.In{Kind: api.InTick}, nil, []api.Note{prop(2, 3, l[0], 8, true), prop(2, 1, l[1], 3, true), prop(2, 3, l[3], 4, true)})
	if !same(c, d) {
		t.Errorf("%v, not %v", d, c)
	}
	steps(t, "none", begun(x.L[0]), x, api.In{Kind: api.InTick}, nil, nil)
	s := sealed()
	steps(t, "sealed", s, x, api.In{Kind: api.InTick}, nil, nil)
}

// Promise 12.2: the clock.
func TestClock(t *testing.T) {
	x, a, _ := two()
	a.Clock = 5
	c := steps(t, "later", a, x, api.In{Kind: api.InClock, Time: 6}, []api.Rec{{Kind: api.RecClock, Shard: 1, Time: 6}}, nil)
	if c.Clock != 6 {
		t.Errorf("%v", c)
	}
	for _, time := range []int{0, 5} {
		if c := steps(t, "not later", a, x, api.In{Kind: api.InClock, Time: time}, nil, nil); !same(c, a) {
			t.Errorf("%v", c)
		}
	}
	steps(t, "the last one", a, x, api.In{Kind: api.InClock, Time: api.MaxTime}, []api.Rec{{Kind: api.RecClock, Shard: 1, Time: api.MaxTime}}, nil)
	a.Frozen = true
	steps(t, "frozen", a, x, api.In{Kind: api.InClock, Time: 6}, []api.Rec{{Kind: api.RecClock, Shard: 1, Time: 6}}, nil)
	refuses(t, "below 0", a, x, api.In{Kind: api.InClock, Time: -1}, api.ErrArg)
	refuses(t, "too great", a, x, api.In{Kind: api.InClock, Time: api.MaxTime + 1}, api.ErrArg)
	a.Sealed = true
	refuses(t, "sealed", a, x, api.In{Kind: api.InClock, Time: 6}, api.ErrGone)
	refuses(t, "sealed, not later", a, x, api.In{Kind: api.InClock, Time: 1}, api.ErrGone)
	refuses(t, "sealed, too great", a, x, api.In{Kind: api.InClock, Time: api.MaxTime + 1}, api.ErrArg)
}

// Promise 12.2: freezing and sealing.
func TestFreezeSeal(t *testing.T) {
	x, a, _ := two()
	m := move(1, 1, 5, 4000, 3)
	refuses(t, "seal, not frozen", a, x, api.In{Kind: api.InSeal}, api.ErrArg)
	a.Clock, a.Held = 9, []api.Wait{{M: m, Time: 3}}
	refuses(t, "seal, not frozen, held", a, x, api.In{Kind: api.InSeal}, api.ErrArg)
	c := steps(t, "freeze", a, x, api.In{Kind: api.InFreeze}, []api.Rec{{Kind: api.RecFreeze, Shard: 1}}, nil)
	if !c.Frozen || c.Sealed || len(c.Held) != 1 {
		t.Errorf("%v", c)
	}
	if d := steps(t, "freeze again", c, x, api.In{Kind: api.InFreeze}, nil, nil); !same(c, d) {
		t.Errorf("%v", d)
	}
	refuses(t, "seal, held", c, x, api.In{Kind: api.InSeal}, api.ErrBusy)
	c = steps(t, "a proposal to a frozen one", c, x, api.In{Kind: api.InProp, From: 2, M: m, Time: 4}, []api.Rec{final(1, 4, m)}, []api.Note{ack(1, m, 4, true)})
	d := steps(t, "seal", c, x, api.In{Kind: api.InSeal}, []api.Rec{{Kind: api.RecSeal, Shard: 1}}, nil)
	c.Sealed = true
	if !same(c, d) {
		t.Errorf("%v", d)
	}
	for _, kind := range []int{api.InSeal, api.InFreeze, api.InTick} {
		if d := steps(t, "sealed", c, x, api.In{Kind: kind}, nil, nil); !same(c, d) {
			t.Errorf("%v", d)
		}
	}
}

// Promise 12.2: no kind, and no chart.
func TestStepErrors(t *testing.T) {
	x, a, _ := two()
	for _, kind := range []int{0, -1, api.InSeal + 1, math.MaxInt, math.MinInt} {
		refuses(t, "no kind", a, x, api.In{Kind: kind, M: put(1, 1, api.Pair{}), Time: 1, From: 2}, api.ErrArg)
	}
	for _, x := range []api.Chart{{}, {Epoch: 1, Next: 3, L: x.L[:1]}, {Epoch: 0, Next: 3, L: x.L}} {
		for kind := range api.InSeal + 1 {
			refuses(t, "no chart", a, x, api.In{Kind: kind}, api.ErrArg)
		}
	}
}

// Promise 12.2: a peer's time that can't be, which only one who makes a core by hand can lay there, changes nothing.
func TestPeerTooLate(t *testing.T) {
	x, a, _ := two()
	a.Clock, a.Held = 9, []api.Wait{{M: add(1, 1, 5, 1), Time: 3}, {M: move(1, 2, 5, 4000, 3), Time: 4, Peers: []api.Peer{{Shard: 2, Time: math.MaxInt}}}}
	refuses(t, "a tick", a, x, api.In{Kind: api.InTick}, api.ErrArg)
	refuses(t, "a push", a, x, api.In{Kind: api.InPush, M: add(2, 1, 5, 1)}, api.ErrArg)
	a.Held[1].Peers[0].Time = math.MinInt
	m, n := a.Held[0].M, a.Held[1].M
	steps(t, "too early", a, x, api.In{Kind: api.InTick}, []api.Rec{final(1, 3, m), final(1, 4, n)}, []api.Note{ack(1, m, 3, true), ack(1, n, 4, true)})
}

// Promise 12.2: the chapter's example: a move between two shards.
func TestExample(t *testing.T) {
	x, a, b := two()
	m := move(1, 1, 5, 4000, 3)
	a = steps(t, "pushed", a, x, api.In{Kind: api.InPush, M: m}, []api.Rec{held(1, 1, m)}, []api.Note{prop(1, 2, m, 1, true)})
	b = steps(t, "proposed", b, x, api.In{Kind: api.InProp, From: 1, M: m, Time: 1, Ask: true}, []api.Rec{held(2, 1, m), final(2, 1, m)}, []api.Note{prop(2, 1, m, 1, true), prop(2, 1, m, 1, false), ack(2, m, 1, true)})
	a = steps(t, "proposed back", a, x, api.In{Kind: api.InProp, From: 2, M: m, Time: 1, Ask: true}, []api.Rec{final(1, 1, m)}, []api.Note{prop(1, 2, m, 1, false), ack(1, m, 1, true)})
	if !same(core.Table(a), []api.Pair{{Key: 5, Val: -3}}) || !same(core.Table(b), []api.Pair{{Key: 4000, Val: 3}}) {
		t.Errorf("%v, %v", a, b)
	}
}

// heir is a core of some keys that is sealed, with a table of its own and these that it knows.
func heir(id, lo, hi, clock int, known ...api.Known) api.Core {
	return api.Core{ID: id, Keys: api.Span{Lo: lo, Hi: hi}, Clock: clock, Frozen: true, Sealed: true, Known: known,
		Base: []api.Pair{{Key: lo, Val: id}, {Key: hi - 1, Val: -id}}}
}

// Promise 12.3: a split, a merge and a shift.
func TestHeirs(t *testing.T) {
	old := sealed()
	l, e := core.Heirs([]api.Core{old}, []api.Shard{{ID: 8, Keys: api.Span{Lo: 100, Hi: 199}}, {ID: 9, Keys: api.Span{Lo: 199, Hi: 200}, Node: 77}})
	want := []api.Core{
		{ID: 8, Keys: api.Span{Lo: 100, Hi: 199}, Clock: 50, Known: old.Known},
		{ID: 9, Keys: api.Span{Lo: 199, Hi: 200}, Clock: 50, Known: old.Known, Base: []api.Pair{{Key: 199, Val: -7}}},
	}
	if e != api.OK || !same(l, want) {
		t.Errorf("a split: %v, %v, not %v", l, e, want)
	}
	a := heir(1, 0, 10, 8, api.Known{Client: 1, Seq: 2, Time: 5, Done: true}, api.Known{Client: 3, Seq: 1, Time: 6})
	b := heir(2, 10, 20, 9, api.Known{Client: 1, Seq: 1, Time: 4}, api.Known{Client: 1, Seq: 2, Time: 7}, api.Known{Client: 4, Seq: 1, Time: 1})
	known := []api.Known{{Client: 1, Seq: 1, Time: 4}, {Client: 1, Seq: 2, Time: 5, Done: true}, {Client: 3, Seq: 1, Time: 6}, {Client: 4, Seq: 1, Time: 1}}
	for _, to := range []int{3, api.MaxShard} {
		l, e = core.Heirs([]api.Core{a, b}, []api.Shard{{ID: to, Keys: api.Span{Lo: 0, Hi: 20}}})
		want = []api.Core{{ID: to, Keys: api.Span{Lo: 0, Hi: 20}, Clock: 9, Known: known, Base: []api.Pair{{Key: 0, Val: 1}, {Key: 9, Val: -1}, {Key: 10, Val: 2}, {Key: 19, Val: -2}}}}
		if e != api.OK || !same(l, want) || !core.Check(l[0]) {
			t.Errorf("a merge: %v, %v, not %v", l, e, want)
		}
	}
	a.Clock = 10
	l, e = core.Heirs([]api.Core{a, b}, []api.Shard{{ID: 1, Keys: api.Span{Lo: 0, Hi: 1}}, {ID: 1, Keys: api.Span{Lo: 1, Hi: 19}}, {ID: 2, Keys: api.Span{Lo: 19, Hi: 20}}})
	if e != api.OK || len(l) != 3 || l[0].Clock != 10 || !same(l[1].Base, []api.Pair{{Key: 9, Val: -1}, {Key: 10, Val: 2}}) || !same(l[2].Base, []api.Pair{{Key: 19, Val: -2}}) || !same(l[2].Known, known) {
		t.Errorf("two into three: %v, %v", l, e)
	}
}

// Promise 12.3: what Heirs refuses, and by which error if there are several.
func TestHeirsErrors(t *testing.T) {
	a, b := heir(1, 0, 10, 8), heir(2, 10, 20, 9)
	s := func(id, lo, hi int) api.Shard { return api.Shard{ID: id, Keys: api.Span{Lo: lo, Hi: hi}} }
	open, frozen := a, a
	open.Sealed, open.Frozen = false, false
	frozen.Sealed = false
	many, more := heir(1, 0, 10, 8, crowd(0, 1000).Known...), heir(2, 10, 20, 9, api.Known{Client: 2, Seq: 1})
	for _, x := range []struct {
		name  string
		old   []api.Core
		fresh []api.Shard
		e     api.Errno
	}{
		{"no old", nil, []api.Shard{s(3, 0, 10)}, api.ErrArg},
		{"no fresh", []api.Core{a}, nil, api.ErrArg},
		{"none", nil, nil, api.ErrArg},
		{"no core", []api.Core{{}}, []api.Shard{s(3, 0, 10)}, api.ErrArg},
		{"the second is no core", []api.Core{a, {}}, []api.Shard{s(3, 0, 10)}, api.ErrArg},
		{"open", []api.Core{open}, []api.Shard{s(3, 0, 10)}, api.ErrArg},
		{"frozen", []api.Core{frozen}, []api.Shard{s(3, 0, 10)}, api.ErrArg},
		{"number 0", []api.Core{a}, []api.Shard{s(3, 0, 5), s(0, 5, 10)}, api.ErrArg},
		{"a number too great", []api.Core{a}, []api.Shard{s(api.MaxShard+1, 0, 10)}, api.ErrArg},
		{"too few keys", []api.Core{a, b}, []api.Shard{s(3, 0, 19)}, api.ErrArg},
		{"too many keys", []api.Core{a, b}, []api.Shard{s(3, 0, 21)}, api.ErrArg},
		{"from behind", []api.Core{a, b}, []api.Shard{s(3, 1, 20)}, api.ErrArg},
		{"from below", []api.Core{b}, []api.Shard{s(3, 9, 20)}, api.ErrArg},
		{"a gap", []api.Core{a, b}, []api.Shard{s(3, 0, 10), s(4, 11, 20)}, api.ErrArg},
		{"twice a key", []api.Core{a, b}, []api.Shard{s(3, 0, 10), s(4, 9, 20)}, api.ErrArg},
		{"the wrong way", []api.Core{a, b}, []api.Shard{s(4, 10, 20), s(3, 0, 10)}, api.ErrArg},
		{"an empty span", []api.Core{a}, []api.Shard{s(3, 0, 10), s(4, 10, 10)}, api.ErrArg},
		{"a span the wrong way", []api.Core{a}, []api.Shard{s(3, 0, 12), s(4, 12, 10)}, api.ErrArg},
		{"old the wrong way", []api.Core{b, a}, []api.Shard{s(3, 0, 20)}, api.ErrArg},
		{"old with a gap", []api.Core{a, heir(2, 11, 20, 9)}, []api.Shard{s(3, 0, 20)}, api.ErrArg},
		{"old twice", []api.Core{a, a}, []api.Shard{s(3, 0, 10)}, api.ErrArg},
		{"too much is known", []api.Core{many, more}, []api.Shard{s(3, 0, 20)}, api.ErrLong},
		{"too much, and a gap", []api.Core{many, more}, []api.Shard{s(3, 0, 10), s(4, 11, 20)}, api.ErrArg},
	} {
		if l, e := core.Heirs(x.old, x.fresh); e != x.e || len(l) != 0 {
			t.Errorf("%s: %v, %v, not %v", x.name, l, e, x.e)
		}
	}
	more.Known = []api.Known{{Client: 1, Seq: 1000, Time: 3}}
	if l, e := core.Heirs([]api.Core{many, more}, []api.Shard{s(3, 0, 20)}); e != api.OK || len(l[0].Known) != 1000 || l[0].Known[999].Time != 999 {
		t.Errorf("as much as may be: %v", e)
	}
}

// places are the addresses of all that can be written of what a value has.
func places(v reflect.Value, found map[uintptr]int) {
	switch v.Kind() {
	case reflect.Struct:
		for i := range v.NumField() {
			places(v.Field(i), found)
		}
	case reflect.Slice:
		whole := v.Slice(0, v.Cap())
		for i := range whole.Len() {
			found[whole.Index(i).Addr().Pointer()]++
		}
		for i := range v.Len() {
			places(v.Index(i), found)
		}
	}
}

// apart tells what is wrong if two lists of these have memory in common.
func apart(t *testing.T, name string, l ...any) {
	t.Helper()
	found := map[uintptr]int{}
	for _, v := range l {
		places(reflect.ValueOf(v), found)
	}
	for _, n := range found {
		if n > 1 {
			t.Errorf("%s: memory is shared", name)
			return
		}
	}
}

// Rule 3: what is answered has its own memory, and what is handed in stays as it is.
func TestApart(t *testing.T) {
	x, a, b := two()
	a.Clock = 30
	m, n := move(1, 1, 5, 4000, 3), put(5, 1, api.Pair{Key: 9, Val: 9}, api.Pair{Key: 3000})
	a.Held = []api.Wait{
		{M: m, Time: 20, Peers: make([]api.Peer, 1, 8)},
		{M: add(2, 1, 7, 1), Time: 10},
		{M: put(2, 2, api.Pair{Key: 5}, api.Pair{Key: 4000}), Time: 11, Final: true},
		{M: move(2, 3, 5, 4001, 1), Time: 25, Final: true, Peers: []api.Peer{{Shard: 2, Time: 8}}},
	}
	a.Held[0].Peers[0] = api.Peer{Shard: 7, Time: 8}
	a.Base = []api.Pair{{Key: 7, Val: 70}}
	a.Log = []api.Entry{{M: add(1, 9, 5, 1), Time: 3, Done: true}}
	a.Known = []api.Known{{Client: 1, Seq: 9, Time: 3, Done: true}}
	done := sealed()
	for _, in := range []api.In{
		{}, {Kind: api.InPush, M: n}, {Kind: api.InPush, M: m}, {Kind: api.InProp, From: 2, M: m, Time: 3, Ask: true}, {Kind: api.InProp, From: 7, M: m, Time: 3, Ask: true},
		{Kind: api.InProp, From: 8, M: m, Time: 3, Ask: true}, {Kind: api.InProp, From: 2, M: n, Time: 3, Ask: true},
		{Kind: api.InFinal, Client: 1, Seq: 1, Time: 26}, {Kind: api.InTick}, {Kind: api.InClock, Time: 99}, {Kind: api.InFreeze}, {Kind: api.InSeal},
	} {
		for _, c := range []api.Core{a, b, done} {
			in.M.Pairs = slices.Clone(in.M.Pairs) // it may be held, too
			was := fmt.Sprint(c, x, in)
			apart(t, fmt.Sprint(in), c, x, in, core.Step(c, x, in))
			if now := fmt.Sprint(c, x, in); now != was {
				t.Errorf("%v: %s, not %s", in, now, was)
			}
		}
	}
	was := fmt.Sprint(a)
	for _, r := range []api.Rec{held(1, 60, n), final(1, 20, m), final(1, 20, a.Held[1].M), {Kind: api.RecClock, Shard: 1, Time: 99}, {Kind: api.RecFreeze, Shard: 1}} {
		apart(t, fmt.Sprint(r), a, r, redo(t, a, r))
	}
	apart(t, "Table", a, core.Table(a))
	apart(t, "Table of a base", heir(1, 0, 10, 8), core.Table(heir(1, 0, 10, 8)))
	if now := fmt.Sprint(a); now != was {
		t.Errorf("%s, not %s", now, was)
	}
	old := []api.Core{heir(1, 0, 10, 8, full().Known...), heir(2, 10, 20, 9)}
	fresh := []api.Shard{{ID: 3, Keys: api.Span{Lo: 0, Hi: 9}}, {ID: 4, Keys: api.Span{Lo: 9, Hi: 20}}}
	l, _ := core.Heirs(old, fresh)
	apart(t, "Heirs", old, fresh, l)
	l, _ = core.Heirs(old[:1], []api.Shard{{ID: 3, Keys: api.Span{Lo: 0, Hi: 10}}})
	apart(t, "Heirs of one", old, l)
}
