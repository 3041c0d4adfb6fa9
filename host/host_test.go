package host_test

import (
	"fmt"
	"math"
	"slices"
	"testing"

	"splice/api"
	"splice/chart"
	"splice/cksum"
	"splice/core"
	"splice/host"
	"splice/rec"
	"splice/slab"
	"splice/vint"
	"splice/wal"
)

func put(client, seq int, pairs ...api.Pair) api.Mut {
	return api.Mut{Client: client, Seq: seq, Kind: api.MutPut, Pairs: pairs}
}

func add(client, seq, key, val int) api.Mut {
	return api.Mut{Client: client, Seq: seq, Kind: api.MutAdd, Pairs: []api.Pair{{Key: key, Val: val}}}
}

func move(client, seq, from, to, val int) api.Mut {
	return api.Mut{Client: client, Seq: seq, Kind: api.MutMove, Pairs: []api.Pair{{Key: from, Val: val}, {Key: to, Val: val}}}
}

// first is the first chart for so many nodes and shards.
func first(nodes, shards int) api.Chart {
	x, _ := chart.First(nodes, shards)
	return x
}

// same tells whether two things are told alike: lists that are nil and empty ones are.
func same(a, b any) bool {
	return fmt.Sprint(a) == fmt.Sprint(b)
}

// open is the host of a slab, on node 0.
func open(t *testing.T, s *slab.Slab, x api.Chart) *host.Host {
	t.Helper()
	h, e := host.Open(s, 0, x)
	if h == nil || e != api.OK {
		t.Fatalf("Open: %v", e)
	}
	return h
}

// fresh is a new host with two shards of three: 1 has the keys up to 1365, and 3 those from 2730 on. The shard 2 is at node 1.
func fresh(t *testing.T, blocks int) (*slab.Slab, *host.Host) {
	t.Helper()
	s := slab.New(blocks)
	return s, open(t, s, first(2, 3))
}

// takes lets a host take a note, which must go well, and answers what it tells.
func takes(t *testing.T, h *host.Host, n api.Note) []api.Note {
	t.Helper()
	l, e := h.Take(n)
	if e != api.OK {
		t.Fatalf("Take of %v: %v", n, e)
	}
	return l
}

// tells tests what a host tells when it takes a note.
func tells(t *testing.T, h *host.Host, n api.Note, want ...api.Note) {
	t.Helper()
	if l := takes(t, h, n); !same(l, want) {
		t.Errorf("Take of %v:\n%v, not\n%v", n, l, want)
	}
}

// refuses tests that a host takes a note with an error, and nothing changes.
func refuses(t *testing.T, h *host.Host, n api.Note, want api.Errno) {
	t.Helper()
	cores, x, rows, down := h.Cores(), h.Chart(), h.Rows(), h.Down()
	if l, e := h.Take(n); e != want || l != nil {
		t.Errorf("Take of %v: %v, %v, not %v", n, l, e, want)
	}
	if !same(h.Cores(), cores) || !same(h.Chart(), x) || h.Rows() != rows || h.Down() != down {
		t.Errorf("Take of %v: %v of %v becomes %v of %v, %d rows %d", n, cores, x, h.Cores(), h.Chart(), rows, h.Rows())
	}
}

// at is a host's core.
func at(t *testing.T, h *host.Host, id int) api.Core {
	t.Helper()
	for _, c := range h.Cores() {
		if c.ID == id {
			return c
		}
	}
	t.Fatalf("no core %d of %v", id, h.Cores())
	return api.Core{}
}

func push(to int, m api.Mut) api.Note {
	return api.Note{Kind: api.NotePush, To: to, M: m}
}

func prop(from, to int, m api.Mut, time int, ask bool) api.Note {
	return api.Note{Kind: api.NoteProp, From: from, To: to, M: m, Time: time, Ask: ask}
}

func ack(from int, m api.Mut, time int, done bool) api.Note {
	return api.Note{Kind: api.NoteAck, From: from, Client: m.Client, Seq: m.Seq, Time: time, Done: done}
}

// bare are cores without what peers gave.
func bare(l []api.Core) []api.Core {
	l = slices.Clone(l)
	for i := range l {
		l[i].Held = slices.Clone(l[i].Held)
		for j := range l[i].Held {
			l[i].Held[j].Peers = nil
		}
	}
	return l
}

// text is that of a host.
func text(x api.Chart, l ...api.Core) string {
	s := vint.Text(chart.Text(x)) + vint.Num(len(l))
	for _, c := range bare(l) {
		s += vint.Text(rec.Core(c))
	}
	return s
}

// stored is a slab of so many blocks with a text and records.
func stored(t *testing.T, blocks int, text string, records ...string) *slab.Slab {
	t.Helper()
	s := slab.New(blocks)
	l, _, _, e := wal.Open(s)
	if e == api.OK && text != "" {
		e = l.Keep(text)
	}
	for _, r := range records {
		if e == api.OK {
			e = l.Append(r)
		}
	}
	if e == api.OK {
		e = l.Sync()
	}
	if e != api.OK {
		t.Fatalf("stored: %v", e)
	}
	return s
}

// holds tests what the log of a slab has.
func holds(t *testing.T, s *slab.Slab, text string, records ...api.Rec) {
	t.Helper()
	_, got, l, e := wal.Open(s)
	var want []string
	for _, r := range records {
		want = append(want, rec.Record(r))
	}
	if e != api.OK || got != text || !slices.Equal(l, want) {
		t.Errorf("the log has %q, %q, %v, not %q, %q", got, l, e, text, want)
	}
}

// Promise 13.1: a new host has the cores of its node, and its text is kept.
func TestOpenNew(t *testing.T) {
	x := first(2, 3)
	for node, ids := range [][]int{{1, 3}, {2}, nil, nil, nil} {
		s := slab.New(128)
		h, e := host.Open(s, node, x)
		if e != api.OK || h.Node() != node || h.Down() || h.Rows() != 64 || !same(h.Chart(), x) || len(h.Cores()) != len(ids) {
			t.Fatalf("node %d: %v", node, e)
		}
		var l []api.Core
		for _, id := range ids {
			c, _ := chart.Find(x, id)
			l = append(l, api.Core{ID: id, Keys: c.Keys})
		}
		if !same(h.Cores(), l) {
			t.Errorf("node %d: %v", node, h.Cores())
		}
		holds(t, s, text(x, l...))
		if len(s.Loose()) > 0 {
			t.Errorf("not durable: %v", s.Loose())
		}
	}
}

// Promise 13.1: the cores stand by their numbers, whatever the order of their keys.
func TestOpenOrder(t *testing.T) {
	x := first(1, 3)
	x.L[0].ID, x.L[1].ID, x.L[2].ID, x.Next = 30, 7, 19, 31
	h := open(t, slab.New(128), x)
	l := h.Cores()
	if len(l) != 3 || l[0].ID != 7 || l[1].ID != 19 || l[2].ID != 30 || l[0].Keys != x.L[1].Keys || l[2].Keys != x.L[0].Keys {
		t.Errorf("%v", l)
	}
}

// Promise 13.1: what can't be opened, and the order of errors.
func TestOpenErrors(t *testing.T) {
	x := first(2, 2)
	bad := first(2, 2)
	bad.L[1].Keys.Lo++
	fail := func(s *slab.Slab) *slab.Slab {
		s.Fail(api.Loss{Torn: -1})
		return s
	}
	trip := func(n int) *slab.Slab {
		s := slab.New(64)
		s.Trip(n, api.Loss{Torn: -1})
		return s
	}
	late := slab.New(64)
	b, _ := cksum.Frame(vint.Num(1<<40) + vint.Num(0) + vint.Num(0) + vint.Num(1))
	late.Write(9, b)
	wide := first(1, 24)
	for i, c := range []struct {
		s    *slab.Slab
		node int
		x    api.Chart
		want api.Errno
	}{
		{slab.New(128), 5, x, api.ErrArg}, {slab.New(128), -1, x, api.ErrArg}, {slab.New(128), math.MaxInt, x, api.ErrArg},
		{slab.New(128), 0, bad, api.ErrArg}, {slab.New(128), 0, api.Chart{}, api.ErrArg}, {fail(slab.New(64)), 5, x, api.ErrArg},
		{fail(slab.New(64)), 0, bad, api.ErrArg}, {nil, 0, x, api.ErrArg}, {slab.New(15), 0, x, api.ErrArg}, {fail(slab.New(15)), 0, x, api.ErrArg},
		{fail(slab.New(64)), 0, x, api.ErrDown}, {late, 0, x, api.ErrLong}, {slab.New(16), 0, wide, api.OK}, {slab.New(64), 4, x, api.OK},
		{trip(1), 0, x, api.ErrDown}, {trip(2), 0, x, api.ErrDown}, {trip(3), 0, x, api.OK},
	} {
		if h, e := host.Open(c.s, c.node, c.x); e != c.want || (h == nil) != (e != api.OK) {
			t.Errorf("%d: %v, %v, not %v", i, h, e, c.want)
		}
	}
}

// Promise 13.1: a new host whose text has no room, as the log has come to the end of its numbers: that of the greatest chart has.
func TestOpenFull(t *testing.T) {
	x := first(1, 24)
	for i := range x.L {
		x.L[i].ID += api.MaxShard - 24
	}
	x.Epoch, x.Next = api.MaxSeq, api.MaxShard+1
	if h := open(t, slab.New(16), x); len(h.Cores()) != 24 || h.Rows() != 8 {
		t.Errorf("%v", h.Cores())
	}
	s := slab.New(16)
	b, _ := cksum.Frame(vint.Num(1) + vint.Num(1<<40) + vint.Num(0) + vint.Num(1))
	s.Write(0, b)
	if h, e := host.Open(s, 0, x); h != nil || e != api.ErrFull || !slices.Equal(s.Loose(), []int{0}) {
		t.Errorf("Open: %v, %v", e, s.Loose())
	}
}

// some is a core that has some of everything.
func some(id int) api.Core {
	return api.Core{
		ID: id, Keys: api.Span{Lo: 100, Hi: 200}, Clock: 50,
		Held: []api.Wait{{M: move(1, 4, 150, 2000, 1), Time: 45}, {M: add(2, 1, 160, 4), Time: 41}},
		Base: []api.Pair{{Key: 100, Val: 5}, {Key: 199, Val: -7}},
		Log:  []api.Entry{{M: add(1, 1, 100, 2), Time: 10, Done: true}, {M: add(1, 3, 199, 1), Time: 41}},
		Known: []api.Known{
			{Client: 1, Seq: 1, Time: 10, Done: true}, {Client: 1, Seq: 3, Time: 41}, {Client: 9, Seq: 9, Time: 77, Done: true},
		},
	}
}

// asleep is a core that is sealed.
func asleep(id int) api.Core {
	c := some(id)
	c.Held, c.Frozen, c.Sealed = nil, true, true
	return c
}

// Promise 13.1: a stored host is that of its text and its records, whatever the first chart is.
func TestOpenStored(t *testing.T) {
	x := first(1, 5)
	r := func(r api.Rec) string { return rec.Record(r) }
	later, earlier, other := x, x, first(1, 4)
	x.Epoch, later.Epoch, earlier.Epoch, other.Epoch = 5, 6, 4, 6
	c, d, e, f := some(3), asleep(5), some(9), some(9)
	f.Clock = 99
	s := stored(t, 256, text(x, c, d),
		r(api.Rec{Kind: api.RecChart, Chart: later}), r(api.Rec{Kind: api.RecChart, Chart: earlier}),
		r(api.Rec{Kind: api.RecChart, Chart: other}), r(api.Rec{Kind: api.RecChart}),
		r(api.Rec{Kind: api.RecClock, Shard: 3, Time: 60}),
		r(api.Rec{Kind: api.RecShard, Core: e}), r(api.Rec{Kind: api.RecShard, Core: f}), r(api.Rec{Kind: api.RecShard, Shard: 3, Core: asleep(4)}),
		r(api.Rec{Kind: api.RecFinal, Shard: 9, Client: 2, Seq: 1, Time: 43}), r(api.Rec{Kind: api.RecFreeze, Shard: 9, Seq: 3}),
		r(api.Rec{Kind: api.RecWait, Shard: 3, Time: 61, M: add(5, 5, 180, 1)}))
	h := open(t, s, first(5, 7))
	c.Clock = 61
	c.Held = append(c.Held, api.Wait{M: add(5, 5, 180, 1), Time: 61})
	e, _ = core.Redo(e, api.Rec{Kind: api.RecFinal, Shard: 9, Client: 2, Seq: 1, Time: 43})
	e.Frozen = true
	if want := []api.Core{c, asleep(4), d, e}; !same(h.Cores(), want) {
		t.Errorf("%v, not\n%v", h.Cores(), want)
	}
	if !same(h.Chart(), later) || h.Down() || h.Rows() != 128-11 || h.Node() != 0 {
		t.Errorf("%v, %v, %d rows", h.Chart(), h.Down(), h.Rows())
	}
	if again, e := host.Open(s, 4, first(1, 1)); e != api.OK || !same(again.Cores(), h.Cores()) || !same(again.Chart(), h.Chart()) || again.Node() != 4 {
		t.Errorf("opened again: %v, %v", again, e)
	}
}

// Promise 13.1: a seal of one core, and of two.
func TestOpenSealed(t *testing.T) {
	x := first(1, 5)
	ready := func(id int) api.Core {
		c := asleep(id)
		c.Sealed = false
		return c
	}
	for _, c := range []struct {
		r    api.Rec
		want []bool
	}{
		{api.Rec{Shard: 2}, []bool{true, false, false}}, {api.Rec{Shard: 3, Seq: 2}, []bool{true, true, false}},
		{api.Rec{Shard: 3, Seq: 9}, []bool{false, true, true}}, {api.Rec{Shard: 9, Seq: 0, Client: 3, Time: 9}, []bool{false, false, true}},
	} {
		c.r.Kind = api.RecSeal
		h := open(t, stored(t, 256, text(x, ready(2), ready(3), ready(9)), rec.Record(c.r)), x)
		for i, l := range h.Cores() {
			if l.Sealed != c.want[i] {
				t.Errorf("%v: core %d is sealed: %v", c.r, l.ID, l.Sealed)
			}
		}
	}
}

// Promise 13.1: a text that is not that of a host.
func TestOpenText(t *testing.T) {
	x := first(1, 2)
	bad := some(3)
	bad.Held[0].Time = 51 // beyond the clock: it has bytes, but may not be
	ok := text(x, some(3), some(4))
	for i, s := range []string{
		"x", ok + "x", ok[:len(ok)-1], text(x, some(3), some(3)), text(x, some(4), some(3)), text(x, bad), text(api.Chart{}),
		text(api.Chart{}, some(3)), vint.Text(chart.Text(x)), vint.Text(chart.Text(x)) + vint.Num(1), vint.Text(chart.Text(x)) + vint.Num(0) + vint.Num(0),
		vint.Text(chart.Text(x)) + vint.Num(1) + vint.Text(""), vint.Text(chart.Text(x)) + vint.Num(1<<60) + vint.Text(rec.Core(some(3))),
		vint.Text(chart.Text(x)+"x") + vint.Num(0), vint.Text(chart.Text(x)) + vint.Num(1) + vint.Text(rec.Core(some(3))+"x"),
	} {
		for _, records := range [][]string{nil, {rec.Record(api.Rec{Kind: api.RecChart, Chart: x})}} {
			if h, e := host.Open(stored(t, 128, s, records...), 0, x); h != nil || e != api.ErrForm {
				t.Errorf("%d: %v, %v", i, h, e)
			}
		}
	}
	for _, s := range []string{ok, text(x), text(x, some(1)), text(x, some(api.MaxShard))} {
		if h, e := host.Open(stored(t, 128, s), 0, x); h == nil || e != api.OK {
			t.Errorf("%q: %v", s, e)
		}
	}
	for _, r := range []string{"", "x", rec.Record(api.Rec{Kind: api.RecChart, Chart: x}), rec.Record(api.Rec{Kind: api.RecShard, Core: some(3)})} {
		if h, e := host.Open(stored(t, 128, "", r), 0, x); h != nil || e != api.ErrForm {
			t.Errorf("no text, and the record %q: %v, %v", r, h, e)
		}
	}
}

// Promise 13.1: records that are none, or can't be applied.
func TestOpenRecords(t *testing.T) {
	x := first(1, 2)
	bad, ready := some(7), asleep(5)
	bad.Held[0].Time = 51
	ready.Sealed = false
	clock := rec.Record(api.Rec{Kind: api.RecClock, Shard: 3, Time: 60})
	for i, c := range []struct {
		r  string
		ok bool
	}{
		{"", false}, {"x", false}, {clock + "x", false}, {clock[1:], false}, {"\x08" + clock[1:], false},
		{rec.Record(api.Rec{Kind: api.RecShard}), false}, {rec.Record(api.Rec{Kind: api.RecShard, Core: bad}), false},
		{rec.Record(api.Rec{Kind: api.RecClock, Shard: 2, Time: 60}), false}, {rec.Record(api.Rec{Kind: api.RecClock, Time: 60}), false},
		{rec.Record(api.Rec{Kind: api.RecClock, Shard: 4, Time: 60}), false}, {rec.Record(api.Rec{Kind: api.RecWait, Shard: 3, Time: 50, M: add(7, 7, 150, 1)}), false},
		{rec.Record(api.Rec{Kind: api.RecFinal, Shard: 3, Client: 2, Seq: 1, Time: 40}), false}, {rec.Record(api.Rec{Kind: api.RecSeal, Shard: 3}), false},
		{rec.Record(api.Rec{Kind: api.RecSeal, Shard: 5, Seq: 3}), false}, {rec.Record(api.Rec{Kind: api.RecSeal, Shard: 3, Seq: 5}), false},
		{rec.Record(api.Rec{Kind: api.RecSeal, Shard: 5, Seq: 8}), false}, {rec.Record(api.Rec{Kind: api.RecSeal, Shard: 5, Seq: 5}), false},
		{rec.Record(api.Rec{Kind: api.RecSeal, Shard: 4}), false}, {rec.Record(api.Rec{Kind: api.RecFreeze, Shard: 4}), false},
		{rec.Record(api.Rec{Kind: api.RecSeal, Shard: 5}), true}, {rec.Record(api.Rec{Kind: api.RecFreeze, Shard: 5}), true}, {clock, true},
		{rec.Record(api.Rec{Kind: api.RecWait, Shard: 3, Time: 61, M: add(7, 7, 150, 1)}), true}, {rec.Record(api.Rec{Kind: api.RecChart}), true},
	} {
		want := api.ErrForm
		if c.ok {
			want = api.OK
		}
		for _, l := range [][]string{{c.r}, {clock, c.r}, {c.r, clock}} {
			if h, e := host.Open(stored(t, 128, text(x, some(3), asleep(4), ready), l...), 0, x); e != want || (h == nil) == c.ok {
				t.Errorf("%d: %v, %v, not %v", i, h, e, want)
			}
		}
	}
}

// Promises 13.1 to 13.3: a nil host.
func TestNil(t *testing.T) {
	var h *host.Host
	for kind := range 15 {
		if l, e := h.Take(api.Note{Kind: kind, To: 1}); l != nil || e != api.ErrArg {
			t.Errorf("Take of kind %d: %v, %v", kind, l, e)
		}
	}
	if l, e := h.Tick(); l != nil || e != api.ErrArg {
		t.Errorf("Tick: %v, %v", l, e)
	}
	if !h.Down() || h.Node() != 0 || h.Rows() != 0 || h.Cores() != nil || !same(h.Chart(), api.Chart{}) {
		t.Errorf("%v, %v, %v, %v, %v", h.Down(), h.Node(), h.Rows(), h.Cores(), h.Chart())
	}
}

// Promises 13.1 and 13.2: the chapter's example.
func TestExample(t *testing.T) {
	s := slab.New(64)
	x := first(1, 1)
	h := open(t, s, x)
	m := put(1, 1, api.Pair{Key: 5, Val: 7})
	tells(t, h, push(1, m), ack(1, m, 1, true))
	s.Fail(api.Loss{Torn: -1})
	s.Wake()
	if c := open(t, s, x).Cores(); len(c) != 1 || len(c[0].Log) != 1 {
		t.Errorf("opened again: %v", c)
	}
}

// Promise 13.2: a push: what it makes is stored, and told; a time below 0 is 0.
func TestPush(t *testing.T) {
	s, h := fresh(t, 128)
	x := first(2, 3)
	m, n, o := put(1, 1, api.Pair{Key: 5, Val: 7}), add(1, 2, 5, -9), move(2, 1, 5, 2000, 1)
	tells(t, h, push(1, m), ack(1, m, 1, true))
	p := push(1, n)
	p.Time, p.Client, p.From, p.Seq = 20, 99, 98, 97
	tells(t, h, p, ack(1, n, 21, false))
	tells(t, h, p, ack(1, n, 21, false))
	p = push(1, o)
	p.Time = -1
	tells(t, h, p, prop(1, 2, o, 22, true))
	tells(t, h, p)
	p.Time = math.MinInt
	tells(t, h, p)
	empty := open(t, slab.New(64), x).Cores()
	holds(t, s, text(x, empty...),
		api.Rec{Kind: api.RecWait, Shard: 1, Time: 1, M: m}, api.Rec{Kind: api.RecFinal, Shard: 1, Client: 1, Seq: 1, Time: 1},
		api.Rec{Kind: api.RecWait, Shard: 1, Time: 21, M: n}, api.Rec{Kind: api.RecFinal, Shard: 1, Client: 1, Seq: 2, Time: 21},
		api.Rec{Kind: api.RecWait, Shard: 1, Time: 22, M: o})
	if h.Rows() != 59 || len(s.Loose()) > 0 || len(at(t, h, 1).Log) != 2 || len(at(t, h, 1).Held) != 1 || !same(at(t, h, 3), empty[1]) {
		t.Errorf("%d rows, %v loose, %v", h.Rows(), s.Loose(), h.Cores())
	}
}

// Promise 13.2: what comes for a core that is not here, or does nothing more: the sender is told the chart.
func TestAway(t *testing.T) {
	_, h := fresh(t, 128)
	x := first(2, 3)
	m := put(7, 1, api.Pair{Key: 2000, Val: 7})
	told := func(to, client int) api.Note {
		return api.Note{Kind: api.NoteChart, To: to, Client: client, Chart: x}
	}
	takes(t, h, api.Note{Kind: api.NoteFreeze, To: 3})
	takes(t, h, api.Note{Kind: api.NoteSeal, To: 3})
	here := put(7, 1, api.Pair{Key: 3000, Val: 7})
	for _, to := range []int{2, 3, 0, -1, 4, api.MaxShard, math.MaxInt, math.MinInt} {
		p := push(to, here)
		p.From, p.Client = 9, 8
		tells(t, h, p, told(0, 7))
		n := prop(2, to, here, 9, true)
		n.Client = 5
		tells(t, h, n, told(2, 0))
		tells(t, h, api.Note{Kind: api.NoteFinal, From: 6, To: to, Client: 7, Seq: 1, Time: 3}, told(6, 0))
	}
	tells(t, h, push(1, m), told(0, 7))                                           // 1 is no part of it
	tells(t, h, prop(2, 1, m, 9, false), told(2, 0))                              // nor here
	tells(t, h, push(9, api.Mut{Client: -5}), told(0, -5))                        // asked of none, a mutation may be anything
	tells(t, h, api.Note{Kind: api.NoteProp, From: -9, To: 77}, told(-9, 0))      // and so may a sender
	refuses(t, h, api.Note{Kind: api.NoteFinal, From: 6, To: 1}, api.ErrNone)     // that is here, but holds none
	refuses(t, h, prop(2, 3, api.Mut{}, 9, false), api.ErrArg)                    // errors of the arguments are first
	refuses(t, h, push(3, api.Mut{Client: 1, Seq: 1, Kind: 9}), api.ErrArg)       // also where nothing is done any more
	refuses(t, h, prop(0, 1, put(1, 1, api.Pair{Key: 5}), 9, false), api.ErrArg)  // a shard 0 gave nothing
	refuses(t, h, prop(2, 1, put(1, 1, api.Pair{Key: 5}), -1, false), api.ErrArg) // a time below 0 is that of a push, or a pull
	if n := len(at(t, h, 1).Known); n != 0 || h.Rows() != 62 {
		t.Errorf("%d known, %d rows", n, h.Rows())
	}
}

// Promise 13.2: errors of a core.
func TestPushErrors(t *testing.T) {
	_, h := fresh(t, 128)
	m := put(1, 1, api.Pair{Key: 5, Val: 7})
	refuses(t, h, push(1, api.Mut{}), api.ErrArg)
	late := push(1, m)
	late.Time = api.MaxTime + 1
	refuses(t, h, late, api.ErrArg)
	late.Time = api.MaxTime
	refuses(t, h, late, api.ErrLong)
	takes(t, h, api.Note{Kind: api.NoteFreeze, To: 1})
	refuses(t, h, push(1, m), api.ErrBusy)
	late.Time = math.MaxInt
	refuses(t, h, late, api.ErrArg)
	full := some(9)
	full.Held, full.Keys = nil, api.Span{Lo: 0, Hi: 1365}
	for i := range 997 {
		full.Known = append(full.Known, api.Known{Client: 10, Seq: i + 1})
	}
	x := first(1, 3)
	x.L[0].ID, x.Next, x.Epoch = 9, 10, 2
	_, h = fresh(t, 512)
	takes(t, h, api.Note{Kind: api.NoteChart, Chart: x})
	takes(t, h, api.Note{Kind: api.NoteShard, Cores: []api.Core{full}})
	refuses(t, h, push(9, add(11, 1, 5, 1)), api.ErrFull)
}

// Promise 13.2: proposals and final times; what peers gave is kept, but not stored.
func TestProp(t *testing.T) {
	s, h := fresh(t, 128)
	m := put(1, 1, api.Pair{Key: 5, Val: 7}, api.Pair{Key: 2000, Val: 1}, api.Pair{Key: 3000, Val: 2})
	tells(t, h, prop(2, 1, m, 9, true), prop(1, 2, m, 1, true), prop(1, 3, m, 1, true), prop(1, 2, m, 1, false))
	rows := h.Rows()
	tells(t, h, prop(2, 1, m, 8, false))
	if l := at(t, h, 1).Held; len(l) != 1 || !same(l[0].Peers, []api.Peer{{Shard: 2, Time: 8}}) || h.Rows() != rows || rows != 63 {
		t.Errorf("%v, %d rows", l, h.Rows())
	}
	again := open(t, s, first(2, 3))
	if l := at(t, again, 1).Held; len(l) != 1 || len(l[0].Peers) > 0 || !same(again.Cores(), bare(h.Cores())) {
		t.Errorf("opened again: %v", l)
	}
	tells(t, h, prop(1, 3, m, 1, false), prop(3, 1, m, 1, true), prop(3, 2, m, 1, true))
	tells(t, h, prop(3, 1, m, 4, false), ack(1, m, 8, true))
	final := api.Note{Kind: api.NoteFinal, From: 2, To: 3, Client: 1, Seq: 1, Time: 8}
	tells(t, h, final, ack(3, m, 8, true))
	refuses(t, h, final, api.ErrNone)
	tells(t, h, prop(2, 3, m, 9, true), api.Note{Kind: api.NoteFinal, From: 3, To: 2, Client: 1, Seq: 1, Time: 8})
	if h.Rows() != 60 || at(t, h, 1).Clock != 8 || at(t, h, 3).Clock != 8 {
		t.Errorf("%d rows, %v", h.Rows(), h.Cores())
	}
}

// Promise 13.2: a pull lets the clock go on, and is answered by entries.
func TestPull(t *testing.T) {
	s, h := fresh(t, 128)
	pull := func(to, time, n int) api.Note {
		return api.Note{Kind: api.NotePull, To: to, Client: 4, Time: time, N: n}
	}
	page := func(time, n int, l ...api.Entry) api.Note {
		return api.Note{Kind: api.NotePage, From: 1, Client: 4, Time: time, N: n, Entries: l}
	}
	tells(t, h, pull(1, 5, 0), page(5, 0))
	m, n := put(1, 1, api.Pair{Key: 5, Val: 7}), add(4, 1, 5, -9)
	takes(t, h, push(1, m))
	takes(t, h, push(1, n))
	l := []api.Entry{{M: m, Time: 6, Done: true}, {M: n, Time: 7}}
	rows := h.Rows()
	for _, time := range []int{0, 6, 7, -1, math.MinInt, api.MaxTime + 1, math.MaxInt} {
		tells(t, h, pull(1, time, 0), page(7, 0, l...))
		tells(t, h, pull(1, time, 1), page(7, 1, l[1]))
		tells(t, h, pull(1, time, 2), page(7, 2))
	}
	if h.Rows() != rows || at(t, h, 1).Clock != 7 {
		t.Errorf("%d rows, not %d: %v", h.Rows(), rows, h.Cores())
	}
	tells(t, h, pull(1, 8, 2), page(8, 2))
	if h.Rows() != rows-1 || at(t, h, 1).Clock != 8 || at(t, open(t, s, first(2, 3)), 1).Clock != 8 {
		t.Errorf("%d rows, not %d: %v", h.Rows(), rows-1, h.Cores())
	}
	takes(t, h, push(1, move(6, 1, 5, 2000, 1)))
	tells(t, h, pull(1, 20, 1), page(8, 1, l[1])) // the floor, not the clock
	for _, to := range []int{2, 9, 0, -1, math.MaxInt} {
		tells(t, h, pull(to, 99, 0), api.Note{Kind: api.NoteChart, Client: 4, Chart: first(2, 3)})
	}
	takes(t, h, api.Note{Kind: api.NoteFreeze, To: 3})
	tells(t, h, pull(3, 30, 0), api.Note{Kind: api.NotePage, From: 3, Client: 4, Time: 30})
	takes(t, h, api.Note{Kind: api.NoteSeal, To: 3})
	tells(t, h, pull(3, 99, 0), api.Note{Kind: api.NoteChart, Client: 4, Chart: first(2, 3)})
}

// Promise 13.2: a pull of no place in the log is answered by the state at the floor.
func TestPullState(t *testing.T) {
	c := some(3)
	c.Log = append(c.Log, api.Entry{M: put(2, 2, api.Pair{Key: 199, Val: 9}), Time: 45, Done: true})
	c.Known = slices.Insert(c.Known, 2, api.Known{Client: 2, Seq: 2, Time: 45, Done: true})
	c.Held = []api.Wait{{M: move(3, 4, 150, 2000, 1), Time: 45}}
	h := open(t, stored(t, 128, text(first(1, 2), c)), first(1, 2))
	for _, x := range []struct {
		client int
		known  []api.Known
	}{
		{1, c.Known[:2]}, {2, c.Known[2:3]}, {9, c.Known[3:]}, {3, nil}, {0, nil}, {-1, nil},
	} {
		for _, n := range []int{-1, 4, math.MinInt, math.MaxInt} {
			tells(t, h, api.Note{Kind: api.NotePull, To: 3, Client: x.client, N: n}, api.Note{
				Kind: api.NoteState, From: 3, Client: x.client, Time: 44, N: 2,
				Pairs: []api.Pair{{Key: 100, Val: 7}, {Key: 199, Val: -7}}, Known: x.known,
			})
		}
	}
	tells(t, h, api.Note{Kind: api.NotePull, To: 3, Client: 1, N: 3}, api.Note{Kind: api.NotePage, From: 3, Client: 1, Time: 44, N: 3})
	takes(t, h, api.Note{Kind: api.NoteFinal, To: 3, Client: 3, Seq: 4, Time: 50})
	tells(t, h, api.Note{Kind: api.NotePull, To: 3, N: -1}, api.Note{
		Kind: api.NoteState, From: 3, Time: 50, N: 4, Pairs: []api.Pair{{Key: 100, Val: 7}, {Key: 150, Val: -1}, {Key: 199, Val: 9}},
	})
}

// Promise 13.2: a chart of a later epoch is known from then on.
func TestChart(t *testing.T) {
	s, h := fresh(t, 128)
	x := first(2, 3)
	y, _, _, _ := chart.Apply(x, api.Change{Kind: api.Split, ID: 2, At: 2000})
	bad := first(2, 3)
	bad.Epoch, bad.Next = 9, 3
	same1 := first(3, 3)
	refuses(t, h, api.Note{Kind: api.NoteChart}, api.ErrArg)
	refuses(t, h, api.Note{Kind: api.NoteChart, Chart: bad}, api.ErrArg)
	tells(t, h, api.Note{Kind: api.NoteChart, Chart: x})
	tells(t, h, api.Note{Kind: api.NoteChart, Chart: same1})
	if !same(h.Chart(), x) || h.Rows() != 64 {
		t.Errorf("%v, %d rows", h.Chart(), h.Rows())
	}
	tells(t, h, api.Note{Kind: api.NoteChart, Chart: y})
	tells(t, h, api.Note{Kind: api.NoteChart, Chart: x})
	if !same(h.Chart(), y) || h.Rows() != 63 || !same(open(t, s, x).Chart(), y) {
		t.Errorf("%v, %d rows", h.Chart(), h.Rows())
	}
	m := put(1, 1, api.Pair{Key: 5}, api.Pair{Key: 2001})
	tells(t, h, push(1, m), prop(1, 5, m, 1, true)) // the chart is that of the steps, too
	holds(t, s, text(x, open(t, slab.New(64), x).Cores()...), api.Rec{Kind: api.RecChart, Chart: y}, api.Rec{Kind: api.RecWait, Shard: 1, Time: 1, M: m})
	refuses(t, h, api.Note{Kind: api.NoteChart, Chart: bad}, api.ErrArg)
}

// Promise 13.2: a freeze.
func TestFreeze(t *testing.T) {
	s, h := fresh(t, 128)
	freeze := func(to int) api.Note { return api.Note{Kind: api.NoteFreeze, To: to} }
	for _, to := range []int{2, 0, -1, math.MaxInt} {
		refuses(t, h, freeze(to), api.ErrNone)
	}
	tells(t, h, freeze(3))
	tells(t, h, freeze(3))
	if !at(t, h, 3).Frozen || at(t, h, 1).Frozen || h.Rows() != 63 || !at(t, open(t, s, first(2, 3)), 3).Frozen {
		t.Errorf("%v, %d rows", h.Cores(), h.Rows())
	}
	takes(t, h, api.Note{Kind: api.NoteSeal, To: 3})
	tells(t, h, freeze(3))
}

// Promise 13.2: a seal of one core, or of two at once.
func TestSeal(t *testing.T) {
	x := first(1, 4)
	seal := func(to, n int) api.Note { return api.Note{Kind: api.NoteSeal, To: to, N: n} }
	for _, to := range []int{0, 5, -1, math.MaxInt} {
		h := open(t, slab.New(128), x)
		refuses(t, h, seal(to, 0), api.ErrNone)
		refuses(t, h, seal(to, 1), api.ErrNone)
		takes(t, h, api.Note{Kind: api.NoteFreeze, To: 1})
		if to > 0 {
			refuses(t, h, seal(1, to), api.ErrNone)
			refuses(t, h, seal(2, to), api.ErrNone) // ahead of being busy
		} else {
			takes(t, h, seal(1, to))
		}
	}
	s := slab.New(128)
	h := open(t, s, x)
	refuses(t, h, seal(1, 0), api.ErrBusy)
	refuses(t, h, seal(1, 2), api.ErrBusy)
	for id := range 4 {
		takes(t, h, api.Note{Kind: api.NoteFreeze, To: id + 1})
	}
	one := takes(t, h, seal(3, 0))
	if want := []api.Note{{Kind: api.NoteSealed, From: 3, Cores: []api.Core{at(t, h, 3)}}}; !same(one, want) || !at(t, h, 3).Sealed || at(t, h, 1).Sealed {
		t.Errorf("%v, not %v", one, want)
	}
	tells(t, h, seal(3, 0), one...)
	two := takes(t, h, seal(4, 2))
	if want := []api.Note{{Kind: api.NoteSealed, From: 4, Cores: []api.Core{at(t, h, 4), at(t, h, 2)}}}; !same(two, want) || !at(t, h, 2).Sealed || !at(t, h, 4).Sealed {
		t.Errorf("%v, not %v", two, want)
	}
	tells(t, h, seal(4, 2), two...)
	left := takes(t, h, seal(3, 1)) // one of the two
	if want := []api.Note{{Kind: api.NoteSealed, From: 3, Cores: []api.Core{at(t, h, 3), at(t, h, 1)}}}; !same(left, want) || !at(t, h, 1).Sealed {
		t.Errorf("%v, not %v", left, want)
	}
	_, _, l, _ := wal.Open(s)
	var seals []api.Rec
	for _, b := range l {
		if r, _ := rec.ReadRecord(b); r.Kind == api.RecSeal {
			seals = append(seals, r)
		}
	}
	want := []api.Rec{{Kind: api.RecSeal, Shard: 3}, {Kind: api.RecSeal, Shard: 4, Seq: 2}, {Kind: api.RecSeal, Shard: 1}}
	if !same(seals, want) || len(l) != 7 || !same(open(t, s, x).Cores(), h.Cores()) {
		t.Errorf("%v, not %v", seals, want)
	}
}

// Promise 13.2: what is held keeps a core, and both of two, from being sealed; one that is named twice is one.
func TestSealBusy(t *testing.T) {
	s, h := fresh(t, 128)
	seal := func(to, n int) api.Note { return api.Note{Kind: api.NoteSeal, To: to, N: n} }
	m := move(1, 1, 5, 2000, 1)
	takes(t, h, push(1, m))
	takes(t, h, api.Note{Kind: api.NoteFreeze, To: 1})
	takes(t, h, api.Note{Kind: api.NoteFreeze, To: 3})
	for _, n := range []api.Note{seal(1, 0), seal(1, 3), seal(3, 1), seal(1, 1)} {
		refuses(t, h, n, api.ErrBusy)
	}
	takes(t, h, prop(2, 1, m, 6, false))
	rows := h.Rows()
	l := takes(t, h, seal(1, 1))
	if !same(l, []api.Note{{Kind: api.NoteSealed, From: 1, Cores: []api.Core{at(t, h, 1)}}}) || h.Rows() != rows-1 || len(at(t, h, 1).Log) != 1 {
		t.Errorf("%v, %d rows", l, h.Rows())
	}
	if again := open(t, s, first(2, 3)); !same(again.Cores(), h.Cores()) {
		t.Errorf("opened again: %v, not %v", again.Cores(), h.Cores())
	}
}

// Promise 13.2: cores that begin; those that are here already stay as they are.
func TestShard(t *testing.T) {
	s, h := fresh(t, 128)
	begun := func(id int) api.Note { return api.Note{Kind: api.NoteBegun, From: id} }
	shard := func(l ...api.Core) api.Note { return api.Note{Kind: api.NoteShard, Cores: l} }
	tells(t, h, shard())
	c, other := some(9), some(9)
	other.Clock = 99
	tells(t, h, shard(some(7), c), begun(7), begun(9))
	if h.Rows() != 62 {
		t.Errorf("%d rows", h.Rows())
	}
	tells(t, h, shard(other, some(1)), begun(9), begun(1))
	tells(t, h, shard(some(8), some(8), other, some(8)), begun(8), begun(8), begun(9), begun(8))
	if l := h.Cores(); len(l) != 5 || !same(l[2:], []api.Core{some(7), some(8), c}) || l[0].Clock != 0 || h.Rows() != 61 {
		t.Errorf("%v, %d rows", l, h.Rows())
	}
	if again := open(t, s, first(2, 3)); !same(again.Cores(), h.Cores()) {
		t.Errorf("opened again: %v, not %v", again.Cores(), h.Cores())
	}
	_, _, l, _ := wal.Open(s)
	if len(l) != 3 || l[1] != rec.Record(api.Rec{Kind: api.RecShard, Core: c}) {
		t.Errorf("%q", l)
	}
	bad, frozen := some(12), some(13)
	bad.Clock, frozen.Frozen = 1, true
	for _, x := range []api.Core{bad, frozen, asleep(14), {}, asleep(9)} {
		refuses(t, h, shard(x), api.ErrArg)
		refuses(t, h, shard(some(11), x), api.ErrArg)
		refuses(t, h, shard(x, some(11)), api.ErrArg)
	}
	peers := some(15)
	peers.Held[0].Peers = []api.Peer{{Shard: 2, Time: 9}}
	tells(t, h, shard(peers), begun(15))
	if !same(at(t, h, 15), peers) || !same(at(t, open(t, s, first(2, 3)), 15), some(15)) {
		t.Errorf("%v", at(t, h, 15))
	}
}

// Promise 13.2: notes that are not for a host.
func TestOtherKinds(t *testing.T) {
	s, h := fresh(t, 128)
	for _, kind := range []int{0, api.NoteAck, api.NotePage, api.NoteState, api.NoteSealed, api.NoteBegun, 14, -1, math.MaxInt, math.MinInt} {
		refuses(t, h, api.Note{Kind: kind, To: 1, Client: 1}, api.ErrArg)
	}
	s.Fail(api.Loss{Torn: -1})
	for kind := range 15 {
		refuses(t, h, api.Note{Kind: kind, To: 1}, api.ErrDown)
	}
}

// Promise 13.3: a tick comes to each core that is not sealed, by their numbers.
func TestTick(t *testing.T) {
	x := first(1, 2)
	x.L[0].ID, x.L[1].ID, x.Next = 6, 4, 7
	h := open(t, slab.New(128), x)
	if l, e := h.Tick(); len(l) != 0 || e != api.OK || h.Rows() != 64 {
		t.Errorf("%v, %v", l, e)
	}
	m, n := move(1, 1, 5, 4000, 1), move(1, 2, 4000, 5, 1)
	takes(t, h, push(6, m))
	takes(t, h, push(4, n))
	takes(t, h, push(6, n))
	want := []api.Note{prop(4, 6, n, 1, true), prop(6, 4, m, 1, true), prop(6, 4, n, 2, true)}
	for range 2 {
		if l, e := h.Tick(); !same(l, want) || e != api.OK || h.Rows() != 61 {
			t.Errorf("%v, %v, not %v", l, e, want)
		}
	}
	h = open(t, stored(t, 128, text(x, asleep(4))), x)
	if l, e := h.Tick(); len(l) != 0 || e != api.OK {
		t.Errorf("sealed: %v, %v", l, e)
	}
}

// waiting is a core that holds so many mutations back that a tick makes final, at a chart of the one shard.
func waiting(id, n, client int) api.Core {
	c := api.Core{ID: id, Keys: api.Span{Hi: api.MaxKey}, Clock: 500}
	for i := range n {
		c.Held = append(c.Held, api.Wait{M: add(client, i+1, 5, 1), Time: i + 1})
	}
	return c
}

// alone is the chart of one shard.
func alone(id int) api.Chart {
	return api.Chart{Epoch: 1, Next: id + 1, L: []api.Shard{{ID: id, Keys: api.Span{Hi: api.MaxKey}}}}
}

// acks are those of what waited.
func acks(id, n, client int) (l []api.Note) {
	for i := range n {
		l = append(l, ack(id, add(client, i+1, 5, 1), i+1, true))
	}
	return l
}

// Promise 13.3: what a tick makes is stored; where one core fails, the others go on, and its error is told beside their notes.
func TestTickErrors(t *testing.T) {
	x := alone(6)
	bad := some(2) // peers of it gave what may not be
	bad.Keys = api.Span{Hi: api.MaxKey}
	y := first(1, 2)
	y.L[0].ID, y.L[1].ID, y.Next, y.Epoch = 2, 6, 7, 2
	bad.Held = []api.Wait{{M: move(3, 1, 5, 4000, 1), Time: 45, Peers: []api.Peer{{Shard: 6, Time: api.MaxTime + 1}}}}
	s := stored(t, 128, text(x, waiting(6, 3, 1)))
	h := open(t, s, x)
	if l, e := h.Tick(); !same(l, acks(6, 3, 1)) || e != api.OK || h.Rows() != 61 || !same(open(t, s, x).Cores(), h.Cores()) {
		t.Errorf("%v, %v, %d rows", l, e, h.Rows())
	}
	c := waiting(6, 2, 1)
	for i := range c.Held {
		c.Held[i].M.Pairs[0].Key = 4000
	}
	c.Keys, bad.Keys = api.Span{Lo: 2048, Hi: api.MaxKey}, api.Span{Hi: 2048}
	h = open(t, stored(t, 128, text(y, c)), y)
	takes(t, h, api.Note{Kind: api.NoteShard, Cores: []api.Core{bad}})
	if l, e := h.Tick(); !same(l, acks(6, 2, 1)) || e != api.ErrArg || len(at(t, h, 6).Log) != 2 || !same(at(t, h, 2), bad) || h.Down() {
		t.Errorf("%v, %v, %v", l, e, h.Cores())
	}
}

// Promise 13.3: the first error of a tick counts, though the host is down at the end; no core behind that is asked.
func TestTickDown(t *testing.T) {
	many, few := waiting(6, 9, 1), waiting(6, 2, 1) // 8 rows have no room for nine records
	for _, c := range []struct {
		cores []api.Core
		trip  int
		notes []api.Note
		want  api.Errno
		done  []int // entries
	}{
		{[]api.Core{few}, 0, acks(6, 2, 1), api.OK, []int{2}},
		{[]api.Core{many}, 1, nil, api.ErrFull, []int{0}},
		{[]api.Core{few}, 1, nil, api.ErrDown, []int{0}},
		{[]api.Core{few}, 2, nil, api.ErrDown, []int{0}},
		{[]api.Core{few}, 3, nil, api.ErrDown, []int{0}},
		{[]api.Core{few}, 4, acks(6, 2, 1), api.OK, []int{2}},
	} {
		s := stored(t, 16, text(alone(6), c.cores...))
		h := open(t, s, alone(6))
		s.Trip(c.trip, api.Loss{Torn: -1})
		l, e := h.Tick()
		if !same(l, c.notes) || e != c.want || h.Down() != (e == api.ErrDown) {
			t.Errorf("trip %d: %v, %v, not %v, %v", c.trip, l, e, c.notes, c.want)
		}
		for i, n := range c.done {
			if got := len(h.Cores()[i].Log); got != n {
				t.Errorf("trip %d: core %d has %d entries, not %d", c.trip, i, got, n)
			}
		}
	}
	x := first(1, 3) // three cores, each with one that is final at a tick, and the last one with a question, too
	var l []api.Core
	for i, p := range x.L {
		c := api.Core{ID: p.ID, Keys: p.Keys, Clock: 9, Held: []api.Wait{{M: put(i+1, 1, api.Pair{Key: p.Keys.Lo}), Time: 1}}}
		if i == 2 {
			c.Held[0].M = move(3, 1, 4000, 5, 1)
		}
		l = append(l, c)
	}
	for trip := range 6 {
		s := stored(t, 64, text(x, l...))
		h := open(t, s, x)
		s.Trip(trip, api.Loss{Torn: -1})
		all := []api.Note{ack(1, l[0].Held[0].M, 1, true), ack(2, l[1].Held[0].M, 1, true), prop(3, 1, l[2].Held[0].M, 1, true)}
		want, e := all, api.OK
		if trip == 1 || trip == 2 {
			want, e = nil, api.ErrDown
		} else if trip == 3 || trip == 4 {
			want, e = all[:1], api.ErrDown
		}
		if got, f := h.Tick(); !same(got, want) || f != e {
			t.Errorf("trip %d: %v, %v, not %v, %v", trip, got, f, want, e)
		}
	}
}

// Promise 13.3: a host is down when its slab is, or was when it was called.
func TestDown(t *testing.T) {
	s, h := fresh(t, 128)
	m := put(1, 1, api.Pair{Key: 5, Val: 7})
	takes(t, h, push(1, m))
	was := h.Cores()
	s.Fail(api.Loss{Torn: -1})
	if !h.Down() || !same(h.Cores(), was) || h.Rows() != 62 || h.Chart().Epoch != 1 {
		t.Errorf("%v, %v", h.Down(), h.Cores())
	}
	if l, e := h.Tick(); l != nil || e != api.ErrDown {
		t.Errorf("Tick: %v, %v", l, e)
	}
	s.Wake()
	refuses(t, h, push(1, m), api.ErrDown)
	if l, e := h.Tick(); l != nil || e != api.ErrDown || !h.Down() {
		t.Errorf("Tick: %v, %v", l, e)
	}
	h = open(t, s, first(2, 3))
	s.Trip(2, api.Loss{Torn: -1})
	if l, e := h.Take(push(1, add(1, 2, 5, 1))); l != nil || e != api.ErrDown || !h.Down() || !same(h.Cores(), was) {
		t.Errorf("tripped: %v, %v, %v", l, e, h.Cores())
	}
	s.Wake()
	if !h.Down() {
		t.Errorf("up again")
	}
	refuses(t, h, api.Note{Kind: api.NotePull, To: 2}, api.ErrDown)
	if again := open(t, s, first(2, 3)); again.Down() || !same(again.Cores(), was) {
		t.Errorf("opened again: %v", again.Cores())
	}
}

// Promise 13.2: a pull whose clock can't be stored.
func TestPullDown(t *testing.T) {
	s, h := fresh(t, 128)
	s.Trip(2, api.Loss{Torn: -1})
	if l, e := h.Take(api.Note{Kind: api.NotePull, To: 1, Time: 5}); l != nil || e != api.ErrDown || !h.Down() {
		t.Errorf("%v, %v", l, e)
	}
}

// Promise 13.2: when no rows are left, the text is kept ahead of the records.
func TestKeep(t *testing.T) {
	s := slab.New(16)
	x := first(1, 1)
	h := open(t, s, x)
	for i := range 4 {
		takes(t, h, push(1, add(1, i+1, 5, 1)))
	}
	was := h.Cores()
	if h.Rows() != 0 {
		t.Fatalf("%d rows", h.Rows())
	}
	takes(t, h, api.Note{Kind: api.NotePull, To: 1, N: -1})
	takes(t, h, api.Note{Kind: api.NoteFreeze, To: 1})
	holds(t, s, text(x, was...), api.Rec{Kind: api.RecFreeze, Shard: 1})
	if h.Rows() != 7 || !same(open(t, s, x).Cores(), h.Cores()) {
		t.Errorf("%d rows, %v", h.Rows(), h.Cores())
	}
	s = slab.New(16)
	h = open(t, s, x)
	for i := range 3 {
		takes(t, h, push(1, add(1, i+1, 5, 1)))
	}
	takes(t, h, api.Note{Kind: api.NotePull, To: 1, Time: 9})
	takes(t, h, push(1, put(9, 1, api.Pair{Key: 5, Val: 7}))) // two records, but one row
	if h.Rows() != 6 || !same(open(t, s, x).Cores(), h.Cores()) {
		t.Errorf("%d rows, %v", h.Rows(), h.Cores())
	}
}

// Promise 13.2: what is too much for the log is refused, and changes nothing.
func TestFull(t *testing.T) {
	s := stored(t, 16, text(alone(6), waiting(6, 9, 1)))
	h := open(t, s, alone(6))
	takes(t, h, api.Note{Kind: api.NotePull, To: 6, Time: 501})
	was := h.Cores()
	if l, e := h.Tick(); l != nil || e != api.ErrFull || h.Rows() != 7 || !same(h.Cores(), was) { // more rows than there are
		t.Errorf("%v, %v, %d rows", l, e, h.Rows())
	}
	big := some(7)
	for i := range 150 {
		big.Known = append(big.Known, api.Known{Client: 10, Seq: 1000 + i})
	}
	if n := len(rec.Record(api.Rec{Kind: api.RecShard, Core: big})); n <= 800 || n > 1400 {
		t.Fatalf("%d bytes", n)
	}
	shard := api.Note{Kind: api.NoteShard, Cores: []api.Core{big}}
	takes(t, h, shard)
	for h.Rows() > 0 {
		takes(t, h, api.Note{Kind: api.NotePull, To: 6, Time: at(t, h, 6).Clock + 1})
	}
	refuses(t, h, api.Note{Kind: api.NoteShard, Cores: []api.Core{some(8)}}, api.ErrFull) // the text is too long
	refuses(t, h, api.Note{Kind: api.NotePull, To: 6, Time: 9999}, api.ErrFull)
	refuses(t, h, api.Note{Kind: api.NoteFreeze, To: 6}, api.ErrFull)
	refuses(t, h, push(6, put(9, 9, api.Pair{Key: 1})), api.ErrFull)
	y := alone(6)
	y.Epoch = 2
	refuses(t, h, api.Note{Kind: api.NoteChart, Chart: y}, api.ErrFull)
	if l, e := h.Tick(); l != nil || e != api.ErrFull || h.Down() || !same(open(t, s, alone(6)).Cores(), h.Cores()) {
		t.Errorf("%v, %v", l, e)
	}
	s.Trip(1, api.Loss{Torn: -1})
	refuses(t, h, api.Note{Kind: api.NoteFreeze, To: 6}, api.ErrFull) // the slab is not asked
	takes(t, h, api.Note{Kind: api.NotePull, To: 6})                  // what needs no records goes on
}

// Promise 13.2: a seal that can't be stored leaves both cores as they were.
func TestSealFull(t *testing.T) {
	a, b := some(3), some(4)
	a.Held, b.Held, a.Frozen, b.Frozen = nil, nil, true, true
	for i := range 200 {
		a.Known = append(a.Known, api.Known{Client: 10, Seq: 1000 + i})
	}
	x := first(1, 2)
	s := stored(t, 16, text(x, b), rec.Record(api.Rec{Kind: api.RecShard, Core: a}))
	h := open(t, s, x)
	for n := 1; h.Rows() > 0; n++ {
		y := x
		y.Epoch += n
		takes(t, h, api.Note{Kind: api.NoteChart, Chart: y})
	}
	refuses(t, h, api.Note{Kind: api.NoteSeal, To: 3, N: 4}, api.ErrFull)
	refuses(t, h, api.Note{Kind: api.NoteSeal, To: 4}, api.ErrFull)
}

// sized is a core that begins by a record of so many bytes.
func sized(t *testing.T, id, bytes int) api.Core {
	t.Helper()
	c := api.Core{ID: id, Keys: api.Span{Hi: api.MaxKey}}
	size := func() int { return len(rec.Record(api.Rec{Kind: api.RecShard, Core: c})) }
	for k := 1000; size() < bytes-20; k++ {
		c.Base = append(c.Base, api.Pair{Key: k, Val: api.MaxVal})
	}
	for k := 900; size() < bytes; k-- {
		c.Base = slices.Insert(c.Base, 0, api.Pair{Key: k})
	}
	for clock := 1; size() > bytes && clock < api.MaxTime; clock *= 100 { // one pair less, and a clock that has as many bytes as are missing
		l := c.Base
		c.Base, c.Clock = l[1:], clock
		if size() != bytes {
			c.Base = l
		}
	}
	if size() != bytes {
		t.Fatalf("%d bytes, not %d", size(), bytes)
	}
	return c
}

// Promise 13.2: a record with more bytes than one may have, though there are rows for it; as many as may be.
func TestLong(t *testing.T) {
	s, h := fresh(t, 2000)
	s.Trip(1, api.Loss{Torn: -1})
	refuses(t, h, api.Note{Kind: api.NoteShard, Cores: []api.Core{sized(t, 9, wal.MaxRecord+1)}}, api.ErrFull)
	refuses(t, h, api.Note{Kind: api.NoteShard, Cores: []api.Core{some(7), sized(t, 9, wal.MaxRecord+1)}}, api.ErrFull)
	s.Trip(0, api.Loss{})
	takes(t, h, api.Note{Kind: api.NoteShard, Cores: []api.Core{sized(t, 9, wal.MaxRecord)}})
	if !same(open(t, s, first(2, 3)).Cores(), h.Cores()) || h.Rows() != 900 {
		t.Errorf("%d rows", h.Rows())
	}
}

// Promise 13.2: how many rows records need: as many as there are, or one more.
func TestRows(t *testing.T) {
	for _, c := range []struct {
		bytes, left int
		kept        bool
	}{{199, 1, false}, {200, 1, false}, {201, 1, true}, {201, 2, false}, {400, 2, false}, {401, 2, true}, {200, 0, true}, {1600, 8, false}} {
		s := slab.New(16)
		h := open(t, s, alone(6))
		for time := range 8 - c.left {
			takes(t, h, api.Note{Kind: api.NotePull, To: 6, Time: time + 1})
		}
		takes(t, h, api.Note{Kind: api.NoteShard, Cores: []api.Core{sized(t, 9, c.bytes)}})
		rows := (c.bytes + 199) / 200
		want := c.left - rows
		if c.kept {
			want = 8 - rows
		}
		if h.Rows() != want {
			t.Errorf("%d bytes, %d rows left: %d, not %d", c.bytes, c.left, h.Rows(), want)
		}
	}
	h := open(t, slab.New(16), alone(6))
	refuses(t, h, api.Note{Kind: api.NoteShard, Cores: []api.Core{sized(t, 9, 1601)}}, api.ErrFull)
}

// Promise 13.2: a log whose rows have come to the end of their numbers.
func TestLate(t *testing.T) {
	x := first(1, 1)
	s := slab.New(16)
	b, _ := cksum.Frame(vint.Num(1) + vint.Num(1<<40-1) + vint.Num(0) + vint.Num(1) + text(x, api.Core{ID: 1, Keys: x.L[0].Keys}))
	s.Write(0, b)
	s.Flush()
	h := open(t, s, x)
	takes(t, h, api.Note{Kind: api.NotePull, To: 1, Time: 5})
	refuses(t, h, api.Note{Kind: api.NotePull, To: 1, Time: 6}, api.ErrFull)
	refuses(t, h, api.Note{Kind: api.NoteFreeze, To: 1}, api.ErrFull)
}

// Promise 13.1, for any text and any record: what is opened is what is stored.
func FuzzOpen(f *testing.F) {
	x := first(2, 3)
	f.Add("", "")
	f.Add(text(x, some(3), asleep(5)), rec.Record(api.Rec{Kind: api.RecClock, Shard: 3, Time: 60}))
	f.Add(text(x), rec.Record(api.Rec{Kind: api.RecShard, Core: some(9)}))
	f.Add(text(x, asleep(5)), rec.Record(api.Rec{Kind: api.RecChart, Chart: first(1, 1)}))
	f.Fuzz(func(t *testing.T, s, r string) {
		if len(s) > 2000 || len(r) > 2000 {
			return
		}
		h, e := host.Open(stored(t, 64, s, r), 1, x)
		if e == api.ErrForm && h == nil {
			return
		}
		if e != api.OK || h.Down() || h.Node() != 1 {
			t.Fatalf("%q, %q: %v, %v", s, r, h, e)
		}
		for _, c := range h.Cores() {
			if !core.Check(c) {
				t.Errorf("%v", c)
			}
		}
		again := open(t, stored(t, 200, text(h.Chart(), h.Cores()...)), x)
		if !same(again.Cores(), h.Cores()) || !same(again.Chart(), h.Chart()) {
			t.Errorf("%v, not %v", again.Cores(), h.Cores())
		}
	})
}
