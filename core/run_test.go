package core_test

import (
	"math/rand"
	"slices"
	"testing"

	"splice/api"
	"splice/chart"
	"splice/core"
	"splice/mut"
)

// run is some shards of one chart, the notes that are under way among them, and what was found out on the way.
type run struct {
	t      *testing.T
	x      api.Chart
	first  []api.Core // as they began
	now    []api.Core
	recs   [][]api.Rec
	notes  []api.Note
	pushed map[api.Stamp]api.Mut // the mutations, by their numbers
	finals map[api.Stamp]int     // the final time of each one
}

func begin(t *testing.T, x api.Chart) *run {
	s := &run{t: t, x: x, pushed: map[api.Stamp]api.Mut{}, finals: map[api.Stamp]int{}}
	for _, h := range x.L {
		s.first, s.now, s.recs = append(s.first, begun(h)), append(s.now, begun(h)), append(s.recs, nil)
	}
	return s
}

// come lets something come to the i-th shard, and looks at what it makes of it.
func (s *run) come(i int, in api.In) api.Errno {
	was := s.now[i]
	o := core.Step(was, s.x, in)
	if o.E != api.OK {
		if len(o.Recs) > 0 || len(o.Notes) > 0 || !same(o.C, was) {
			s.t.Fatalf("%v: %v", in, o)
		}
		return o.E
	}
	if !core.Check(o.C) || core.Floor(o.C) < core.Floor(was) || o.C.Clock < was.Clock {
		s.t.Fatalf("%v: %v becomes %v", in, was, o.C)
	}
	if !same(o.C.Log[:len(was.Log)], was.Log) {
		s.t.Fatalf("%v: the log %v becomes %v", in, was.Log, o.C.Log)
	}
	for _, e := range o.C.Log[len(was.Log):] {
		n := mut.Stamp(0, e.M)
		if old, is := s.finals[n]; is && old != e.Time || e.Time <= core.Floor(was) {
			s.t.Fatalf("%v is committed at %d, not %d; the floor was %d", e.M, e.Time, old, core.Floor(was))
		}
		s.finals[n] = e.Time
	}
	s.now[i] = o.C
	s.recs[i] = append(s.recs[i], o.Recs...)
	s.notes = append(s.notes, o.Notes...)
	return api.OK
}

// deliver lets a note come to the shard that it is for, if that is there still.
func (s *run) deliver(n api.Note) {
	i := slices.IndexFunc(s.now, func(c api.Core) bool { return c.ID == n.To })
	switch {
	case i < 0:
	case n.Kind == api.NoteProp:
		s.come(i, api.In{Kind: api.InProp, From: n.From, M: n.M, Time: n.Time, Ask: n.Ask})
	case n.Kind == api.NoteFinal:
		s.come(i, api.In{Kind: api.InFinal, Client: n.Client, Seq: n.Seq, Time: n.Time})
	}
}

// push lets a mutation come to the first of its parts; the one that has its numbers, if there is one.
func (s *run) push(m api.Mut, time int) {
	n := mut.Stamp(0, m)
	if old, is := s.pushed[n]; is {
		m = old
	}
	s.pushed[n] = m
	parts := chart.Owners(s.x, mut.Touch(m))
	i := slices.IndexFunc(s.now, func(c api.Core) bool { return c.ID == parts[0] })
	if e := s.come(i, api.In{Kind: api.InPush, M: m, Time: time}); e != api.OK && (e != api.ErrBusy || !s.now[i].Frozen) {
		s.t.Fatalf("a push of %v: %v", m, e)
	}
}

// some does one thing of those that may be done.
func (s *run) some(g maker) {
	switch g.n(8) {
	case 0, 1:
		m := g.mutation()
		m.Client, m.Seq = 1+g.n(9), 1+g.n(12)
		if mut.Check(m) {
			s.push(m, g.of(0, 0, 5, g.n(300)))
		}
	case 2:
		s.come(g.n(len(s.now)), api.In{Kind: api.InTick})
	case 3:
		s.come(g.n(len(s.now)), api.In{Kind: api.InClock, Time: g.n(400)})
	default:
		if len(s.notes) == 0 {
			return
		}
		at := g.n(len(s.notes))
		n := s.notes[at]
		if how := g.n(10); how > 0 { // else it comes twice
			s.notes = slices.Delete(s.notes, at, at+1)
			if how == 1 { // it is lost
				return
			}
		}
		s.deliver(n)
	}
}

// calm loses nothing any more, till nothing is held.
func (s *run) calm() {
	for range 10 {
		for i := range s.now {
			s.come(i, api.In{Kind: api.InTick})
		}
		for len(s.notes) > 0 {
			n := s.notes[0]
			s.notes = s.notes[1:]
			s.deliver(n)
		}
	}
	for _, c := range s.now {
		if len(c.Held) > 0 {
			s.t.Fatalf("%v holds back still", c)
		}
	}
}

// records looks whether the records make the cores, but for what peers gave.
func (s *run) records() {
	for i, c := range s.now {
		d := s.first[i]
		for _, r := range s.recs[i] {
			var e api.Errno
			if d, e = core.Redo(d, r); e != api.OK {
				s.t.Fatalf("%v can't be redone: %v", r, e)
			}
		}
		c.Held = slices.Clone(c.Held)
		for i := range c.Held {
			c.Held[i].Peers = nil
		}
		if !same(c, d) {
			s.t.Fatalf("the records make %v, not %v", d, c)
		}
	}
}

// judge looks whether each mutation is in all of its parts.
func (s *run) judge() {
	s.records()
	for n := range s.finals {
		m := s.pushed[n]
		for _, c := range s.now {
			if slices.Contains(chart.Owners(s.x, mut.Touch(m)), c.ID) && knows(c, m) < 0 {
				s.t.Fatalf("%v is committed, but not at %d", m, c.ID)
			}
		}
	}
}

// Promise 12.4: whatever is lost, doubled or late: the logs ascend, floors never fall, final times are the same
// everywhere, records make the cores; and when nothing is lost any more, all is committed.
func TestRun(t *testing.T) {
	r := rand.New(rand.NewSource(4))
	g := maker{r.Intn}
	for i := range 60 {
		s := begin(t, charted(1+i%5))
		for range 150 {
			s.some(g)
		}
		s.calm()
		s.judge()
		if len(s.finals) < 10 {
			t.Fatalf("%d mutations are committed", len(s.finals))
		}
	}
}

// Promise 12.4: the same, if shards are frozen and sealed, and others take their place, with another chart.
func TestRunChanges(t *testing.T) {
	r := rand.New(rand.NewSource(5))
	g := maker{r.Intn}
	for range 40 {
		s := begin(t, charted(2))
		for range 4 {
			for range 50 {
				s.some(g)
			}
			s.change(api.Change{Kind: 1 + g.n(3), ID: s.x.L[g.n(len(s.x.L))].ID, At: g.of(1, 2, 1365, 2049)}, g)
		}
		for range 50 {
			s.some(g)
		}
		s.calm()
		s.judge()
	}
}

// change freezes the old shards of a change, seals them when they hold nothing back, and lets their heirs begin.
func (s *run) change(x api.Change, g maker) {
	next, old, fresh, e := chart.Apply(s.x, x)
	if e != api.OK {
		return
	}
	for range 2000 {
		var l []int
		busy := false
		for _, h := range old {
			i := slices.IndexFunc(s.now, func(c api.Core) bool { return c.ID == h.ID })
			s.come(i, api.In{Kind: api.InFreeze})
			busy = busy || len(s.now[i].Held) > 0
			l = append(l, i)
		}
		if !busy {
			s.replace(next, l, fresh)
			return
		}
		s.some(g)
	}
	s.t.Fatalf("%v does not come to its end", x)
}

// replace lets the heirs of some shards begin.
func (s *run) replace(next api.Chart, old []int, fresh []api.Shard) {
	var gone []api.Core
	for _, i := range old {
		if e := s.come(i, api.In{Kind: api.InSeal}); e != api.OK {
			s.t.Fatalf("a seal: %v", e)
		}
		if e := s.come(i, api.In{Kind: api.InPush, M: add(99, 1, s.now[i].Keys.Lo, 1)}); e != api.ErrGone {
			s.t.Fatalf("a push to a sealed one: %v", e)
		}
		gone = append(gone, s.now[i])
	}
	slices.SortFunc(gone, func(a, b api.Core) int { return a.Keys.Lo - b.Keys.Lo })
	l, e := core.Heirs(gone, fresh)
	if e != api.OK {
		s.t.Fatalf("%v: %v", gone, e)
	}
	s.records()
	slices.Sort(old)
	for _, i := range slices.Backward(old) {
		s.now, s.first, s.recs = slices.Delete(s.now, i, i+1), slices.Delete(s.first, i, i+1), slices.Delete(s.recs, i, i+1)
	}
	s.x = next
	for _, c := range l {
		s.now, s.first, s.recs = append(s.now, c), append(s.first, c), append(s.recs, nil)
	}
}
