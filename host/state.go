package host

import (
	"cmp"
	"math"
	"slices"
	"strings"

	"splice/api"
	"splice/chart"
	"splice/core"
	"splice/rec"
	"splice/vint"
)

// state is what a host stores. What changes it makes another one of it, and leaves its lists as they are.
type state struct {
	chart api.Chart
	cores []api.Core // by their numbers
}

// begin is a node's state at the first chart.
func begin(first api.Chart, node int) state {
	s := state{chart: charted(first)}
	for _, x := range first.L {
		if x.Node == node {
			s = s.with(api.Core{ID: x.ID, Keys: x.Keys})
		}
	}
	return s
}

// restore is the state of a text and the records behind it.
func restore(text string, records []string) (state, api.Errno) {
	s, is := read(text)
	if !is {
		return state{}, api.ErrForm
	}
	for _, t := range records {
		r, e := rec.ReadRecord(t)
		if e == api.OK {
			s, e = s.redo(r)
		}
		if e != api.OK {
			return state{}, api.ErrForm
		}
	}
	return s, api.OK
}

// read is the state of a text, and whether it is one.
func read(text string) (s state, is bool) {
	r := vint.From(text)
	x, e := chart.Read(r.Text(math.MaxInt))
	if e != api.OK {
		return state{}, false
	}
	s.chart = x
	last := 0
	for range r.Num() {
		c, e := rec.ReadCore(r.Text(math.MaxInt))
		if e != api.OK || !core.Check(c) || c.ID <= last {
			return state{}, false
		}
		s.cores = append(s.cores, c)
		last = c.ID
	}
	if r.End() != api.OK {
		return state{}, false
	}
	return s, true
}

func (s state) text() string {
	var b strings.Builder
	b.WriteString(vint.Text(chart.Text(s.chart)))
	b.WriteString(vint.Num(len(s.cores)))
	for _, c := range s.cores {
		b.WriteString(vint.Text(rec.Core(bare(c))))
	}
	return b.String()
}

// find is where the core of a number stands, or would stand, and whether it is there.
func (s state) find(id int) (at int, there bool) {
	return slices.BinarySearchFunc(s.cores, id, func(c api.Core, id int) int { return cmp.Compare(c.ID, id) })
}

// with is a state with a core, in the place of the one that has its number.
func (s state) with(c api.Core) state {
	i, is := s.find(c.ID)
	s.cores = slices.Clone(s.cores)
	if !is {
		s.cores = slices.Insert(s.cores, i, c)
	}
	s.cores[i] = c
	return s
}

// at is what an operation on the core of a number makes of a state. It is api.ErrGone if there is none.
func (s state) at(id int, do func(api.Core) (api.Core, api.Errno)) (state, api.Errno) {
	i, is := s.find(id)
	if !is {
		return state{}, api.ErrGone
	}
	c, e := do(s.cores[i])
	if e != api.OK {
		return state{}, e
	}
	return s.with(c), api.OK
}

// redo is what a record makes of a state.
func (s state) redo(r api.Rec) (state, api.Errno) {
	switch r.Kind {
	case api.RecChart:
		return s.learn(r.Chart), api.OK
	case api.RecShard:
		return s.add(r.Core)
	}
	again := func(c api.Core) (api.Core, api.Errno) {
		r.Shard = c.ID // a seal of two names but the first one by it
		return core.Redo(c, r)
	}
	s, e := s.at(r.Shard, again)
	if e == api.OK && r.Kind == api.RecSeal && r.Seq > 0 {
		return s.at(r.Seq, again)
	}
	return s, e
}

func (s state) learn(x api.Chart) state {
	if x.Epoch > s.chart.Epoch {
		s.chart = charted(x)
	}
	return s
}

func (s state) add(c api.Core) (state, api.Errno) {
	if _, is := s.find(c.ID); is {
		return s, api.OK
	}
	if !core.Check(c) {
		return state{}, api.ErrArg
	}
	return s.with(cloned(c)), api.OK
}

// reply is what a client that pulls is told of a core: its entries from one on, or what they come to.
func reply(c api.Core, client, from int) api.Note {
	floor := core.Floor(c)
	n := api.Note{From: c.ID, Client: client, Time: floor}
	if 0 <= from && from <= len(c.Log) {
		n.Kind, n.N, n.Entries = api.NotePage, from, entries(c.Log[from:])
		return n
	}
	n.Kind = api.NoteState
	for n.N < len(c.Log) && c.Log[n.N].Time <= floor {
		n.N++
	}
	for _, k := range c.Known {
		if k.Client == client {
			n.Known = append(n.Known, k)
		}
	}
	c.Log = c.Log[:n.N]
	n.Pairs = core.Table(c)
	return n
}

// bare is a core without what its peers gave: that is not stored.
func bare(c api.Core) api.Core {
	c.Held = slices.Clone(c.Held)
	for i := range c.Held {
		c.Held[i].Peers = nil
	}
	return c
}

func cloned(c api.Core) api.Core {
	c.Held = slices.Clone(c.Held)
	for i, w := range c.Held {
		c.Held[i].M, c.Held[i].Peers = copied(w.M), slices.Clone(w.Peers)
	}
	c.Base, c.Log, c.Known = slices.Clone(c.Base), entries(c.Log), slices.Clone(c.Known)
	return c
}

func entries(l []api.Entry) []api.Entry {
	l = slices.Clone(l)
	for i, e := range l {
		l[i].M = copied(e.M)
	}
	return l
}

func copied(m api.Mut) api.Mut {
	m.Pairs = slices.Clone(m.Pairs)
	return m
}

func charted(x api.Chart) api.Chart {
	x.L = slices.Clone(x.L)
	return x
}
