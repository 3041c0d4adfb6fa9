package chief

import (
	"math"
	"slices"
	"strings"

	"splice/api"
	"splice/chart"
	"splice/core"
	"splice/rec"
	"splice/vint"
)

// state is what a chief has. What changes it makes another one of it, and leaves its lists as they are.
type state struct {
	chart  api.Chart
	busy   bool // a change is in progress; else all that follows is zero
	change api.Change
	next   api.Chart // that the change produces
	old    []api.Shard
	fresh  []api.Shard
	heirs  []api.Core // of the fresh shards, in order; none: the old ones are not sealed yet
	begun  []int      // the numbers of the fresh shards that have begun: these are not stored
}

// begin is a state in which a change is in progress.
func (s state) begin(x api.Change) (state, api.Errno) {
	next, old, fresh, e := chart.Apply(s.chart, x)
	if e != api.OK {
		return state{}, e
	}
	if len(old) == 2 && old[0].Node != old[1].Node {
		return state{}, api.ErrArg
	}
	x.At = max(x.At, 0) // that of a merge does not count, but is stored, and below 0 it would have no bytes
	return state{chart: s.chart, busy: true, change: x, next: next, old: old, fresh: fresh}, api.OK
}

// replaces tells whether cores are, by their numbers, the shards that the change in progress replaces.
func (s state) replaces(l []api.Core) bool {
	return s.busy && slices.EqualFunc(s.old, l, func(x api.Shard, c api.Core) bool { return x.ID == c.ID })
}

// posts is what is to be told, again and again: any of it may be lost.
func (s state) posts() []api.Post {
	var l []api.Post
	tell := func(node int, n api.Note) { l = append(l, api.Post{Node: node, N: n}) }
	if s.busy && len(s.heirs) == 0 {
		s.seal(tell)
	}
	for i, h := range s.heirs {
		tell(s.fresh[i].Node, api.Note{Kind: api.NoteShard, Cores: []api.Core{cloned(h)}})
	}
	for node := range api.MaxNodes {
		tell(node, api.Note{Kind: api.NoteChart, Chart: charted(s.chart)})
	}
	return l
}

// seal tells that the old shards take no more, and then do nothing more.
func (s state) seal(tell func(node int, n api.Note)) {
	for _, x := range s.old {
		tell(x.Node, api.Note{Kind: api.NoteFreeze, To: x.ID})
	}
	n := api.Note{Kind: api.NoteSeal, To: s.old[0].ID}
	if len(s.old) == 2 {
		n.N = s.old[1].ID
	}
	tell(s.old[0].Node, n)
}

func (s state) text() string {
	var b strings.Builder
	b.WriteString(vint.Text(chart.Text(s.chart)))
	b.WriteString(vint.Flag(s.busy))
	if s.busy {
		for _, n := range []int{s.change.Kind, s.change.ID, s.change.At} {
			b.WriteString(vint.Num(n))
		}
	}
	b.WriteString(vint.Num(len(s.heirs)))
	for _, h := range s.heirs {
		b.WriteString(vint.Text(rec.Core(h)))
	}
	return b.String()
}

// read is the state of a text.
func read(text string) (state, api.Errno) {
	r := vint.From(text)
	x, e := chart.Read(r.Text(math.MaxInt))
	if e != api.OK {
		return state{}, api.ErrForm
	}
	s := state{chart: x}
	if r.Flag() {
		s, e = s.begin(api.Change{Kind: r.Num(), ID: r.Num(), At: r.Num()})
	}
	n := r.Num()
	if e != api.OK || n != 0 && n != len(s.fresh) {
		return state{}, api.ErrForm
	}
	for range n {
		h, _ := rec.ReadCore(r.Text(math.MaxInt)) // what is none is no heir
		s.heirs = append(s.heirs, h)
	}
	if r.End() != api.OK || !s.inherits() {
		return state{}, api.ErrForm
	}
	return s, api.OK
}

// inherits tells whether the heirs are such as core.Heirs makes: they begin at one clock, know the same, and have nothing but their keys' values.
func (s state) inherits() bool {
	for i, h := range s.heirs {
		first := s.heirs[0]
		made := api.Core{ID: s.fresh[i].ID, Keys: s.fresh[i].Keys, Clock: first.Clock, Base: h.Base, Known: first.Known}
		if !core.Check(h) || rec.Core(h) != rec.Core(made) {
			return false
		}
	}
	return true
}

func hasShard(l []api.Shard, id int) bool {
	return slices.ContainsFunc(l, func(x api.Shard) bool { return x.ID == id })
}

// cloned is an heir in its own memory: it holds nothing back and has no log.
func cloned(h api.Core) api.Core {
	h.Base, h.Known = slices.Clone(h.Base), slices.Clone(h.Known)
	return h
}

func charted(x api.Chart) api.Chart {
	x.L = slices.Clone(x.L)
	return x
}
