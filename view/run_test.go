package view_test

import (
	"math/rand"
	"slices"
	"testing"

	"splice/api"
	"splice/chart"
	"splice/core"
	"splice/host"
	"splice/judge"
	"splice/mut"
	"splice/slab"
	"splice/view"
)

const nodes = 3

// run is some hosts with the shards of a chart, views of them, and the notes that are under way.
type run struct {
	t     *testing.T
	g     maker
	x     api.Chart
	next  api.Chart   // of the change under way
	old   []api.Shard // of the change under way; none: there is none
	fresh []api.Shard // of the change under way
	hosts []*host.Host
	views []*view.View
	seqs  []int        // of each client the greatest number
	notes []api.Note   // for shards
	told  [][]api.Note // for each view
	marks []int
}

func start(t *testing.T, g maker) *run {
	t.Helper()
	r := &run{t: t, g: g, seqs: make([]int, 5)}
	r.x, _ = chart.First(nodes, 1+g.n(4))
	for i := range nodes {
		h, e := host.Open(slab.New(api.MaxBlocks), i, r.x)
		if e != api.OK {
			t.Fatalf("Open: %v", e)
		}
		r.hosts = append(r.hosts, h)
	}
	for range 3 {
		v := view.New(g.on())
		v.Learn(r.x)
		r.views, r.told, r.marks = append(r.views, v), append(r.told, nil), append(r.marks, 0)
	}
	return r
}

// cores are all cores of all hosts.
func (r *run) cores() (l []api.Core) {
	for _, h := range r.hosts {
		l = append(l, h.Cores()...)
	}
	return l
}

// node is where a shard is, was, or will be.
func (r *run) node(id int) int {
	for i, h := range r.hosts {
		if slices.ContainsFunc(h.Cores(), func(c api.Core) bool { return c.ID == id }) {
			return i
		}
	}
	return 0
}

// take lets a note come to the host of its shard.
func (r *run) take(i int, n api.Note) []api.Note {
	l, e := r.hosts[i].Take(n)
	if e == api.ErrFull || e == api.ErrDown {
		r.t.Fatalf("%v: %v", n, e)
	}
	for _, n := range l {
		switch {
		case n.Kind == api.NoteProp || n.Kind == api.NoteFinal:
			r.notes = append(r.notes, n)
		case n.Kind == api.NotePage || n.Kind == api.NoteState || n.Kind == api.NoteChart && n.Client >= 1 && n.Client <= len(r.views):
			r.told[n.Client-1] = append(r.told[n.Client-1], n)
		}
	}
	return l
}

// push lets a client's next mutation, or an older one of its, come to the first of its parts.
func (r *run) push() {
	m := r.g.mutation()
	m.Client = r.g.n(len(r.seqs))
	m.Seq = r.seqs[m.Client] + 1
	if !mut.Check(m) {
		return
	}
	r.seqs[m.Client]++
	r.take(r.node(chart.Owners(r.x, mut.Touch(m))[0]), api.Note{Kind: api.NotePush, To: chart.Owners(r.x, mut.Touch(m))[0], M: m, Time: r.g.n(30)})
}

// pull lets a view tell what it wants.
func (r *run) pull(i int) {
	for _, n := range r.views[i].Wants(i + 1) {
		if r.g.n(6) > 0 { // else it is lost
			r.take(r.node(n.To), n)
		}
	}
}

// hear lets a note come to a view, one of those that are under way.
func (r *run) hear(i int) {
	l := r.told[i]
	if len(l) == 0 {
		return
	}
	at := r.g.n(len(l))
	n := l[at]
	if r.g.n(6) > 0 { // else it comes twice
		r.told[i] = slices.Delete(l, at, at+1)
	}
	r.comes(i, n)
}

func (r *run) comes(i int, n api.Note) {
	var e api.Errno
	switch n.Kind {
	case api.NoteChart:
		e = r.views[i].Learn(n.Chart)
	case api.NotePage:
		e = r.views[i].Page(n)
	case api.NoteState:
		e = r.views[i].State(n)
	}
	if e != api.OK && e != api.ErrNone && e != api.ErrForm { // of a shard that is gone, or that has a state, or from a place that is not known yet
		r.t.Fatalf("%v: %v", n, e)
	}
	r.look(i)
}

// look looks whether a view has what was committed up to its mark, and has seen no more.
func (r *run) look(i int) {
	v := r.views[i]
	order, e := judge.Order(r.cores())
	if e != api.OK || judge.Missing(r.cores()) != 0 {
		r.t.Fatalf("Order: %v; %d are missing", e, judge.Missing(r.cores()))
	}
	if v.Mark() < r.marks[i] {
		r.t.Fatalf("the mark %d becomes %d", r.marks[i], v.Mark())
	}
	r.marks[i] = v.Mark()
	if want := judge.Fold(order, v.On(), v.Mark()); !slices.Equal(v.Base(), want) {
		r.t.Fatalf("%v up to %d: %v, not %v", v.On(), v.Mark(), v.Base(), want)
	}
	for _, s := range v.Seen() {
		if s.Time > v.Mark() || !slices.ContainsFunc(order, func(e api.Entry) bool { return same(e, s) }) {
			r.t.Fatalf("saw %v at the mark %d", s, v.Mark())
		}
	}
}

// deliver lets a note come to a shard, one of those that are under way.
func (r *run) deliver() {
	if len(r.notes) == 0 {
		return
	}
	at := r.g.n(len(r.notes))
	n := r.notes[at]
	r.notes = slices.Delete(r.notes, at, at+1)
	if r.g.n(8) > 0 { // else it is lost
		r.take(r.node(n.To), n)
	}
}

func (r *run) tick() {
	for i, h := range r.hosts {
		l, e := h.Tick()
		if e != api.OK {
			r.t.Fatalf("Tick of %d: %v", i, e)
		}
		for _, n := range l {
			if n.Kind == api.NoteProp || n.Kind == api.NoteFinal {
				r.notes = append(r.notes, n)
			}
		}
	}
}

// change begins with a change of the chart, or goes on with it: it is there when all old shards are sealed.
func (r *run) change() {
	if len(r.old) == 0 {
		x := api.Change{Kind: 1 + r.g.n(3), ID: r.x.L[r.g.n(len(r.x.L))].ID, At: r.g.of(0, 1, 2, 5, 1000, 2048, 3000)}
		next, old, fresh, e := chart.Apply(r.x, x)
		if e == api.OK && old[0].Node == old[len(old)-1].Node && fresh[0].Node < nodes && len(next.L) < 8 {
			r.next, r.old, r.fresh = next, old, fresh
		}
		return
	}
	seal := api.Note{Kind: api.NoteSeal, To: r.old[0].ID}
	for _, s := range r.old {
		r.take(s.Node, api.Note{Kind: api.NoteFreeze, To: s.ID})
		if s.ID != seal.To {
			seal.N = s.ID
		}
	}
	told := r.take(r.old[0].Node, seal)
	if len(told) == 0 {
		return
	}
	heirs, e := core.Heirs(told[0].Cores, r.fresh)
	if e != api.OK {
		r.t.Fatalf("Heirs: %v", e)
	}
	for i, s := range r.fresh {
		r.take(s.Node, api.Note{Kind: api.NoteShard, Cores: heirs[i : i+1]})
	}
	r.x, r.old = r.next, nil
	r.charts()
}

func (r *run) charts() {
	for i := range r.hosts {
		r.take(i, api.Note{Kind: api.NoteChart, Chart: r.x})
	}
}

// some does one thing of those that may be done.
func (r *run) some() {
	switch k := r.g.n(14); {
	case k < 2:
		r.push()
	case k == 2:
		r.tick()
	case k == 3 && (r.g.n(3) == 0 || len(r.old) > 0):
		r.change()
	case k < 6:
		r.pull(r.g.n(len(r.views)))
	case k < 9:
		r.deliver()
	default:
		r.hear(r.g.n(len(r.views)))
	}
}

// calm loses nothing any more, till nothing is held; then each view has all.
func (r *run) calm() {
	r.g = maker{func(most int) int { return most - 1 }} // nothing is lost, nor doubled
	for range 30 {
		r.tick()
		for len(r.notes) > 0 {
			r.deliver()
		}
		if len(r.old) > 0 {
			r.change()
		}
		for i := range r.views {
			r.pull(i)
			for len(r.told[i]) > 0 {
				r.hear(i)
			}
		}
	}
	order, _ := judge.Order(r.cores())
	for _, v := range r.views {
		last := 0 // up to the floors of the sources
		for _, c := range r.cores() {
			if slices.Contains(chart.Owners(r.x, v.On()), c.ID) {
				last = max(last, core.Floor(c))
			}
		}
		if v.Mark() != last || !slices.Equal(v.Base(), judge.Fold(order, v.On(), api.MaxTime)) {
			r.t.Fatalf("%v: mark %d, not %d, base %v", v.On(), v.Mark(), last, v.Base())
		}
	}
}

// Promise 14.5: whatever is lost, doubled or late, and however the chart is changed: the mark never falls, and the base is
// what was committed up to it; when all is heard, it has everything.
func TestRun(t *testing.T) {
	g := maker{rand.New(rand.NewSource(145)).Intn}
	marks, epochs, entries := 0, 0, 0
	for range 30 {
		r := start(t, g)
		for range 500 {
			r.some()
		}
		for _, m := range r.marks {
			marks += m
		}
		r.calm()
		order, _ := judge.Order(r.cores())
		epochs, entries = epochs+r.x.Epoch, entries+len(order)
	}
	if marks < 2000 || epochs < 90 || entries < 1000 {
		t.Errorf("%d in all marks, %d in all epochs, %d entries", marks, epochs, entries)
	}
}
