package host_test

import (
	"fmt"
	"math/rand"
	"slices"
	"testing"

	"splice/api"
	"splice/chart"
	"splice/core"
	"splice/host"
	"splice/mut"
	"splice/slab"
	"splice/wal"
)

// loss leaves any part of what was not flushed.
func (g maker) loss(blocks int) api.Loss {
	l := api.Loss{Torn: g.n(blocks+1) - 1, At: g.n(256)}
	most := g.n(3)
	for i := range blocks {
		if g.n(2) < most {
			l.Keep = append(l.Keep, i)
		}
	}
	return l
}

// states are what a model is after none of the records of its last call, one of them, two and so on.
func (m *model) states(before *model) []string {
	m = before
	l := []string{m.lost().show()}
	for _, r := range before.made {
		m.redo(r)
		l = append(l, m.lost().show())
	}
	return l
}

// interrupted looks what a host is after a call that went down on its way, and once its slab is up again.
func (p *pair) interrupted(t *testing.T, what any, states []string) {
	t.Helper()
	was := fmt.Sprint(p.h.Chart(), bare(p.h.Cores()))
	told := slices.Index(states, was)
	p.s.Wake()
	if l, e := p.h.Tick(); e != api.ErrDown || l != nil || !p.h.Down() {
		t.Fatalf("%v: a tick behind it: %v, %v", what, l, e)
	}
	h, e := host.Open(p.s, p.node, p.x)
	if e != api.OK {
		t.Fatalf("%v: opened again: %v", what, e)
	}
	is := slices.Index(states, show(h))
	if told < 0 || is < told {
		t.Fatalf("%v: %s becomes %s; what may be is %q", what, was, show(h), states)
	}
	_, text, recs, _ := wal.Open(p.s)
	p.h = h
	p.m = &model{blocks: p.m.blocks, x: h.Chart(), cores: map[int]api.Core{}, text: text, recs: recs}
	for _, c := range h.Cores() {
		p.m.cores[c.ID] = c
	}
}

// risk is one call at which the power may fail.
func (p *pair) risk(t *testing.T, g maker) (failed bool) {
	t.Helper()
	before := p.m.lost()
	n := g.note(p.m.x, p.m.list())
	tick := g.n(10) == 0
	var want []api.Note
	var f api.Errno
	if tick {
		want, f = p.m.tick()
	} else {
		want, f = p.m.take(n)
	}
	before.made = p.m.made
	p.s.Trip(1+g.n(6), g.loss(p.s.Blocks()))
	var l []api.Note
	var e api.Errno
	if tick {
		l, e = p.h.Tick()
	} else {
		l, e = p.h.Take(n)
	}
	if e == api.ErrDown {
		if !tick && l != nil || !same(l, want[:len(l)]) {
			t.Fatalf("%v: %v, %v", n, l, want)
		}
		p.interrupted(t, n, p.m.states(before))
		return true
	}
	p.s.Trip(0, api.Loss{})
	if !same(l, want) || e != f {
		t.Fatalf("%v: %v, %v, not %v, %v", n, l, e, want, f)
	}
	p.agrees(t, n)
	return false
}

// Promise 13.4: whatever a loss of power leaves, a host is again what it was, or some records of the interrupted call further.
func TestPower(t *testing.T) {
	r := rand.New(rand.NewSource(14))
	g := maker{r.Intn}
	failed := 0
	for range 150 {
		p := begin(t, g)
		for range 60 {
			if p.risk(t, g) {
				failed++
			}
		}
	}
	if failed < 400 {
		t.Errorf("%d failures", failed)
	}
}

// Promise 13.4: no loss of power leaves one of two that are sealed at once.
func TestSealPower(t *testing.T) {
	r := rand.New(rand.NewSource(15))
	g := maker{r.Intn}
	found := map[bool]int{}
	for range 200 {
		x := first(1, 2)
		s := slab.New(16)
		h := open(t, s, x)
		for to := range 2 {
			takes(t, h, api.Note{Kind: api.NoteFreeze, To: to + 1})
		}
		for time := range g.n(7) {
			takes(t, h, api.Note{Kind: api.NotePull, To: 1, Time: time + 1})
		}
		s.Trip(1+g.n(4), g.loss(16))
		_, e := h.Take(api.Note{Kind: api.NoteSeal, To: 1, N: 2})
		s.Wake()
		l := open(t, s, x).Cores()
		if l[0].Sealed != l[1].Sealed || e == api.OK && !l[0].Sealed {
			t.Fatalf("%v: %v", e, l)
		}
		found[l[0].Sealed]++
	}
	if found[true] < 20 || found[false] < 20 {
		t.Errorf("%v", found)
	}
}

// run is some hosts, the notes that are under way among them, and what was told on the way.
type run struct {
	t     *testing.T
	g     maker
	x     api.Chart
	slabs []*slab.Slab
	hosts []*host.Host
	notes []api.Note
	muts  map[api.Stamp]api.Mut
	acks  map[api.Stamp]api.Known
	gone  []api.Core   // sealed ones that were told
	begun map[int]bool // shards that were told to have begun
	heirs []api.Core   // of the change under way
	fresh []api.Shard  // of the change under way
	next  api.Chart    // of the change under way
	old   []api.Shard  // of the change under way; empty: there is none
	fails map[int]int  // of each host
	count map[string]int
}

func start(t *testing.T, g maker) *run {
	r := &run{t: t, g: g, x: first(3, 4), muts: map[api.Stamp]api.Mut{}, acks: map[api.Stamp]api.Known{}, begun: map[int]bool{}, fails: map[int]int{}, count: map[string]int{}}
	for i := range 3 {
		r.slabs = append(r.slabs, slab.New(200))
		r.hosts = append(r.hosts, nil)
		r.wake(i)
	}
	return r
}

// wake opens a host that is down.
func (r *run) wake(i int) {
	r.slabs[i].Wake()
	h, e := host.Open(r.slabs[i], i, first(3, 4))
	if e != api.OK {
		r.t.Fatalf("Open: %v", e)
	}
	if old := r.hosts[i]; old != nil {
		for _, c := range bare(old.Cores()) { // what it was when it told something last is there
			d := at(r.t, h, c.ID)
			if len(d.Log) < len(c.Log) || !same(d.Log[:len(c.Log)], c.Log) || d.Clock < c.Clock || c.Sealed && !d.Sealed {
				r.t.Fatalf("%v was %v", d, c)
			}
		}
	}
	r.hosts[i] = h
}

// node is where a shard is.
func (r *run) node(id int) int {
	for _, l := range [][]api.Shard{r.x.L, r.next.L} {
		for _, s := range l {
			if s.ID == id {
				return s.Node
			}
		}
	}
	return -1
}

// come lets a note come to a host.
func (r *run) come(i int, n api.Note) {
	l, e := r.hosts[i].Take(n)
	r.count[fmt.Sprint(n.Kind, e)]++
	if e != api.OK && l != nil || e == api.ErrForm || e == api.ErrFull {
		r.t.Fatalf("%v: %v, %v", n, l, e)
	}
	r.hear(l)
}

// hear hears what a host tells.
func (r *run) hear(l []api.Note) {
	for _, n := range l {
		switch n.Kind {
		case api.NoteAck:
			k := api.Stamp{Client: n.Client, Seq: n.Seq}
			is := api.Known{Client: n.Client, Seq: n.Seq, Time: n.Time, Done: n.Done}
			if was, told := r.acks[k]; told && (was.Time != n.Time || mut.Alone(r.muts[k]) && was != is) {
				r.t.Fatalf("%v, not %v", is, was)
			}
			r.acks[k] = is
		case api.NoteSealed:
			r.gone = n.Cores
		case api.NoteBegun:
			r.begun[n.From] = true
		default:
			r.notes = append(r.notes, n)
		}
	}
}

// deliver lets a note come to the node of its shard.
func (r *run) deliver(n api.Note) {
	if i := r.node(n.To); i >= 0 {
		r.come(i, n)
	}
}

func (r *run) tick(i int) {
	l, e := r.hosts[i].Tick()
	if e != api.OK && e != api.ErrDown {
		r.t.Fatalf("Tick: %v", e)
	}
	r.hear(l)
}

// some does one thing of those that may be done.
func (r *run) some() {
	g := r.g
	i := g.n(3)
	switch k := g.n(16); {
	case k < 3:
		m := g.mutation()
		m.Client, m.Seq = 1+g.n(5), 1+g.n(15)
		if old, is := r.muts[mut.Stamp(0, m)]; is {
			m = old
		}
		if mut.Check(m) {
			r.muts[mut.Stamp(0, m)] = m
			r.deliver(api.Note{Kind: api.NotePush, To: chart.Owners(r.x, mut.Touch(m))[0], M: m, Time: g.n(30)})
		}
	case k == 3:
		r.tick(i)
	case k == 4 && r.hosts[i].Down():
		r.wake(i)
	case k == 4:
		r.fails[i]++
		r.slabs[i].Trip(1+g.n(8), g.loss(200))
	case k == 5:
		r.change()
	case len(r.notes) > 0:
		at := g.n(len(r.notes))
		n := r.notes[at]
		if g.n(8) > 0 { // else it comes once more later on
			r.notes = slices.Delete(r.notes, at, at+1)
		}
		if g.n(8) > 0 { // else it is lost
			r.deliver(n)
		}
	}
}

// change goes a step further with the change of the chart, or begins with one.
func (r *run) change() {
	var e api.Errno
	switch {
	case len(r.old) == 0:
		s := r.x.L[r.g.n(len(r.x.L))]
		x := api.Change{Kind: 1 + r.g.n(3), ID: s.ID, At: r.g.of(0, 1, 2, 1000, 2048, 3000)}
		r.next, r.old, r.fresh, e = chart.Apply(r.x, x)
		if len(r.old) == 2 && r.old[0].Node != r.old[1].Node || e != api.OK || len(r.next.L) > 8 || r.fresh[0].Node > 2 {
			r.next, r.old = api.Chart{}, nil
		}
		r.gone, r.heirs = nil, nil
	case r.heirs == nil:
		seal := api.Note{Kind: api.NoteSeal, To: r.old[0].ID}
		for _, s := range r.old {
			r.come(s.Node, api.Note{Kind: api.NoteFreeze, To: s.ID})
			if s.ID != seal.To {
				seal.N = s.ID
			}
		}
		r.come(r.old[0].Node, seal)
		if r.heirs, e = core.Heirs(r.gone, r.fresh); r.gone != nil && e != api.OK {
			r.t.Fatalf("the heirs of %v: %v", r.gone, e)
		}
	default:
		done := true
		for i, s := range r.fresh {
			r.come(s.Node, api.Note{Kind: api.NoteShard, Cores: r.heirs[i : i+1]})
			done = done && r.begun[s.ID]
		}
		if done {
			r.x, r.old = r.next, nil
			r.count["change"]++
		}
	}
	for i := range r.hosts {
		r.come(i, api.Note{Kind: api.NoteChart, Chart: r.x})
	}
}

// calm loses nothing any more, till nothing is held and no change is under way.
func (r *run) calm() {
	for i, h := range r.hosts {
		r.slabs[i].Trip(0, api.Loss{})
		if h.Down() {
			r.wake(i)
		}
	}
	for range 20 {
		if len(r.old) > 0 {
			r.change()
		}
		for i := range r.hosts {
			r.come(i, api.Note{Kind: api.NoteChart, Chart: r.x})
			r.tick(i)
		}
		for len(r.notes) > 0 {
			n := r.notes[0]
			r.notes = r.notes[1:]
			r.deliver(n)
		}
	}
}

// judge looks whether each mutation has one time, and is known in all of its parts, and was told as it is.
func (r *run) judge() {
	finals := map[api.Stamp]int{}
	for _, h := range r.hosts {
		for _, c := range h.Cores() {
			if len(c.Held) > 0 || !core.Check(c) {
				r.t.Fatalf("%v", c)
			}
			for _, k := range c.Known {
				s := api.Stamp{Client: k.Client, Seq: k.Seq}
				if was, is := finals[s]; is && was != k.Time {
					r.t.Fatalf("%v at %d and %d", s, was, k.Time)
				}
				finals[s] = k.Time
			}
		}
	}
	for s, k := range r.acks {
		if finals[s] != k.Time {
			r.t.Fatalf("%v was told, but is at %d", k, finals[s])
		}
	}
	for s := range finals {
		for _, id := range chart.Owners(r.x, mut.Touch(r.muts[s])) {
			c := at(r.t, r.hosts[r.node(id)], id)
			if !slices.ContainsFunc(c.Known, func(k api.Known) bool { return k.Client == s.Client && k.Seq == s.Seq }) {
				r.t.Fatalf("%v does not know %v", c, s)
			}
		}
	}
}

// Promise 13.4: hosts that go down now and then, whose notes are lost, late and doubled, while their shards are
// changed, have one time for each mutation, and nothing that was told is ever otherwise.
func TestRun(t *testing.T) {
	g := maker{rand.New(rand.NewSource(16)).Intn}
	changes, fails, told := 0, 0, 0
	for range 40 {
		r := start(t, g)
		for range 600 {
			r.some()
		}
		r.calm()
		r.judge()
		changes, told = changes+r.count["change"], told+len(r.acks)
		for _, n := range r.fails {
			fails += n
		}
	}
	if changes < 100 || fails < 300 || told < 1000 {
		t.Errorf("%d changes, %d failures, %d mutations that were told", changes, fails, told)
	}
}
