package chief_test

import (
	"math/rand"
	"testing"

	"splice/api"
	"splice/chart"
	"splice/chief"
	"splice/core"
	"splice/host"
	"splice/slab"
)

// run is a chief and some hosts, and the notes that are under way between them.
type run struct {
	t      *testing.T
	g      maker
	x      api.Chart
	slabs  []*slab.Slab // the hosts', and the chief's
	hosts  []*host.Host
	chief  *chief.Chief
	posts  []api.Post
	told   []api.Note // for the chief
	epoch  int
	asked  int
	failed int
}

func start(t *testing.T, g maker) *run {
	r := &run{t: t, g: g, x: first(3, 4), hosts: make([]*host.Host, 3)}
	for i := range 4 {
		r.slabs = append(r.slabs, slab.New(400))
		r.wake(i)
	}
	return r
}

func (r *run) wake(i int) {
	r.t.Helper()
	r.slabs[i].Wake()
	e := api.OK
	if i == 3 {
		r.chief, e = chief.Open(r.slabs[i], r.x)
	} else {
		r.hosts[i], e = host.Open(r.slabs[i], i, r.x)
	}
	if e != api.OK {
		r.t.Fatalf("Open of %d: %v", i, e)
	}
}

// heard looks at the chief after it has heard something: its epoch does not decrease, and each key has one owner.
func (r *run) heard() {
	r.t.Helper()
	x := r.chief.Chart()
	if x.Epoch < r.epoch || !chart.Check(x) {
		r.t.Fatalf("the epoch %d becomes %v", r.epoch, x)
	}
	r.epoch = x.Epoch
}

// some lets something happen.
func (r *run) some() {
	g := r.g
	switch k, i := g.n(16), g.n(4); {
	case i == 3 && r.chief.Down(), i < 3 && r.hosts[i].Down():
		r.wake(i)
	case k == 0:
		if x := g.change(r.chief.Chart()); x.Kind != api.Shift || x.At < 3 {
			if r.chief.Change(x) == api.OK {
				r.asked++
			}
		}
	case k == 1 && g.n(3) == 0:
		r.failed++
		r.slabs[i].Trip(1+g.n(5), g.loss(400))
	case k == 2:
		r.posts = append(r.posts, r.chief.Tick()...)
		r.posts = r.posts[max(0, len(r.posts)-30):] // what is ahead of them is lost
	case k == 3 && i < 3:
		r.push(i)
	case k < 12 && len(r.posts) > 0:
		at := g.n(len(r.posts))
		p := r.posts[at]
		if g.n(6) > 0 { // else it comes once more
			r.posts = append(r.posts[:at:at], r.posts[at+1:]...)
		}
		if g.n(6) > 0 { // else it is lost
			r.post(p)
		}
	case len(r.told) > 0:
		at := g.n(len(r.told))
		n := r.told[at]
		if g.n(6) > 0 {
			r.told = append(r.told[:at:at], r.told[at+1:]...)
		}
		if g.n(6) > 0 {
			r.tell(n)
		}
	}
	r.heard()
}

// push lets a host commit something.
func (r *run) push(i int) {
	for _, c := range r.hosts[i].Cores() {
		m := api.Mut{Client: 1, Seq: 1 + r.g.n(500), Kind: api.MutPut, Pairs: []api.Pair{{Key: c.Keys.Lo, Val: c.ID}}}
		r.hosts[i].Take(api.Note{Kind: api.NotePush, To: c.ID, M: m})
	}
}

// post lets a note come to a host.
func (r *run) post(p api.Post) {
	if p.Node >= len(r.hosts) {
		return
	}
	l, _ := r.hosts[p.Node].Take(p.N)
	for _, n := range l {
		if n.Kind == api.NoteSealed || n.Kind == api.NoteBegun {
			r.told = append(r.told, n)
		}
	}
}

// tell lets a note come to the chief.
func (r *run) tell(n api.Note) {
	if e := r.chief.Take(n); e != api.OK && e != api.ErrDown {
		r.t.Fatalf("%v: %v", n, e)
	}
}

// calm loses nothing any more, till no change is in progress.
func (r *run) calm() {
	for i := range r.slabs { // a slab that wakes trips no more
		r.wake(i)
	}
	for range 6 {
		for _, p := range append(r.posts, r.chief.Tick()...) {
			r.post(p)
		}
		r.posts = nil
		for i, h := range r.hosts { // what was held back when a host went down is let go
			if _, e := h.Tick(); e != api.OK {
				r.t.Fatalf("Tick of %d: %v", i, e)
			}
		}
		for _, n := range r.told {
			r.tell(n)
			r.heard()
		}
		r.told = nil
	}
}

// judge looks whether each shard of the chart is awake at its node, and no other one is.
func (r *run) judge() {
	x := r.chief.Chart()
	if r.chief.Busy() {
		r.t.Fatalf("still busy: %s", show(r.chief))
	}
	awake := 0
	for i, h := range r.hosts {
		if !same(h.Chart(), x) {
			r.t.Fatalf("%d knows %v, not %v", i, h.Chart(), x)
		}
		for _, c := range h.Cores() {
			if c.Sealed {
				continue
			}
			awake++
			if s, is := chart.Find(x, c.ID); !is || s.Node != i || s.Keys != c.Keys || c.Frozen || !core.Check(c) {
				r.t.Fatalf("%v at %d; the chart is %v", c, i, x)
			}
		}
	}
	if awake != len(x.L) {
		r.t.Fatalf("%d of %v are awake", awake, x)
	}
}

// Promises 17.3 to 17.5: whatever is lost, late or doubled, and whoever goes down on the way, what a chief begins comes to its end.
func TestRun(t *testing.T) {
	g := maker{rand.New(rand.NewSource(177)).Intn}
	asked, failed, epochs := 0, 0, 0
	for range 40 {
		r := start(t, g)
		for range 1000 {
			r.some()
		}
		r.calm()
		r.judge()
		asked, failed, epochs = asked+r.asked, failed+r.failed, epochs+r.epoch-1
	}
	if asked < 150 || failed < 500 || epochs < asked {
		t.Errorf("%d changes were asked for, %d were made, %d failures", asked, epochs, failed)
	}
}
