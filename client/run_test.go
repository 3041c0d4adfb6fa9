package client_test

import (
	"math/rand"
	"slices"
	"testing"

	"splice/api"
	"splice/chart"
	"splice/client"
	"splice/core"
	"splice/host"
	"splice/judge"
	"splice/mut"
	"splice/slab"
)

const nodes = 3

// run is some hosts with the shards of a chart, clients, and the notes that are under way.
type run struct {
	t       *testing.T
	g       maker
	x       api.Chart
	next    api.Chart   // of the change under way
	old     []api.Shard // of the change under way; none: there is none
	fresh   []api.Shard // of the change under way
	hosts   []*host.Host
	clients []*client.Client
	issued  [][]api.Mut  // of each client
	marks   []int        // of each client
	notes   []api.Note   // for shards
	told    [][]api.Note // for each client
}

func start(t *testing.T, g maker) *run {
	t.Helper()
	r := &run{t: t, g: g}
	r.x, _ = chart.First(nodes, 1+g.n(4))
	for i := range nodes {
		h, e := host.Open(slab.New(api.MaxBlocks), i, r.x)
		if e != api.OK {
			t.Fatalf("Open: %v", e)
		}
		r.hosts = append(r.hosts, h)
	}
	for i := range 3 {
		on := spans(0, api.MaxKey)
		if i > 0 {
			on = g.on()
		}
		r.clients = append(r.clients, client.New(i+1, on, r.x))
		r.issued, r.marks, r.told = append(r.issued, nil), append(r.marks, 0), append(r.told, nil)
	}
	return r
}

// cores are all cores of all hosts.
func (r *run) cores() (l []api.Core) {
	for _, h := range r.hosts {
		l = append(l, h.Cores()...)
	}
	return l
}

// node is where a shard is, was, or will be.
func (r *run) node(id int) int {
	for i, h := range r.hosts {
		if slices.ContainsFunc(h.Cores(), func(c api.Core) bool { return c.ID == id }) {
			return i
		}
	}
	return 0
}

// take lets a note come to a host, and sends what that tells.
func (r *run) take(i int, n api.Note) []api.Note {
	l, e := r.hosts[i].Take(n)
	if e == api.ErrFull || e == api.ErrDown {
		r.t.Fatalf("%v: %v", n, e)
	}
	for _, n := range l {
		r.send(n)
	}
	return l
}

func (r *run) send(n api.Note) {
	switch {
	case n.Kind == api.NoteProp || n.Kind == api.NoteFinal:
		r.notes = append(r.notes, n)
	case n.Client >= 1 && n.Client <= len(r.told):
		r.told[n.Client-1] = append(r.told[n.Client-1], n)
	}
}

// issue lets a client issue a mutation.
func (r *run) issue(i int) {
	m := r.g.mutation()
	seq, e := r.clients[i].Issue(m)
	if e == api.OK {
		m.Client, m.Seq = i+1, seq
		r.issued[i] = append(r.issued[i], m)
		r.look(i)
	}
}

// tell lets a client tell what it wants; its pushes may come late.
func (r *run) tell(i int) {
	for _, n := range r.clients[i].Wants() {
		switch {
		case r.g.n(6) == 0: // it is lost
		case n.Kind == api.NotePush && r.g.n(3) == 0:
			r.notes = append(r.notes, n)
		default:
			r.take(r.node(n.To), n)
		}
	}
}

// hear lets a note come to a client, one of those that are under way.
func (r *run) hear(i int) {
	l := r.told[i]
	if len(l) == 0 {
		return
	}
	at := r.g.n(len(l))
	n := l[at]
	if r.g.n(6) > 0 { // else it comes twice
		r.told[i] = slices.Delete(l, at, at+1)
	}
	e := r.clients[i].Take(n)
	if e != api.OK && e != api.ErrNone && e != api.ErrForm { // of a shard that is gone, or that has a state, or from a place that is not known yet
		r.t.Fatalf("%v: %v", n, e)
	}
	r.look(i)
}

// look looks whether a client reads what was committed up to its mark, and behind that what is pending, which is all that it issued but for what is committed.
func (r *run) look(i int) {
	c := r.clients[i]
	order, e := judge.Order(r.cores())
	if e != api.OK || !judge.Clients(order) {
		r.t.Fatalf("Order: %v; a client's mutations are not in order: %v", e, order)
	}
	if c.Mark() < r.marks[i] {
		r.t.Fatalf("the mark %d becomes %d", r.marks[i], c.Mark())
	}
	r.marks[i] = c.Mark()
	on, l := c.View().On(), c.Pending()
	if want := judge.Onto(judge.Fold(order, on, c.Mark()), l, on); !slices.Equal(c.Now(), want) {
		r.t.Fatalf("%d reads %v up to %d, not %v", i+1, c.Now(), c.Mark(), want)
	}
	ends := len(r.issued[i]) - len(l) // all ahead of them are not pending any more
	if ends < 0 || !same(l, r.issued[i][ends:]) {
		r.t.Fatalf("pending are %v of %v", l, r.issued[i])
	}
	for _, m := range r.issued[i] {
		at := slices.IndexFunc(order, func(e api.Entry) bool { return mut.Same(e.M, m) })
		if seen := at >= 0 && order[at].Time <= c.Mark(); seen != (m.Seq <= ends) {
			r.t.Fatalf("%v is committed up to the mark %d: %v; the pending ones begin behind %d", m, c.Mark(), seen, ends)
		}
	}
}

// deliver lets a note come to a shard, one of those that are under way.
func (r *run) deliver() {
	if len(r.notes) == 0 {
		return
	}
	at := r.g.n(len(r.notes))
	n := r.notes[at]
	if r.g.n(6) > 0 { // else it comes twice
		r.notes = slices.Delete(r.notes, at, at+1)
	}
	if r.g.n(8) > 0 { // else it is lost
		r.take(r.node(n.To), n)
	}
}

func (r *run) tick() {
	for i, h := range r.hosts {
		l, e := h.Tick()
		if e != api.OK {
			r.t.Fatalf("Tick of %d: %v", i, e)
		}
		for _, n := range l {
			r.send(n)
		}
	}
}

// change begins with a change of the chart, or goes on with it: it is there when all old shards are sealed.
func (r *run) change() {
	if len(r.old) == 0 {
		x := api.Change{Kind: 1 + r.g.n(3), ID: r.x.L[r.g.n(len(r.x.L))].ID, At: r.g.of(0, 1, 2, 5, 1000, 2048, 3000)}
		next, old, fresh, e := chart.Apply(r.x, x)
		if e == api.OK && old[0].Node == old[len(old)-1].Node && fresh[0].Node < nodes && len(next.L) < 8 {
			r.next, r.old, r.fresh = next, old, fresh
		}
		return
	}
	seal := api.Note{Kind: api.NoteSeal, To: r.old[0].ID}
	for _, s := range r.old {
		r.take(s.Node, api.Note{Kind: api.NoteFreeze, To: s.ID})
		if s.ID != seal.To {
			seal.N = s.ID
		}
	}
	told := r.take(r.old[0].Node, seal)
	if len(told) == 0 {
		return
	}
	heirs, e := core.Heirs(told[0].Cores, r.fresh)
	if e != api.OK {
		r.t.Fatalf("Heirs: %v", e)
	}
	for i, s := range r.fresh {
		r.take(s.Node, api.Note{Kind: api.NoteShard, Cores: heirs[i : i+1]})
	}
	r.x, r.old = r.next, nil
	for i := range r.hosts {
		r.take(i, api.Note{Kind: api.NoteChart, Chart: r.x})
	}
}

// some does one thing of those that may be done.
func (r *run) some() {
	i := r.g.n(len(r.clients))
	switch k := r.g.n(14); {
	case k < 2:
		r.issue(i)
	case k == 2:
		r.tick()
	case k == 3 && (r.g.n(3) == 0 || len(r.old) > 0):
		r.change()
	case k < 7:
		r.tell(i)
	case k < 9:
		r.deliver()
	default:
		r.hear(i)
	}
}

// calm loses nothing any more, till nothing is pending; then each client reads all.
func (r *run) calm() {
	r.g = maker{func(most int) int { return most - 1 }} // nothing is lost, nor doubled
	pends := func(c *client.Client) bool { return len(c.Pending()) > 0 }
	for n := 0; n < 5 || slices.ContainsFunc(r.clients, pends); n++ {
		if n == 300 {
			r.t.Fatal("mutations stay pending")
		}
		r.tick()
		for i := range r.clients {
			r.tell(i)
		}
		for len(r.notes) > 0 {
			r.deliver()
		}
		if len(r.old) > 0 {
			r.change()
		}
		for i := range r.clients {
			for len(r.told[i]) > 0 {
				r.hear(i)
			}
		}
	}
	order, _ := judge.Order(r.cores())
	for i, c := range r.clients {
		if want := judge.Fold(order, c.View().On(), api.MaxTime); !slices.Equal(c.Now(), want) {
			r.t.Fatalf("%d reads %v, not %v", i+1, c.Now(), want)
		}
	}
}

// Promise 16.4: whatever is lost, doubled or late, and however the chart is changed: what is read is what was committed up
// to the mark, and the pending mutations behind it; they are committed as they were issued; when nothing is lost any more, none stays pending.
func TestRun(t *testing.T) {
	g := maker{rand.New(rand.NewSource(164)).Intn}
	issued, early, epochs := 0, 0, 0
	for range 30 {
		r := start(t, g)
		for range 600 {
			r.some()
		}
		for i, c := range r.clients {
			issued, early = issued+len(r.issued[i]), early+len(r.issued[i])-len(c.Pending())
		}
		r.calm()
		epochs += r.x.Epoch
	}
	if issued < 1000 || early < 200 || epochs < 90 {
		t.Errorf("%d were issued, %d of them settled while notes were lost; %d in all epochs", issued, early, epochs)
	}
}
