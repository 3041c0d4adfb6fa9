package cluster_test

import (
	"math/rand"
	"slices"
	"testing"

	"splice/api"
	"splice/chart"
	"splice/cluster"
	"splice/judge"
	"splice/mut"
	"splice/span"
)

// run is a cluster, and what is remembered of it.
type run struct {
	t       *testing.T
	g       maker
	c       *cluster.Cluster
	clients int
	issued  [][]api.Mut // of each client
	marks   []int       // of each client
	order   []api.Entry
	epoch   int
	did     map[int]int // how many deeds of each kind went well
	downs   int         // how many trips came
}

func start(t *testing.T, g maker) *run {
	t.Helper()
	r := &run{t: t, g: g, clients: g.of(1, 2, 3, 4), did: map[int]int{}, epoch: 1}
	var on [][]api.Span
	for i := range r.clients {
		on = append(on, g.on(i))
	}
	r.issued, r.marks = make([][]api.Mut, r.clients), make([]int, r.clients)
	nodes := 1 + g.n(api.MaxNodes)
	r.c = cluster.New(nodes, 1+g.n(5), on)
	if r.c == nil || r.c.Nodes() != nodes {
		t.Fatalf("no cluster of %d nodes, of %v", nodes, on)
	}
	return r
}

// do does a deed, and remembers what was issued.
func (r *run) do(d api.Deed) {
	r.t.Helper()
	up := r.ups()
	e := r.c.Do(d)
	if e == api.OK {
		r.did[d.Kind]++
	}
	if d.Kind != api.DeedFail && d.Kind != api.DeedWake && r.ups() < up {
		r.downs++
	}
	if d.Kind == api.DeedIssue && e == api.OK {
		l := r.issued[d.Who-1]
		d.M.Client, d.M.Seq = d.Who, len(l)+1
		r.issued[d.Who-1] = append(l, d.M)
	}
	if x := r.c.Chart(); x.Epoch < r.epoch || !chart.Check(x) {
		r.t.Fatalf("%v: the epoch %d becomes %v", d, r.epoch, x)
	}
	r.epoch = r.c.Chart().Epoch
}

// ups is how many members are up.
func (r *run) ups() (n int) {
	for _, who := range []int{0, 1, 2, 3, 4, api.AddrChief} {
		if r.c.Up(who) {
			n++
		}
	}
	return n
}

// judge looks whether all that was committed is in one order, of which nothing is missed and nothing is taken back.
func (r *run) judge() {
	r.t.Helper()
	cores := r.c.Cores()
	order, e := judge.Order(cores)
	if e != api.OK || !judge.Clients(order) || judge.Missing(cores) != 0 {
		r.t.Fatalf("Order: %v, Missing: %d; of %v", e, judge.Missing(cores), order)
	}
	for _, was := range r.order {
		if !slices.ContainsFunc(order, func(e api.Entry) bool { return same(e, was) }) {
			r.t.Fatalf("%v is committed no more", was)
		}
	}
	for _, e := range order {
		if l := r.issued[e.M.Client-1]; e.M.Seq > len(l) || !same(l[e.M.Seq-1], e.M) {
			r.t.Fatalf("%v is committed, and was not issued", e)
		}
	}
	r.order = order
	r.owners(cores)
	for i := range r.clients {
		r.sees(i, order)
	}
}

// owners looks whether what was committed at a key has rising stamps, over all shards that ever had it: each of them has a greater number than the one before.
func (r *run) owners(cores []api.Core) {
	last := map[int]api.Stamp{} // of some keys
	id := 0
	for _, c := range cores {
		if c.ID <= id {
			r.t.Fatalf("core %d stands behind %d", c.ID, id)
		}
		id = c.ID
		for _, e := range c.Log {
			is := mut.Stamp(e.Time, e.M)
			for _, key := range keys() {
				if !span.Has([]api.Span{c.Keys}, key) || !span.Has(mut.Touch(e.M), key) {
					continue
				}
				if was, has := last[key]; has && mut.Compare(was, is) >= 0 {
					r.t.Fatalf("%v of shard %d is not behind %v, at key %d", e, c.ID, was, key)
				}
				last[key] = is
			}
		}
	}
}

// sees looks whether a client reads what was committed up to its mark, and behind that what is pending, which is all that it issued but for what is committed.
func (r *run) sees(i int, order []api.Entry) {
	r.t.Helper()
	c := r.c.Client(i + 1)
	if c.Mark() < r.marks[i] {
		r.t.Fatalf("the mark %d becomes %d", r.marks[i], c.Mark())
	}
	r.marks[i] = c.Mark()
	on, l := c.View().On(), c.Pending()
	if want := judge.Onto(judge.Fold(order, on, c.Mark()), l, on); !slices.Equal(c.Now(), want) {
		r.t.Fatalf("%d reads %v up to %d, not %v", i+1, c.Now(), c.Mark(), want)
	}
	ends := len(r.issued[i]) - len(l) // all ahead of them are not pending any more
	if ends < 0 || !same(l, r.issued[i][ends:]) {
		r.t.Fatalf("pending are %v of %v", l, r.issued[i])
	}
	for _, m := range r.issued[i] {
		at := slices.IndexFunc(order, func(e api.Entry) bool { return mut.Same(e.M, m) })
		if seen := at >= 0 && order[at].Time <= c.Mark(); seen != (m.Seq <= ends) {
			r.t.Fatalf("%v is committed up to the mark %d: %v; the pending ones begin behind %d", m, c.Mark(), seen, ends)
		}
	}
}

// calm lets all come to its end: then nothing is left to do, and each client reads all.
func (r *run) calm() {
	r.t.Helper()
	rounds, done := r.c.Calm()
	if !done || rounds < 4 {
		r.t.Fatalf("Calm: %d rounds, %v", rounds, done)
	}
	if x := r.c.Chart(); x.Epoch < r.epoch {
		r.t.Fatalf("the epoch %d becomes %v", r.epoch, x)
	}
	r.epoch = r.c.Chart().Epoch
	r.judge()
	if up := r.c.Nodes() + 1; r.ups() != up || r.c.Mails() != 0 {
		r.t.Fatalf("%d of %d are up, %d mails", r.ups(), up, r.c.Mails())
	}
	for i := range r.clients {
		c := r.c.Client(i + 1)
		if want := judge.Fold(r.order, c.View().On(), api.MaxTime); len(c.Pending()) > 0 || !slices.Equal(c.Now(), want) {
			r.t.Fatalf("%d reads %v, not %v; pending are %v", i+1, c.Now(), want, c.Pending())
		}
	}
	all := 0
	for _, l := range r.issued {
		all += len(l)
	}
	if len(r.order) != all {
		r.t.Fatalf("%d of %d are committed", len(r.order), all)
	}
	r.awake()
}

// awake looks whether the shards of the chart are awake, and no other ones are, and whether nothing is held.
func (r *run) awake() {
	r.t.Helper()
	x, n := r.c.Chart(), 0
	for _, c := range r.c.Cores() {
		if len(c.Held) > 0 {
			r.t.Fatalf("%v holds something", c)
		}
		if c.Sealed {
			continue
		}
		n++
		if s, is := chart.Find(x, c.ID); !is || s.Keys != c.Keys || c.Frozen {
			r.t.Fatalf("%v is awake; the chart is %v", c, x)
		}
	}
	if n != len(x.L) {
		r.t.Fatalf("%d of %v are awake", n, x)
	}
}

// Promises 18.2 and 18.4: whatever is done, there is one order, and each client sees it up to its mark; Calm lets all come to its end.
func TestRun(t *testing.T) {
	g := maker{rand.New(rand.NewSource(184)).Intn}
	did, downs, issued, epochs := map[int]int{}, 0, 0, 0
	for range 70 {
		r := start(t, g)
		for range 3 {
			for i := range 250 {
				r.do(g.deed(r.c))
				if i%10 == 0 {
					r.judge()
				}
			}
			r.calm()
		}
		for k, n := range r.did {
			did[k] += n
		}
		downs, issued, epochs = downs+r.downs, issued+len(r.order), epochs+r.epoch-1
	}
	for k := api.DeedIssue; k <= api.DeedChange; k++ {
		if did[k] < 200 {
			t.Errorf("%d deeds of the kind %d", did[k], k)
		}
	}
	if downs < 200 || issued < 2000 || epochs < 200 {
		t.Errorf("%d trips came, %d were issued, %d changes; deeds: %v", downs, issued, epochs, did)
	}
}
