package keeper_test

import (
	"fmt"
	"math/rand"
	"slices"
	"testing"

	"splice/api"
	"splice/balance"
	"splice/chart"
	"splice/cluster"
	"splice/core"
	"splice/judge"
	"splice/keeper"
	"splice/mut"
	"splice/span"
)

// modelLoads are the loads of a cluster, key by key.
func modelLoads(c *cluster.Cluster) []api.Pair {
	has := map[int]bool{}
	for _, k := range c.Cores() {
		for _, p := range core.Table(k) {
			has[p.Key] = has[p.Key] || !k.Sealed
		}
	}
	var l []api.Pair
	for key := range api.MaxKey {
		if has[key] {
			l = append(l, api.Pair{Key: key, Val: 1})
		}
	}
	return l
}

// follows tells whether a mutation touches a key that a client follows.
func follows(m api.Mut, on []api.Span) bool {
	for _, s := range mut.Touch(m) {
		for key := s.Lo; key < s.Hi; key++ {
			if span.Has(on, key) {
				return true
			}
		}
	}
	return false
}

// modelLook is the health of a cluster of some clients, word by word.
func modelLook(c *cluster.Cluster, clients int) api.Health {
	h := api.Health{Missing: judge.Missing(c.Cores()), Epoch: c.Chart().Epoch}
	for who := range c.Nodes() {
		if c.Up(who) {
			h.Up++
		}
	}
	for _, k := range c.Cores() {
		h.Cores++
		h.Held += len(k.Held)
		if k.Sealed {
			h.Sealed++
		}
	}
	order, e := judge.Order(c.Cores())
	if e != api.OK {
		panic(e)
	}
	for i := range clients {
		k, lag := c.Client(i+1), 0
		h.Pending += len(k.Pending())
		for _, e := range order {
			if e.Time > k.Mark() && follows(e.M, k.View().On()) {
				lag++
			}
		}
		h.Lag = max(h.Lag, lag)
	}
	return h
}

// modelBalance asks the chief of a cluster for what is suggested.
func modelBalance(c *cluster.Cluster, p api.Policy) (api.Change, bool, api.Errno) {
	x, some, e := balance.Suggest(c.Chart(), modelLoads(c), p, c.Nodes())
	if e != api.OK || !some {
		return api.Change{}, false, e
	}
	if e := c.Do(api.Deed{Kind: api.DeedChange, X: x}); e != api.OK {
		return api.Change{}, false, e
	}
	return x, true, api.OK
}

// modelKeep does what is suggested, with a Calm ahead of it and another one behind it.
func modelKeep(c *cluster.Cluster, p api.Policy, most int) ([]api.Change, api.Errno) {
	var l []api.Change
	for len(l) < most {
		if _, done := c.Calm(); !done {
			return nil, api.ErrBusy
		}
		x, some, e := modelBalance(c, p)
		if e != api.OK {
			return nil, e
		}
		if !some {
			return l, api.OK
		}
		l = append(l, x)
		if _, done := c.Calm(); !done {
			return nil, api.ErrBusy
		}
	}
	return l, api.OK
}

// maker makes things that are often near the edge, from numbers that it is handed.
type maker struct {
	n func(most int) int // from 0 on, below most
}

func (g maker) of(l ...int) int {
	return l[g.n(len(l))]
}

func (g maker) key() int {
	return g.of(0, 1, 2, 5, 6, 7, 8, 9, 1000, 1023, 1024, 1365, 2047, 2048, 3000, 4094, 4095)
}

// on is a set of keys: the first client follows all.
func (g maker) on(i int) []api.Span {
	if i == 0 {
		return all()
	}
	lo := g.key()
	return some(lo, g.of(lo+1, min(lo+10, api.MaxKey), api.MaxKey))
}

func (g maker) policy() api.Policy {
	high := g.of(0, 1, 2, 3, 4, 6, 10)
	return api.Policy{High: high, Low: min(high, g.of(0, 0, 1, 2, 4)), Slack: g.of(0, 1, 2, 3, 5)}
}

func (g maker) mutation() api.Mut {
	k, l, val := g.key(), g.key(), g.n(6)-1
	switch g.n(8) {
	case 0:
		return add(k, val)
	case 1:
		return del(k, k+g.of(1, 2, 10))
	case 2, 3, 4:
		return move(k, l, val) // none, if the keys are the same, or the value is below 0
	case 5:
		return put(min(k, l), val, max(k, l), 5) // none, if the keys are the same
	}
	return put(k, val)
}

func (g maker) loss() api.Loss {
	x := api.Loss{Torn: g.of(-1, 3, 1002), At: g.of(0, 100, 256)}
	for range g.n(5) {
		x.Keep = append(x.Keep, g.n(8), 1000+g.n(8))
	}
	return x
}

// deed is one that may be of use.
func (g maker) deed(x api.Chart) api.Deed {
	who := g.of(0, 1, 2, api.AddrChief)
	switch k := g.n(40); {
	case k < 7:
		return api.Deed{Kind: api.DeedIssue, Who: 1 + g.n(4), M: g.mutation()}
	case k < 11:
		return api.Deed{Kind: api.DeedTell, Who: 1 + g.n(4)}
	case k < 14:
		return api.Deed{Kind: api.DeedTick, Who: who}
	case k < 16:
		return api.Deed{Kind: g.of(api.DeedTwice, api.DeedLose), N: g.n(50)}
	case k == 16:
		return api.Deed{Kind: api.DeedApart, Who: g.of(0, 1, 9, 17), N: g.of(1, 2, 9, 18), On: g.n(2) == 0}
	case k == 17:
		return api.Deed{Kind: api.DeedFail, Who: who, Loss: g.loss()}
	case k < 20:
		return api.Deed{Kind: api.DeedWake, Who: who}
	case k == 20:
		return api.Deed{Kind: api.DeedTrip, Who: who, N: 1 + g.n(4), Loss: g.loss()}
	case k == 21:
		s := x.L[g.n(len(x.L))]
		return api.Deed{Kind: api.DeedChange, X: api.Change{Kind: 1 + g.n(3), ID: s.ID, At: g.of(0, 1, s.Keys.Lo+1, (s.Keys.Lo+s.Keys.Hi)/2)}}
	}
	return api.Deed{Kind: api.DeedMail, N: g.n(50)}
}

// pair is a cluster that is kept, and its twin, which the model keeps.
type pair struct {
	t       *testing.T
	g       maker
	c, twin *cluster.Cluster
	clients int
}

func start(t *testing.T, g maker) *pair {
	t.Helper()
	var on [][]api.Span
	for i := range g.of(0, 1, 2, 4) {
		on = append(on, g.on(i))
	}
	nodes, shards := 1+g.n(3), 1+g.n(5)
	return &pair{t, g, made(t, nodes, shards, on...), made(t, nodes, shards, on...), len(on)}
}

// looks looks at all that is asked of the cluster, and whether asking changes nothing.
func (r *pair) looks() (h api.Health, some bool) {
	r.t.Helper()
	p := r.g.policy()
	loads := modelLoads(r.twin)
	if l := keeper.Loads(r.c); !slices.Equal(l, loads) {
		r.t.Fatalf("Loads: %v, not %v", l, loads)
	}
	h = keeper.Look(r.c)
	if want := modelLook(r.twin, r.clients); h != want {
		r.t.Fatalf("Look: %+v, not %+v", h, want)
	}
	x, some, e := keeper.Suggest(r.c, p)
	y, is, f := balance.Suggest(r.twin.Chart(), loads, p, r.twin.Nodes())
	if x != y || some != is || e != f {
		r.t.Fatalf("Suggest of %v: %v, %v, %d, not %v, %v, %d", p, x, some, e, y, is, f)
	}
	if keeper.Fair(r.c, p) != (f == api.OK && !is) {
		r.t.Fatalf("%v is fair, or not; suggested is %v, %v", p, y, is)
	}
	return h, some
}

// do does a deed, or asks for what is suggested.
func (r *pair) do() {
	r.t.Helper()
	if r.g.n(20) == 0 {
		p := r.g.policy()
		x, some, e := keeper.Balance(r.c, p)
		if y, is, f := modelBalance(r.twin, p); x != y || some != is || e != f {
			r.t.Fatalf("Balance of %v: %v, %v, %d, not %v, %v, %d", p, x, some, e, y, is, f)
		}
		return
	}
	d := r.g.deed(r.twin.Chart())
	times := 1
	if d.Kind == api.DeedMail {
		times = r.g.of(1, 1, 10)
	}
	for range times {
		if e, f := r.c.Do(d), r.twin.Do(d); e != f {
			r.t.Fatalf("%v: %d, not %d", d, e, f)
		}
	}
}

// keep lets both be kept, and looks whether nothing is lost by that.
func (r *pair) keep() []api.Change {
	r.t.Helper()
	p, most := r.g.policy(), r.g.of(0, 1, 2, 3, 8, 20)
	calm := r.g.n(2) == 0 // at times a Calm comes ahead, so that what is read can be compared
	if calm {
		calms(r.t, r.c)
		calms(r.t, r.twin)
	}
	was, order := fmt.Sprint(r.reads()), fmt.Sprint(r.order())
	l, e := keeper.Keep(r.c, p, most)
	if want, f := modelKeep(r.twin, p, most); e != f || !slices.Equal(l, want) {
		r.t.Fatalf("Keep of %v, %d: %v, %d, not %v, %d", p, most, l, e, want, f)
	}
	if e != api.OK {
		r.t.Fatalf("Keep of %v, %d: %d", p, most, e)
	}
	if is, want := show(r.c), show(r.twin); is != want {
		r.t.Fatalf("Keep of %v, %d: %s, not %s", p, most, is, want)
	}
	h, _ := r.looks()
	if calm && (fmt.Sprint(r.reads()) != was || fmt.Sprint(r.order()) != order) {
		r.t.Fatalf("Keep of %v, %d: %v becomes %v; committed was %v", p, most, was, r.reads(), order)
	}
	if most > 0 {
		r.whole(h)
	}
	if len(l) < most && !keeper.Fair(r.c, p) {
		r.t.Fatalf("Keep of %v, %d: %v is not all", p, most, l)
	}
	return l
}

// reads is what each client reads.
func (r *pair) reads() (l [][]api.Pair) {
	for i := range r.clients {
		l = append(l, r.c.Client(i+1).Now())
	}
	return l
}

// order is all that was committed.
func (r *pair) order() []api.Entry {
	l, _ := judge.Order(r.c.Cores())
	return l
}

// whole looks whether all has come to its end, and each client reads all.
func (r *pair) whole(h api.Health) {
	r.t.Helper()
	x := r.c.Chart()
	if h.Up != r.c.Nodes() || h.Held+h.Pending+h.Missing+h.Lag != 0 || h.Cores-h.Sealed != len(x.L) || h.Epoch != x.Epoch || !chart.Check(x) {
		r.t.Fatalf("%+v; %v", h, x)
	}
	for i := range r.clients {
		k := r.c.Client(i + 1)
		if want := judge.Fold(r.order(), k.View().On(), api.MaxTime); !slices.Equal(k.Now(), want) {
			r.t.Fatalf("%d reads %v, not %v", i+1, k.Now(), want)
		}
	}
	if n := len(judge.Fold(r.order(), all(), api.MaxTime)); len(keeper.Loads(r.c)) != n {
		r.t.Fatalf("%d keys have values; %v", n, keeper.Loads(r.c))
	}
}

// agree does some deeds to a cluster and its twin, and keeps both. It answers what was done, and the healths that were seen.
func agree(t *testing.T, g maker, deeds int) (done []api.Change, seen []api.Health) {
	t.Helper()
	r := start(t, g)
	r.looks()
	for range 2 {
		for i := range deeds {
			r.do()
			if i%7 == 0 {
				h, _ := r.looks()
				seen = append(seen, h)
			}
		}
		done = append(done, r.keep()...)
	}
	return done, seen
}

// Promises 28.1 to 28.4: a cluster is looked at and kept as chapter 28 says, word by word, and nothing is lost by that.
func TestModel(t *testing.T) {
	g := maker{rand.New(rand.NewSource(281)).Intn}
	kinds := [4]int{}
	var most api.Health
	for range 90 {
		done, seen := agree(t, g, 160)
		for _, x := range done {
			kinds[x.Kind]++
		}
		for _, h := range seen {
			most.Held, most.Pending, most.Lag, most.Sealed = max(most.Held, h.Held), max(most.Pending, h.Pending), max(most.Lag, h.Lag), max(most.Sealed, h.Sealed)
		}
	}
	if min(kinds[api.Split], kinds[api.Merge], kinds[api.Shift]) < 20 {
		t.Errorf("%v changes of each kind", kinds)
	}
	if most.Held < 2 || min(most.Pending, most.Lag, most.Sealed) < 4 {
		t.Errorf("at most %+v", most)
	}
}

func FuzzModel(f *testing.F) {
	f.Add([]byte("some deeds, and some more of them"))
	f.Fuzz(func(t *testing.T, b []byte) {
		n := min(len(b)/6, 60)
		agree(t, maker{func(most int) int {
			if len(b) == 0 || most < 2 {
				return 0
			}
			n := int(b[0])
			b = b[1:]
			return n % most
		}}, n)
	})
}
