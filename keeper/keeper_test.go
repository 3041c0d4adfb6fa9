package keeper_test

import (
	"fmt"
	"math"
	"reflect"
	"slices"
	"testing"

	"splice/api"
	"splice/balance"
	"splice/cluster"
	"splice/keeper"
)

// all is the set of all keys.
func all() []api.Span {
	return []api.Span{{Lo: 0, Hi: api.MaxKey}}
}

// some is the set of the keys from one up to another.
func some(lo, hi int) []api.Span {
	return []api.Span{{Lo: lo, Hi: hi}}
}

// made is a cluster whose clients follow these sets.
func made(t *testing.T, nodes, shards int, on ...[]api.Span) *cluster.Cluster {
	t.Helper()
	c := cluster.New(nodes, shards, on)
	if c == nil {
		t.Fatalf("no cluster of %d nodes and %d shards", nodes, shards)
	}
	return c
}

func put(l ...int) api.Mut {
	m := api.Mut{Kind: api.MutPut}
	for i := 0; i < len(l); i += 2 {
		m.Pairs = append(m.Pairs, api.Pair{Key: l[i], Val: l[i+1]})
	}
	return m
}

func move(from, to, val int) api.Mut {
	return api.Mut{Kind: api.MutMove, Pairs: []api.Pair{{Key: from, Val: val}, {Key: to, Val: val}}}
}

func add(key, val int) api.Mut {
	return api.Mut{Kind: api.MutAdd, Pairs: []api.Pair{{Key: key, Val: val}}}
}

func del(lo, hi int) api.Mut {
	return api.Mut{Kind: api.MutDel, Over: api.Span{Lo: lo, Hi: hi}}
}

// does does a deed that goes well.
func does(t *testing.T, c *cluster.Cluster, d api.Deed) {
	t.Helper()
	if e := c.Do(d); e != api.OK {
		t.Fatalf("%v: %d", d, e)
	}
}

func issues(t *testing.T, c *cluster.Cluster, who int, l ...api.Mut) {
	t.Helper()
	for _, m := range l {
		does(t, c, api.Deed{Kind: api.DeedIssue, Who: who, M: m})
	}
}

// talks lets a client alone tell what it wants, so often, and all that comes of it arrive.
func talks(t *testing.T, c *cluster.Cluster, who, times int) {
	t.Helper()
	for range times {
		does(t, c, api.Deed{Kind: api.DeedTell, Who: who})
		for c.Mails() > 0 {
			does(t, c, api.Deed{Kind: api.DeedMail})
		}
	}
}

func calms(t *testing.T, c *cluster.Cluster) {
	t.Helper()
	if n, done := c.Calm(); !done {
		t.Fatalf("not calm after %d rounds", n)
	}
}

// changes lets the chief make a change, and all come to its end.
func changes(t *testing.T, c *cluster.Cluster, kind, id, at int) {
	t.Helper()
	does(t, c, api.Deed{Kind: api.DeedChange, X: api.Change{Kind: kind, ID: id, At: at}})
	calms(t, c)
}

// loads looks at the keys that have loads.
func loads(t *testing.T, c *cluster.Cluster, keys ...int) {
	t.Helper()
	var want []api.Pair
	for _, k := range keys {
		want = append(want, api.Pair{Key: k, Val: 1})
	}
	if l := keeper.Loads(c); !slices.Equal(l, want) {
		t.Fatalf("%v, not %v", l, want)
	}
}

// looks looks at the health.
func looks(t *testing.T, c *cluster.Cluster, want api.Health) {
	t.Helper()
	if h := keeper.Look(c); h != want {
		t.Fatalf("%+v, not %+v", h, want)
	}
}

// suggests looks at what is suggested, or whether nothing is.
func suggests(t *testing.T, c *cluster.Cluster, p api.Policy, want ...api.Change) {
	t.Helper()
	x, is, e := keeper.Suggest(c, p)
	if e != api.OK || is != (len(want) > 0) || is && x != want[0] || !is && x != (api.Change{}) {
		t.Fatalf("%v: %v, %v, %d, not %v", p, x, is, e, want)
	}
	if keeper.Fair(c, p) == is {
		t.Fatalf("%v: %v is suggested, %v; fair: %v", p, x, is, !is)
	}
}

// show is all that can be seen of a cluster.
func show(c *cluster.Cluster) string {
	var l []any
	for _, who := range []int{0, 1, 2, 3, 4, api.AddrChief} {
		l = append(l, c.Up(who))
	}
	for i := 1; c.Client(i) != nil; i++ {
		k := c.Client(i)
		l = append(l, k.Now(), k.Pending(), k.Mark(), k.Wants())
	}
	return fmt.Sprint(append(l, c.Cores(), c.Chart(), c.Mails())...)
}

// Promise 28.1: each key that has a value has the load 1, whatever that value is.
func TestLoads(t *testing.T) {
	c := made(t, 2, 3, all())
	loads(t, c)
	issues(t, c, 1, put(5, 0, 6, -9, 2000, 7, 4095, api.MaxVal), add(2001, 4), add(7, -1), put(0, 1))
	loads(t, c) // which are pending
	calms(t, c)
	loads(t, c, 0, 5, 6, 2000, 2001, 4095) // the add of -1 failed
	issues(t, c, 1, del(5, 6), del(2001, 4095), move(5, 4000, 0))
	calms(t, c)
	loads(t, c, 0, 5, 6, 2000, 4000, 4095)

	c = made(t, 1, 1, all())
	var want []int
	for i := range 20 {
		issues(t, c, 1, put(3*(19-i), i))
		want = append(want, 3*i)
	}
	calms(t, c)
	loads(t, c, want...)
	loads(t, nil)
}

// Promise 28.1: cores that are sealed do not count, those that are frozen do, and of nodes that are down, too.
func TestLoadsSealed(t *testing.T) {
	c := made(t, 2, 1, all())
	issues(t, c, 1, put(5, 1, 100, 2, 4000, 3))
	calms(t, c)
	changes(t, c, api.Shift, 1, 1) // the shard with the greater number has the same keys
	loads(t, c, 5, 100, 4000)
	changes(t, c, api.Split, 2, 100) // 3 and 4
	changes(t, c, api.Shift, 3, 0)   // 5: its number is above 4, and its keys below
	issues(t, c, 1, put(5, 9, 6, 9, 101, 9), del(4000, 4001))
	calms(t, c)
	loads(t, c, 5, 6, 100, 101)
	does(t, c, api.Deed{Kind: api.DeedFail, Who: 0})
	does(t, c, api.Deed{Kind: api.DeedFail, Who: 1})
	loads(t, c, 5, 6, 100, 101)

	c = made(t, 1, 1, all())
	issues(t, c, 1, put(5, 1, 100, 2))
	calms(t, c)
	does(t, c, api.Deed{Kind: api.DeedChange, X: api.Change{Kind: api.Split, ID: 1, At: 50}})
	does(t, c, api.Deed{Kind: api.DeedTick, Who: api.AddrChief})
	does(t, c, api.Deed{Kind: api.DeedMail}) // it is frozen
	if l := c.Cores(); len(l) != 1 || !l[0].Frozen || l[0].Sealed {
		t.Fatalf("%v", l)
	}
	loads(t, c, 5, 100)
	does(t, c, api.Deed{Kind: api.DeedMail}) // it is sealed
	if l := c.Cores(); len(l) != 1 || !l[0].Sealed {
		t.Fatalf("%v", l)
	}
	loads(t, c)
	calms(t, c)
	loads(t, c, 5, 100)
}

// Promise 28.1: how many nodes are up, for which the chief does not count, and the epoch of the chief's chart.
func TestLookUp(t *testing.T) {
	c := made(t, 5, 1)
	looks(t, c, api.Health{Up: 5, Cores: 1, Epoch: 1})
	does(t, c, api.Deed{Kind: api.DeedFail, Who: api.AddrChief})
	looks(t, c, api.Health{Up: 5, Cores: 1, Epoch: 1})
	does(t, c, api.Deed{Kind: api.DeedFail, Who: 0})
	does(t, c, api.Deed{Kind: api.DeedFail, Who: 4})
	looks(t, c, api.Health{Up: 3, Cores: 1, Epoch: 1})
	for _, who := range []int{1, 2, 3} {
		does(t, c, api.Deed{Kind: api.DeedFail, Who: who})
	}
	looks(t, c, api.Health{Up: 0, Cores: 1, Epoch: 1})
	calms(t, c)
	changes(t, c, api.Split, 1, 5)
	looks(t, c, api.Health{Up: 5, Cores: 3, Sealed: 1, Epoch: 2})
	changes(t, c, api.Merge, 2, 0)
	looks(t, c, api.Health{Up: 5, Cores: 4, Sealed: 3, Epoch: 3})
	looks(t, nil, api.Health{})
}

// Promise 28.1: what all cores hold, and what is pending of all clients.
func TestLookHeld(t *testing.T) {
	c := made(t, 3, 3, all(), all(), some(0, 10))
	issues(t, c, 1, put(5, 1, 2000, 1, 4000, 1), put(6, 1))
	issues(t, c, 2, move(1, 4001, 1))
	looks(t, c, api.Health{Up: 3, Cores: 3, Pending: 3, Epoch: 1})
	does(t, c, api.Deed{Kind: api.DeedTell, Who: 1})
	does(t, c, api.Deed{Kind: api.DeedMail}) // shard 1 holds it
	looks(t, c, api.Health{Up: 3, Cores: 3, Held: 1, Pending: 3, Epoch: 1})
	for range 3 {
		does(t, c, api.Deed{Kind: api.DeedLose})
	}
	does(t, c, api.Deed{Kind: api.DeedMail}) // shard 2 holds it, too, till it hears of shard 3
	looks(t, c, api.Health{Up: 3, Cores: 3, Held: 2, Pending: 3, Epoch: 1})
	for c.Mails() > 0 {
		does(t, c, api.Deed{Kind: api.DeedLose})
	}
	does(t, c, api.Deed{Kind: api.DeedTell, Who: 2})
	does(t, c, api.Deed{Kind: api.DeedMail}) // shard 1 holds two
	looks(t, c, api.Health{Up: 3, Cores: 3, Held: 3, Pending: 3, Epoch: 1})
	issues(t, c, 3, put(9, 1))
	does(t, c, api.Deed{Kind: api.DeedFail, Who: 0}) // what it holds counts still
	looks(t, c, api.Health{Up: 2, Cores: 3, Held: 3, Pending: 4, Epoch: 1})
	calms(t, c)
	looks(t, c, api.Health{Up: 3, Cores: 3, Epoch: 1})
}

// Promise 28.1: the lag is that of the client that is furthest behind what it follows.
func TestLookLag(t *testing.T) {
	c := made(t, 1, 1, some(0, 10), all(), some(5, 10), some(4000, 4096))
	issues(t, c, 2, put(1, 1, 4000, 1), put(5, 1), add(5, -7), del(4, 6), put(9, 2))
	talks(t, c, 2, 6)
	if k := c.Client(2); len(k.Pending()) != 0 || k.Mark() != 5 {
		t.Fatalf("%v, %d", k.Pending(), k.Mark())
	}
	lag := func(want int) {
		t.Helper()
		looks(t, c, api.Health{Up: 1, Cores: 1, Lag: want, Epoch: 1})
	}
	lag(5) // of client 1; of client 3 it is 4, also by the add that failed, and of client 4 it is 1
	talks(t, c, 1, 1)
	lag(4)
	talks(t, c, 3, 1)
	lag(1)
	talks(t, c, 4, 1)
	lag(0)
	issues(t, c, 2, put(5, 1, 4000, 1), put(6, 1))
	looks(t, c, api.Health{Up: 1, Cores: 1, Pending: 2, Epoch: 1})
	talks(t, c, 2, 3)
	lag(2)
	talks(t, c, 3, 1)
	lag(2)
	talks(t, c, 1, 1)
	lag(1)
	calms(t, c)
	lag(0)

	c = made(t, 1, 1) // without clients
	lag(0)
}

// Promise 28.1: the example of Look, and that of Loads.
func TestLookExample(t *testing.T) {
	c := made(t, 2, 1, all())
	var want []int
	for i := range 20 {
		issues(t, c, 1, put(3*i, i))
		want = append(want, 3*i)
	}
	looks(t, c, api.Health{Up: 2, Cores: 1, Pending: 20, Epoch: 1})
	calms(t, c)
	looks(t, c, api.Health{Up: 2, Cores: 1, Epoch: 1})
	loads(t, c, want...)
}

// Promise 28.2: what is suggested is what the loads, the chief's chart and the number of nodes suggest.
func TestSuggest(t *testing.T) {
	c := made(t, 3, 3, all())
	for _, k := range []int{1, 2, 3, 10, 11, 12, 4000} {
		issues(t, c, 1, put(k, 100))
	}
	p := api.Policy{High: 5, Low: 0, Slack: 9}
	suggests(t, c, p) // all is pending
	calms(t, c)
	suggests(t, c, p, api.Change{Kind: api.Split, ID: 1, At: 4})
	suggests(t, c, api.Policy{High: 6, Slack: 5})
	changes(t, c, api.Split, 1, 4)
	suggests(t, c, api.Policy{High: 6, Low: 5, Slack: 6})
	suggests(t, c, api.Policy{High: 6, Low: 6, Slack: 6}, api.Change{Kind: api.Merge, ID: 4})
	suggests(t, c, api.Policy{High: 6, Low: 6, Slack: 5}, api.Change{Kind: api.Shift, ID: 4, At: 1})
	changes(t, c, api.Shift, 4, 1)
	suggests(t, c, api.Policy{High: 6, Low: 6, Slack: 5})

	c = made(t, 1, 2, all()) // without a node to shift to
	issues(t, c, 1, put(1, 1, 2, 1, 3, 1))
	calms(t, c)
	suggests(t, c, api.Policy{High: 9})
	suggests(t, c, api.Policy{High: 9, Low: 3}, api.Change{Kind: api.Merge, ID: 1})
}

// Promise 28.2: the chart is the chief's, also while a change is in progress.
func TestSuggestBusy(t *testing.T) {
	c := made(t, 2, 1, all())
	issues(t, c, 1, put(1, 1, 2, 1, 3, 1))
	calms(t, c)
	p := api.Policy{High: 2, Slack: 9}
	split := api.Change{Kind: api.Split, ID: 1, At: 2}
	suggests(t, c, p, split)
	does(t, c, api.Deed{Kind: api.DeedChange, X: split})
	suggests(t, c, p, split)
	if x, is, e := keeper.Balance(c, p); x != (api.Change{}) || is || e != api.ErrBusy {
		t.Errorf("%v, %v, %d", x, is, e)
	}
	does(t, c, api.Deed{Kind: api.DeedTick, Who: api.AddrChief})
	for range 2 {
		does(t, c, api.Deed{Kind: api.DeedMail})
	}
	suggests(t, c, p) // the shard is sealed, and no other one has its keys
	if x, is, e := keeper.Balance(c, p); x != (api.Change{}) || is || e != api.OK {
		t.Errorf("%v, %v, %d", x, is, e)
	}
	calms(t, c)
	suggests(t, c, p)
	suggests(t, c, api.Policy{High: 1, Slack: 9}, api.Change{Kind: api.Split, ID: 3, At: 3})
}

// invalid are policies that may not be.
func invalid() []api.Policy {
	return []api.Policy{{High: -1}, {High: 1, Low: 2}, {Low: -1}, {Slack: -1}, {High: api.MaxVal + 1}, {Slack: api.MaxVal + 1}, {High: math.MaxInt, Low: math.MinInt}}
}

// Promises 28.2 and 28.3: no cluster and policies that may not be are refused.
func TestArguments(t *testing.T) {
	c := made(t, 2, 1, all())
	issues(t, c, 1, put(1, 1, 2, 1))
	was := show(c)
	fails := func(c *cluster.Cluster, p api.Policy) {
		t.Helper()
		if x, is, e := keeper.Suggest(c, p); x != (api.Change{}) || is || e != api.ErrArg {
			t.Errorf("Suggest of %v: %v, %v, %d", p, x, is, e)
		}
		if x, is, e := keeper.Balance(c, p); x != (api.Change{}) || is || e != api.ErrArg {
			t.Errorf("Balance of %v: %v, %v, %d", p, x, is, e)
		}
		for _, most := range []int{-1, 0, 1, 5, math.MaxInt, math.MinInt} {
			if l, e := keeper.Keep(c, p, most); l != nil || e != api.ErrArg {
				t.Errorf("Keep of %v, %d: %v, %d", p, most, l, e)
			}
		}
		if keeper.Fair(c, p) {
			t.Errorf("%v is fair", p)
		}
	}
	for _, p := range invalid() {
		fails(c, p)
		fails(nil, p)
	}
	fails(nil, api.Policy{High: 9, Low: 3, Slack: 3})
	fails(nil, api.Policy{})
	if is := show(c); is != was {
		t.Errorf("%s becomes %s", was, is)
	}
}

// Promise 28.2: the chief is asked for what is suggested, and for nothing if nothing is.
func TestBalance(t *testing.T) {
	c := made(t, 2, 1, all())
	was := show(c)
	p := api.Policy{High: 2, Slack: 9}
	none := func() {
		t.Helper()
		if x, is, e := keeper.Balance(c, p); x != (api.Change{}) || is || e != api.OK {
			t.Fatalf("%v, %v, %d", x, is, e)
		}
	}
	none()
	if is := show(c); is != was {
		t.Fatalf("%s becomes %s", was, is)
	}
	does(t, c, api.Deed{Kind: api.DeedFail, Who: api.AddrChief})
	none() // nobody is asked
	issues(t, c, 1, put(1, 1, 2, 1, 3, 1))
	calms(t, c)
	does(t, c, api.Deed{Kind: api.DeedFail, Who: api.AddrChief})
	if x, is, e := keeper.Balance(c, p); x != (api.Change{}) || is || e != api.ErrDown {
		t.Fatalf("%v, %v, %d", x, is, e)
	}
	does(t, c, api.Deed{Kind: api.DeedWake, Who: api.AddrChief})
	want := api.Change{Kind: api.Split, ID: 1, At: 2}
	if x, is, e := keeper.Balance(c, p); x != want || !is || e != api.OK {
		t.Fatalf("%v, %v, %d", x, is, e)
	}
	if c.Chart().Epoch != 1 || c.Mails() != 0 { // it is asked for, and no more
		t.Fatalf("%v", c.Chart())
	}
	calms(t, c)
	if x := c.Chart(); x.Epoch != 2 || len(x.L) != 2 || x.L[0].Keys.Hi != 2 {
		t.Fatalf("%v", x)
	}
	none()
}

// kept looks at what is done by Keep.
func kept(t *testing.T, c *cluster.Cluster, p api.Policy, most int, want ...api.Change) {
	t.Helper()
	if l, e := keeper.Keep(c, p, most); e != api.OK || !slices.Equal(l, want) {
		t.Fatalf("Keep of %v, %d: %v, %d, not %v", p, most, l, e, want)
	}
}

// Promise 28.3: the example.
func TestKeepExample(t *testing.T) {
	c := made(t, 2, 1, all())
	for i := range 20 {
		issues(t, c, 1, put(3*i, i))
	}
	p := api.Policy{High: 12, Low: 3, Slack: 6}
	kept(t, c, p, 9, api.Change{Kind: api.Split, ID: 1, At: 28}, api.Change{Kind: api.Shift, ID: 2, At: 1})
	if !keeper.Fair(c, p) {
		t.Error("it is not fair")
	}
	looks(t, c, api.Health{Up: 2, Cores: 4, Sealed: 2, Epoch: 3})

	c = made(t, 1, 1, all())
	issues(t, c, 1, put(1, 1, 2, 2, 3, 3, 4, 4))
	p = api.Policy{High: 3}
	kept(t, c, p, 9, api.Change{Kind: api.Split, ID: 1, At: 3})
	if l, e := balance.Shards(c.Chart(), keeper.Loads(c)); e != api.OK || !slices.Equal(l, []int{2, 2}) {
		t.Errorf("%v, %d", l, e)
	}
	if !keeper.Fair(c, p) {
		t.Error("it is not fair")
	}
}

// Promise 28.3: no more is done than may be, and that comes to its end.
func TestKeepMost(t *testing.T) {
	p := api.Policy{High: 1, Slack: 1}
	full := []api.Change{{Kind: api.Split, ID: 1, At: 3}, {Kind: api.Split, ID: 2, At: 2}, {Kind: api.Split, ID: 3, At: 4}, {Kind: api.Shift, ID: 4, At: 1}, {Kind: api.Shift, ID: 5, At: 1}}
	for _, most := range []int{math.MinInt, -1, 0, 1, 2, 3, 4, 5, 6, 7, math.MaxInt} {
		c := made(t, 2, 1, all())
		issues(t, c, 1, put(1, 1, 2, 2, 3, 3, 4, 4))
		was := show(c)
		want := full[:max(0, min(most, len(full)))]
		kept(t, c, p, most, want...)
		if most < 1 {
			if is := show(c); is != was { // not even Calm is done
				t.Errorf("%s becomes %s", was, is)
			}
			continue
		}
		h := keeper.Look(c)
		if h.Pending != 0 || h.Held != 0 || h.Lag != 0 || h.Epoch != 1+len(want) {
			t.Errorf("Keep of %d: %+v", most, h)
		}
		if fair := keeper.Fair(c, p); fair != (most >= len(full)) {
			t.Errorf("Keep of %d: fair is %v", most, fair)
		}
	}
}

// Promise 28.3: all is woken ahead of the first suggestion, and what is pending counts.
func TestKeepWakes(t *testing.T) {
	c := made(t, 2, 1, all())
	issues(t, c, 1, put(1, 1, 2, 2))
	for _, who := range []int{0, 1, api.AddrChief} {
		does(t, c, api.Deed{Kind: api.DeedFail, Who: who})
	}
	does(t, c, api.Deed{Kind: api.DeedApart, Who: 0, N: 1, On: true})
	kept(t, c, api.Policy{High: 9, Slack: 9}, 1) // nothing is suggested; all is calm
	looks(t, c, api.Health{Up: 2, Cores: 1, Epoch: 1})
	does(t, c, api.Deed{Kind: api.DeedChange, X: api.Change{Kind: api.Split, ID: 1, At: 1000}}) // it is made first
	kept(t, c, api.Policy{High: 9, Low: 2, Slack: 1}, 5, api.Change{Kind: api.Merge, ID: 2})
}

// Promise 28.3: what does not come to its end is told, be it ahead of a suggestion or behind it.
func TestKeepBusy(t *testing.T) {
	fails := func(c *cluster.Cluster, p api.Policy, most int, want api.Errno) {
		t.Helper()
		if l, e := keeper.Keep(c, p, most); l != nil || e != want {
			t.Fatalf("Keep of %v, %d: %v, %d", p, most, l, e)
		}
	}
	p := api.Policy{High: 3}
	c := laden(t, api.MaxList)
	issues(t, c, 1, put(4000, 1)) // there is no room for it
	fails(c, p, 1, api.ErrBusy)
	fails(c, p, 9, api.ErrBusy)
	fails(c, p, 0, api.OK)
	looks(t, c, api.Health{Up: 1, Cores: 1, Pending: 1, Epoch: 1})

	c = laden(t, 960)
	suggests(t, c, p, api.Change{Kind: api.Split, ID: 1, At: 204})
	fails(c, p, 1, api.ErrBusy) // the log of the shard is too long for a mail
	looks(t, c, api.Health{Up: 1, Cores: 1, Sealed: 1, Epoch: 1})
	fails(c, p, 1, api.ErrBusy)
}

// laden is a calm cluster of one shard that has committed so many great mutations.
func laden(t *testing.T, n int) *cluster.Cluster {
	t.Helper()
	c := made(t, 1, 1, all(), all(), all(), all())
	m := api.MaxVal
	for i := range n {
		issues(t, c, 1+i%4, put(200, m, 201, m, 202, m, 203, m, 204, m, 205, m, 206, m, 207, m))
		if i%200 == 199 {
			calms(t, c)
		}
	}
	calms(t, c)
	return c
}

// Rule 3: what is answered has its own memory.
func TestApart(t *testing.T) {
	c := made(t, 2, 1, all())
	issues(t, c, 1, put(1, 1, 2, 2, 3, 3, 4, 4))
	l, e := keeper.Keep(c, api.Policy{High: 1, Slack: 1}, 9)
	if e != api.OK || len(l) != 5 {
		t.Fatalf("%v, %d", l, e)
	}
	was := show(c)
	for _, x := range []any{keeper.Loads(c), keeper.Loads(c), l} {
		v := reflect.ValueOf(x)
		v = v.Slice(0, v.Cap())
		for i := range v.Len() {
			v.Index(i).SetZero()
		}
	}
	if is := show(c); is != was {
		t.Errorf("%s becomes %s", was, is)
	}
	loads(t, c, 1, 2, 3, 4)
}
