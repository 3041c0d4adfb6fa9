package cluster_test

import (
	"math"
	"slices"
	"testing"

	"splice/api"
	"splice/cluster"
)

// all is the set of all keys.
func all() []api.Span {
	return []api.Span{{Lo: 0, Hi: api.MaxKey}}
}

// some is the set of the keys up to another.
func some(hi int) []api.Span {
	return []api.Span{{Lo: 0, Hi: hi}}
}

// made is a cluster whose clients follow these sets.
func made(t *testing.T, nodes, shards int, on ...[]api.Span) *cluster.Cluster {
	t.Helper()
	c := cluster.New(nodes, shards, on)
	if c == nil {
		t.Fatalf("no cluster of %d nodes and %d shards", nodes, shards)
	}
	return c
}

func put(l ...int) api.Mut {
	m := api.Mut{Kind: api.MutPut}
	for i := 0; i < len(l); i += 2 {
		m.Pairs = append(m.Pairs, api.Pair{Key: l[i], Val: l[i+1]})
	}
	return m
}

func move(from, to, val int) api.Mut {
	return api.Mut{Kind: api.MutMove, Pairs: []api.Pair{{Key: from, Val: val}, {Key: to, Val: val}}}
}

func issue(who int, m api.Mut) api.Deed {
	return api.Deed{Kind: api.DeedIssue, Who: who, M: m}
}

// of is a deed of a kind, to someone.
func of(kind, who int) api.Deed {
	return api.Deed{Kind: kind, Who: who}
}

// nth is a deed of a kind, to the mail at a position.
func nth(kind, n int) api.Deed {
	return api.Deed{Kind: kind, N: n}
}

func apart(x, y int, on bool) api.Deed {
	return api.Deed{Kind: api.DeedApart, Who: x, N: y, On: on}
}

func trip(who, n int, keep ...int) api.Deed {
	return api.Deed{Kind: api.DeedTrip, Who: who, N: n, Loss: api.Loss{Keep: keep, Torn: -1}}
}

func change(kind, id, at int) api.Deed {
	return api.Deed{Kind: api.DeedChange, X: api.Change{Kind: kind, ID: id, At: at}}
}

// gives does a deed, and looks at its error.
func gives(t *testing.T, c *cluster.Cluster, d api.Deed, want api.Errno) {
	t.Helper()
	if e := c.Do(d); e != want {
		t.Fatalf("%v: %v, not %v", d, e, want)
	}
}

// does does deeds that go well.
func does(t *testing.T, c *cluster.Cluster, l ...api.Deed) {
	t.Helper()
	for _, d := range l {
		gives(t, c, d, api.OK)
	}
}

// refuses does a deed that must change nothing that can be seen.
func refuses(t *testing.T, c *cluster.Cluster, d api.Deed, want api.Errno) {
	t.Helper()
	was := show(c)
	gives(t, c, d, want)
	if is := show(c); is != was {
		t.Fatalf("%v: %s becomes %s", d, was, is)
	}
}

// mails looks how many mails there are.
func mails(t *testing.T, c *cluster.Cluster, want int) {
	t.Helper()
	if n := c.Mails(); n != want {
		t.Fatalf("%d mails, not %d", n, want)
	}
}

// calms lets all come to its end.
func calms(t *testing.T, c *cluster.Cluster) (rounds int) {
	t.Helper()
	rounds, done := c.Calm()
	if !done {
		t.Fatalf("not calm after %d rounds", rounds)
	}
	return rounds
}

// reads looks at the value that a client reads.
func reads(t *testing.T, c *cluster.Cluster, client, key, want int) {
	t.Helper()
	if v, is, e := c.Client(client).Read(key); v != want || !is || e != api.OK {
		t.Fatalf("%d reads %d at %d: %v, %v", client, v, key, is, e)
	}
}

// isReady tells whether a mail can be taken: a negative N is told only then.
func isReady(c *cluster.Cluster) bool {
	return c.Do(nth(api.DeedLose, -1)) == api.ErrArg
}

// runs looks whether all mails are between pairs of addresses, and at least one between each.
func runs(t *testing.T, c *cluster.Cluster, links ...[2]int) {
	t.Helper()
	for i, l := range links {
		for j, k := range links {
			does(t, c, apart(k[0], k[1], i != j))
		}
		if !isReady(c) {
			t.Fatalf("no mail is between %d and %d", l[0], l[1])
		}
		does(t, c, apart(l[0], l[1], true))
		if isReady(c) {
			t.Fatalf("a mail is not between any of %v", links)
		}
	}
	for _, k := range links {
		does(t, c, apart(k[0], k[1], false))
	}
}

// between lets mails arrive that are between two addresses, the first ones first, till there is none.
func between(t *testing.T, c *cluster.Cluster, x, y int) {
	t.Helper()
	addresses := []int{0, 1, 2, 3, 4, api.AddrChief, 17, 18, 19, 20}
	cut := func(on bool) {
		for i, a := range addresses {
			for _, b := range addresses[:i] {
				if (a != x || b != y) && (a != y || b != x) {
					does(t, c, apart(a, b, on))
				}
			}
		}
	}
	cut(true)
	for isReady(c) {
		does(t, c, nth(api.DeedMail, 0))
	}
	cut(false)
}

// Promise 18.1: New makes a cluster of what may be, and none of what may not be.
func TestNew(t *testing.T) {
	for _, x := range []struct{ nodes, shards, clients int }{{1, 1, 0}, {1, 24, 1}, {5, 1, 4}, {5, 24, 4}, {2, 3, 2}} {
		c := made(t, x.nodes, x.shards, slices.Repeat([][]api.Span{all()}, x.clients)...)
		if c.Nodes() != x.nodes || len(c.Cores()) != x.shards || c.Mails() != 0 || c.Chart().Epoch != 1 || len(c.Chart().L) != x.shards {
			t.Errorf("%v: %s", x, show(c))
		}
		for i := -1; i < 7; i++ {
			k := c.Client(i)
			if is := 1 <= i && i <= x.clients; (k != nil) != is || is && (k.ID() != i || !same(k.View().On(), all()) || !same(k.View().Chart(), c.Chart())) {
				t.Errorf("%v: the client %d is %v", x, i, k)
			}
		}
		for i, s := range c.Chart().L {
			if core := c.Cores()[i]; !same(core, api.Core{ID: s.ID, Keys: s.Keys}) || s.Node != i%x.nodes {
				t.Errorf("%v: shard %v, core %v", x, s, core)
			}
		}
	}
	if c := cluster.New(2, 2, nil); c == nil || c.Client(1) != nil {
		t.Error("a cluster without clients")
	}
	wrong := [][]api.Span{{{Lo: 5, Hi: 5}}, {{Lo: 5, Hi: 9}, {Lo: 7, Hi: 10}}, {{Lo: 0, Hi: api.MaxKey + 1}}, {{Lo: -1, Hi: 3}}, nil, {}}
	for _, on := range wrong {
		if cluster.New(1, 1, [][]api.Span{on}) != nil || cluster.New(1, 1, [][]api.Span{all(), on}) != nil {
			t.Errorf("a cluster with a client of %v", on)
		}
	}
	for _, x := range [][2]int{{0, 1}, {-1, 1}, {6, 1}, {1, 0}, {1, -1}, {1, 25}, {math.MinInt, math.MaxInt}} {
		if cluster.New(x[0], x[1], nil) != nil {
			t.Errorf("a cluster of %v", x)
		}
	}
	if cluster.New(1, 1, slices.Repeat([][]api.Span{all()}, 5)) != nil || cluster.Blocks != 2000 {
		t.Error("a cluster of five clients")
	}
}

// Promise 18.1: the example.
func TestExampleDo(t *testing.T) {
	c := made(t, 3, 3, all(), some(10))
	gives(t, c, issue(1, move(5, 4000, 3)), api.OK)
	refuses(t, c, issue(2, move(5, 4000, 3)), api.ErrArg)
	refuses(t, c, issue(3, move(5, 4000, 3)), api.ErrNone)
	refuses(t, c, nth(api.DeedMail, 0), api.ErrNone)
	refuses(t, c, change(api.Shift, 1, 3), api.ErrArg)
	does(t, c, of(api.DeedFail, 1))
	refuses(t, c, of(api.DeedTick, 1), api.ErrDown)
	refuses(t, c, of(api.DeedWake, 0), api.ErrThere)
	calms(t, c)
	reads(t, c, 1, 4000, 3)
	reads(t, c, 2, 5, -3)
}

// Promise 18.1: a kind that is none is refused, and so are those of a tale.
func TestKinds(t *testing.T) {
	c := made(t, 2, 2, all())
	does(t, c, of(api.DeedTell, 1))
	for _, kind := range []int{-1, api.DeedCalm, api.DeedRead, 13, math.MaxInt, math.MinInt} {
		refuses(t, c, of(kind, 1), api.ErrArg)
	}
}

// Promise 18.1: a client issues, and tells what it wants, by the chart that it knows.
func TestClients(t *testing.T) {
	c := made(t, 3, 3, all(), some(10), []api.Span{{Lo: 2000, Hi: 2001}})
	for _, who := range []int{-1, 0, 4, 17, math.MaxInt, math.MinInt} {
		refuses(t, c, issue(who, put(5, 1)), api.ErrNone)
		refuses(t, c, issue(who, api.Mut{}), api.ErrNone)
		refuses(t, c, of(api.DeedTell, who), api.ErrNone)
	}
	refuses(t, c, issue(1, api.Mut{}), api.ErrArg)
	refuses(t, c, issue(2, put(10, 1)), api.ErrArg)
	does(t, c, issue(2, put(9, 4)))
	mails(t, c, 0)
	reads(t, c, 2, 9, 4)
	for range 63 {
		does(t, c, issue(2, put(9, 5)))
	}
	refuses(t, c, issue(2, put(9, 5)), api.ErrFull)
	does(t, c, of(api.DeedTell, 3)) // it pulls from shard 2
	mails(t, c, 1)
	runs(t, c, [2]int{19, 1})
	does(t, c, of(api.DeedTell, 2)) // it pushes to shard 1, and pulls from it
	mails(t, c, 3)
	runs(t, c, [2]int{19, 1}, [2]int{18, 0})
	does(t, c, of(api.DeedTell, 1))
	mails(t, c, 6)
	runs(t, c, [2]int{19, 1}, [2]int{18, 0}, [2]int{17, 0}, [2]int{17, 1}, [2]int{17, 2})
}

// Promise 18.1: what comes to a host makes it tell clients and other nodes something.
func TestHosts(t *testing.T) {
	c := made(t, 3, 3, all(), some(10))
	does(t, c, issue(1, move(5, 4000, 3)), of(api.DeedTell, 1))
	mails(t, c, 4) // a push to shard 1, and three pulls
	does(t, c, nth(api.DeedMail, 0))
	mails(t, c, 4) // three pulls, and shard 3 is asked for a time
	runs(t, c, [2]int{17, 0}, [2]int{17, 1}, [2]int{17, 2}, [2]int{0, 2})
	if l := c.Cores(); len(l[0].Held) != 1 || len(l[2].Held) != 0 {
		t.Fatalf("%v", l)
	}
	does(t, c, nth(api.DeedMail, 3))
	mails(t, c, 6) // it asks back, answers, and acknowledges
	runs(t, c, [2]int{17, 0}, [2]int{17, 1}, [2]int{17, 2}, [2]int{0, 2})
	if l := c.Cores(); len(l[2].Log)+len(l[2].Held) != 1 {
		t.Fatalf("%v", l)
	}
	between(t, c, 0, 2)
	if l := c.Cores(); len(l[0].Log) != 1 || len(l[2].Log) != 1 || len(l[1].Log) != 0 {
		t.Fatalf("%v", l)
	}
	does(t, c, apart(17, 0, true), apart(17, 2, true))
	does(t, c, nth(api.DeedMail, 0)) // the pull from shard 2
	if !isReady(c) {                 // a state, for the client
		t.Fatal("no state")
	}
	does(t, c, apart(17, 1, true))
	if isReady(c) {
		t.Fatal("something is not for the client")
	}
	does(t, c, apart(17, 1, false), nth(api.DeedLose, 0))
	does(t, c, apart(17, 0, false), apart(17, 2, false))
	between(t, c, 17, 0)
	between(t, c, 17, 2)
	mails(t, c, 0)
	if c.Client(1).Last() == 0 || c.Client(1).Mark() != 0 {
		t.Fatalf("%s", looks(c.Client(1)))
	}
}

// Promise 18.1: shards at one node tell one another something by mails, too.
func TestOneNode(t *testing.T) {
	c := made(t, 1, 2, all())
	does(t, c, issue(1, move(5, 4000, 3)), of(api.DeedTell, 1))
	mails(t, c, 3)
	does(t, c, nth(api.DeedMail, 0))
	mails(t, c, 3)
	does(t, c, apart(17, 0, true))
	if !isReady(c) {
		t.Fatal("nothing goes from the node to itself")
	}
	for isReady(c) {
		does(t, c, nth(api.DeedMail, 0))
	}
	if l := c.Cores(); len(l[0].Log) != 1 || len(l[1].Log) != 1 {
		t.Fatalf("%v", l)
	}
}

// shifted is a cluster in which shard 1 went from node 0 to node 1 as shard 4, which only the chief and node 1 know.
func shifted(t *testing.T) *cluster.Cluster {
	t.Helper()
	c := made(t, 3, 3, all(), some(10))
	does(t, c, change(api.Shift, 1, 1), of(api.DeedTick, api.AddrChief))
	mails(t, c, 5) // a freeze and a seal for node 0, the chart for each node
	between(t, c, 9, 0)
	if l := c.Cores(); !l[0].Sealed || len(l) != 3 {
		t.Fatalf("%v", l)
	}
	does(t, c, nth(api.DeedLose, 0), nth(api.DeedLose, 0))
	mails(t, c, 0)
	does(t, c, of(api.DeedTick, api.AddrChief)) // the heir for node 1, the chart for each
	mails(t, c, 4)
	between(t, c, 9, 1)
	if l := c.Cores(); len(l) != 4 || l[3].ID != 4 || c.Chart().Epoch != 2 {
		t.Fatalf("%v, %v", l, c.Chart())
	}
	does(t, c, nth(api.DeedLose, 0), nth(api.DeedLose, 0)) // of the last epoch
	does(t, c, of(api.DeedTick, api.AddrChief))
	mails(t, c, 3)
	does(t, c, nth(api.DeedLose, 0), nth(api.DeedMail, 0), nth(api.DeedLose, 0))
	mails(t, c, 0)
	return c
}

// Promise 18.1: the chief tells nodes, and nodes tell the chief.
func TestChief(t *testing.T) {
	c := made(t, 2, 2, all())
	does(t, c, of(api.DeedTick, api.AddrChief))
	mails(t, c, 2) // the chart, for the nodes that there are
	runs(t, c, [2]int{9, 0}, [2]int{9, 1})
	c = made(t, 3, 3, all())
	does(t, c, change(api.Shift, 1, 1), of(api.DeedTick, api.AddrChief))
	runs(t, c, [2]int{9, 0}, [2]int{9, 1}, [2]int{9, 2})
	does(t, c, nth(api.DeedMail, 0), nth(api.DeedMail, 0)) // a freeze and a seal
	mails(t, c, 4)
	does(t, c, nth(api.DeedLose, 0), nth(api.DeedLose, 0), nth(api.DeedLose, 0))
	runs(t, c, [2]int{0, 9}) // it is sealed
	c = shifted(t)
	if x := c.Chart(); x.Epoch != 2 || x.L[0].ID != 4 || x.L[0].Node != 1 {
		t.Fatalf("%v", x)
	}
}

// Promise 18.1: a shard that is gone is told of by a chart, to a client or to a node.
func TestGone(t *testing.T) {
	c := shifted(t)
	does(t, c, of(api.DeedTell, 2)) // from shard 1, at node 0, by the chart that it knows
	runs(t, c, [2]int{18, 0})
	does(t, c, nth(api.DeedMail, 0))
	runs(t, c, [2]int{0, 18})
	does(t, c, nth(api.DeedMail, 0)) // it is the old chart
	if k := c.Client(2); k.View().Chart().Epoch != 1 {
		t.Fatalf("%s", looks(k))
	}
	does(t, c, of(api.DeedTick, api.AddrChief), nth(api.DeedMail, 0), nth(api.DeedLose, 0), nth(api.DeedLose, 0))
	mails(t, c, 0)
	does(t, c, of(api.DeedTell, 2), nth(api.DeedMail, 0))
	runs(t, c, [2]int{0, 18})
	does(t, c, nth(api.DeedMail, 0)) // it is the new one
	does(t, c, of(api.DeedTell, 2))
	runs(t, c, [2]int{18, 1})

	c = shifted(t)
	does(t, c, issue(1, move(4000, 3, 1)), of(api.DeedTell, 1))
	does(t, c, nth(api.DeedMail, 0)) // a push to shard 1, which is gone
	mails(t, c, 4)
	runs(t, c, [2]int{17, 0}, [2]int{17, 1}, [2]int{17, 2})
	for range 4 {
		does(t, c, nth(api.DeedLose, 0))
	}

	// shard 2 holds a move to shard 3, and asks it by the old chart; then shard 3 is gone
	c = made(t, 3, 3, all())
	does(t, c, issue(1, move(2000, 4000, 1)), of(api.DeedTell, 1), nth(api.DeedMail, 0))
	for range 3 {
		does(t, c, nth(api.DeedLose, 0)) // the pulls
	}
	runs(t, c, [2]int{1, 2})
	does(t, c, change(api.Shift, 3, 0))
	for range 2 {
		does(t, c, of(api.DeedTick, api.AddrChief))
		between(t, c, 9, 2)
		between(t, c, 9, 0)
		does(t, c, apart(1, 2, true))
		for isReady(c) {
			does(t, c, nth(api.DeedLose, 0))
		}
		does(t, c, apart(1, 2, false))
	}
	if l := c.Cores(); len(l) != 4 || !l[2].Sealed || len(l[1].Held) != 1 || c.Chart().Epoch != 2 {
		t.Fatalf("%v", l)
	}
	mails(t, c, 1)
	does(t, c, nth(api.DeedMail, 0)) // shard 3 is gone: node 1 is told the chart that node 2 knows
	runs(t, c, [2]int{2, 1})
	does(t, c, nth(api.DeedLose, 0), of(api.DeedTick, 1)) // it is not told, and asks again where it knows shard 3 to be
	runs(t, c, [2]int{1, 2})
	calms(t, c)
	reads(t, c, 1, 4000, 1)
}

// Promise 18.1: what is for a shard that is on no chart is lost.
func TestNowhere(t *testing.T) {
	c := made(t, 3, 3, all())
	does(t, c, issue(1, move(5, 4000, 3)), of(api.DeedTell, 1), nth(api.DeedMail, 0))
	for range 3 {
		does(t, c, nth(api.DeedLose, 0)) // the pulls
	}
	does(t, c, nth(api.DeedTwice, 0), change(api.Shift, 1, 1))
	for range 4 {
		for c.Mails() > 1 { // one copy of what shard 1 asks shard 3 stays under way
			does(t, c, nth(api.DeedMail, 1))
		}
		does(t, c, of(api.DeedTick, api.AddrChief))
	}
	for c.Mails() > 1 {
		does(t, c, nth(api.DeedMail, 1))
	}
	l := c.Cores()
	if len(l) != 4 || len(l[2].Log) != 1 || c.Chart().Epoch != 2 {
		t.Fatalf("%v", l)
	}
	runs(t, c, [2]int{0, 2})
	does(t, c, nth(api.DeedMail, 0)) // shard 3 answers that it knows the final time, but there is no shard 1
	mails(t, c, 0)
}

// Promise 18.1: the mail at a position arrives, is doubled or is lost.
func TestMails(t *testing.T) {
	c := made(t, 3, 3, all())
	for _, kind := range []int{api.DeedMail, api.DeedTwice, api.DeedLose} {
		for _, n := range []int{-1, 0, 1, math.MinInt} {
			refuses(t, c, nth(kind, n), api.ErrNone)
		}
	}
	does(t, c, of(api.DeedTell, 1)) // to the nodes 0, 1 and 2
	for _, kind := range []int{api.DeedMail, api.DeedTwice, api.DeedLose} {
		for _, n := range []int{-1, math.MinInt} {
			refuses(t, c, nth(kind, n), api.ErrArg)
		}
	}
	does(t, c, nth(api.DeedLose, 4)) // at position 1
	runs(t, c, [2]int{17, 0}, [2]int{17, 2})
	does(t, c, nth(api.DeedTwice, 2)) // at position 0
	mails(t, c, 3)
	does(t, c, apart(17, 0, true), nth(api.DeedLose, 0)) // that to node 2 is the only one that can be taken
	mails(t, c, 2)
	refuses(t, c, nth(api.DeedMail, -1), api.ErrNone)
	does(t, c, apart(0, 17, false))
	runs(t, c, [2]int{17, 0})
	does(t, c, nth(api.DeedMail, math.MaxInt)) // the copy
	mails(t, c, 2)
	does(t, c, nth(api.DeedMail, 1), nth(api.DeedMail, 0), nth(api.DeedMail, 0)) // a state, the first one, and a page or a state
	mails(t, c, 0)
}

// Promise 18.1: what a full bag does not take is lost; a mail is not doubled then.
func TestFull(t *testing.T) {
	c := made(t, 3, 3, all())
	for range 133 {
		does(t, c, of(api.DeedTell, 1))
	}
	mails(t, c, 399)
	does(t, c, of(api.DeedTell, 1))
	mails(t, c, api.MaxMail)
	does(t, c, nth(api.DeedLose, 1), nth(api.DeedTwice, 0))
	refuses(t, c, nth(api.DeedTwice, 0), api.ErrFull)
	refuses(t, c, nth(api.DeedTwice, -1), api.ErrArg)
	does(t, c, of(api.DeedTick, api.AddrChief), of(api.DeedTell, 1))
	mails(t, c, api.MaxMail)
	if rounds := calms(t, c); rounds != 4 {
		t.Errorf("%d rounds", rounds)
	}
}

// Promise 18.1: addresses are separated and connected, whoever has them.
func TestApartDeed(t *testing.T) {
	c := made(t, 2, 2, all())
	for _, x := range [][2]int{{-1, 1}, {1, -1}, {64, 1}, {1, 64}, {3, 3}, {math.MaxInt, 0}} {
		for _, on := range []bool{true, false} {
			refuses(t, c, apart(x[0], x[1], on), api.ErrArg)
		}
	}
	does(t, c, apart(0, 63, true), apart(50, 9, false), of(api.DeedTell, 1))
	does(t, c, apart(17, 1, true))
	runs(t, c, [2]int{17, 0}, [2]int{17, 1})
	does(t, c, apart(0, 17, true), apart(1, 17, true))
	refuses(t, c, nth(api.DeedMail, 0), api.ErrNone)
	does(t, c, of(api.DeedTell, 1)) // it is sent, but does not arrive
	mails(t, c, 4)
	does(t, c, apart(1, 17, false), nth(api.DeedMail, 0))
}

// Promise 18.1: whose power fails, is down till it is woken; what comes meanwhile is lost.
func TestFail(t *testing.T) {
	c := made(t, 3, 3, all())
	for _, who := range []int{-1, 3, 4, 8, 10, 16, 17, math.MaxInt, math.MinInt} {
		for _, kind := range []int{api.DeedFail, api.DeedWake, api.DeedTrip, api.DeedTick} {
			refuses(t, c, api.Deed{Kind: kind, Who: who, N: 1}, api.ErrNone)
		}
		if c.Up(who) {
			t.Errorf("%d is up", who)
		}
	}
	does(t, c, issue(1, put(5, 7)), of(api.DeedTell, 1), nth(api.DeedMail, 0))
	mails(t, c, 4) // it is acknowledged
	for _, who := range []int{0, 1, 2, api.AddrChief} {
		refuses(t, c, of(api.DeedWake, who), api.ErrThere)
		was := show(c)
		does(t, c, api.Deed{Kind: api.DeedFail, Who: who, Loss: api.Loss{Torn: 3, At: 5}})
		if c.Up(who) {
			t.Fatalf("%d is up", who)
		}
		refuses(t, c, of(api.DeedFail, who), api.ErrDown)
		refuses(t, c, trip(who, 1), api.ErrDown)
		refuses(t, c, of(api.DeedTick, who), api.ErrDown)
		does(t, c, of(api.DeedWake, who))
		if is := show(c); is != was {
			t.Fatalf("%d: %s becomes %s", who, was, is)
		}
	}
	does(t, c, of(api.DeedFail, 0), of(api.DeedFail, api.AddrChief))
	if l := c.Cores(); len(l) != 3 || len(l[0].Log) != 1 {
		t.Fatalf("%v", l)
	}
	refuses(t, c, change(api.Split, 1, 5), api.ErrDown)
	refuses(t, c, change(api.Shift, 1, 7), api.ErrDown)
	if x := c.Chart(); x.Epoch != 1 || len(x.L) != 3 {
		t.Fatalf("%v", x)
	}
	does(t, c, nth(api.DeedMail, 0)) // the pull from shard 1
	mails(t, c, 3)
	between(t, c, 17, 0) // but what was sent arrives
	if k := c.Client(1); k.Last() != 1 {
		t.Fatalf("%s", looks(k))
	}
}

// Promise 18.1: what comes to a chief who is down is lost.
func TestChiefDown(t *testing.T) {
	c := made(t, 3, 3, all())
	does(t, c, change(api.Shift, 1, 1), of(api.DeedTick, api.AddrChief))
	does(t, c, nth(api.DeedMail, 0), nth(api.DeedMail, 0)) // node 0 answers that it is sealed
	for range 3 {
		does(t, c, nth(api.DeedLose, 0))
	}
	mails(t, c, 1)
	does(t, c, nth(api.DeedTwice, 0), of(api.DeedFail, api.AddrChief), nth(api.DeedMail, 0))
	mails(t, c, 1)
	does(t, c, of(api.DeedWake, api.AddrChief), of(api.DeedTick, api.AddrChief))
	mails(t, c, 6) // it does not know that
	for range 5 {
		does(t, c, nth(api.DeedLose, 1))
	}
	does(t, c, nth(api.DeedMail, 0), of(api.DeedTick, api.AddrChief))
	mails(t, c, 4) // now it does: the heir, and the chart for each
	gives(t, c, change(api.Shift, 2, 2), api.ErrBusy)
	calms(t, c)
}

// Promise 18.1: a trip fails at an operation of the slab, or is replaced by another.
func TestTrip(t *testing.T) {
	pushed := func(t *testing.T) *cluster.Cluster {
		c := made(t, 1, 1, all())
		does(t, c, issue(1, put(5, 7)), of(api.DeedTell, 1))
		return c
	}
	c := pushed(t)
	does(t, c, trip(0, 1))
	if !c.Up(0) {
		t.Fatal("it is down at once")
	}
	does(t, c, nth(api.DeedMail, 0))
	if c.Up(0) || len(c.Cores()[0].Log) != 0 {
		t.Fatalf("it is up, %v", c.Cores())
	}
	mails(t, c, 1)                                             // nothing is told of it
	does(t, c, of(api.DeedWake, 0), nth(api.DeedMail, 0))      // a pull: nothing is committed
	if l := c.Cores(); len(l[0].Log) != 0 || l[0].Clock != 0 { // and nothing is kept
		t.Fatalf("%v", l)
	}
	for _, n := range []int{0, -1, 9} {
		c = pushed(t)
		does(t, c, trip(0, 1), trip(0, n), nth(api.DeedMail, 0))
		if !c.Up(0) || len(c.Cores()[0].Log) != 1 {
			t.Fatalf("Trip of %d: it is down, %v", n, c.Cores())
		}
	}
	c = pushed(t)
	does(t, c, api.Deed{Kind: api.DeedTrip, N: 3, Loss: api.Loss{Keep: up(2000), Torn: -1}}, nth(api.DeedMail, 0))
	if c.Up(0) || len(c.Cores()[0].Log) != 0 {
		t.Fatalf("it is up, %v", c.Cores())
	}
	does(t, c, of(api.DeedWake, 0))
	if l := c.Cores(); len(l[0].Log) != 1 {
		t.Fatalf("it was written, and kept: %v", l)
	}
	c = made(t, 1, 1)
	does(t, c, trip(api.AddrChief, 1))
	gives(t, c, change(api.Split, 1, 5), api.ErrDown)
	if c.Up(api.AddrChief) {
		t.Fatal("the chief is up")
	}
	does(t, c, of(api.DeedWake, api.AddrChief), change(api.Split, 1, 5))
}

// up are the numbers up to another.
func up(n int) (l []int) {
	for i := range n {
		l = append(l, i)
	}
	return l
}

// Promise 18.1: what the nodes' Ticks tell is sent, also beside an error.
func TestTick(t *testing.T) {
	c := made(t, 2, 2, all())
	does(t, c, of(api.DeedTick, 0), of(api.DeedTick, 1))
	mails(t, c, 0)
	does(t, c, issue(1, move(5, 4000, 3)), of(api.DeedTell, 1), nth(api.DeedMail, 0))
	mails(t, c, 3)
	for range 3 {
		does(t, c, nth(api.DeedLose, 0))
	}
	does(t, c, of(api.DeedTick, 0))
	runs(t, c, [2]int{0, 1}) // shard 2 is asked again

	// shard 1 asks shard 2; shard 3, too, holds something, as the power failed behind the first record
	c = made(t, 2, 4, all(), all())
	does(t, c, issue(1, move(5, 1500, 3)), issue(2, put(2100, 1)), of(api.DeedTell, 1), of(api.DeedTell, 2))
	mails(t, c, 10)
	does(t, c, nth(api.DeedMail, 0), trip(0, 1, up(2000)...), nth(api.DeedMail, 4), of(api.DeedWake, 0))
	for c.Mails() > 0 {
		does(t, c, nth(api.DeedLose, 0))
	}
	if l := c.Cores(); len(l[0].Held) != 1 || len(l[2].Held) != 1 {
		t.Fatalf("%v", l)
	}
	does(t, c, trip(0, 1))
	gives(t, c, of(api.DeedTick, 0), api.ErrDown)
	if l := c.Cores(); c.Up(0) || len(l[0].Held) != 1 || len(l[2].Held) != 1 {
		t.Fatalf("%v", l)
	}
	mails(t, c, 1)
	runs(t, c, [2]int{0, 1}) // shard 1 asked again ahead of that
	calms(t, c)
	reads(t, c, 1, 2100, 1)
}

// Promise 18.1: the chief is asked for a change to nodes that there are.
func TestChange(t *testing.T) {
	c := made(t, 3, 3, all())
	for _, at := range []int{-1, 3, 4, 5, math.MaxInt, math.MinInt} {
		refuses(t, c, change(api.Shift, 1, at), api.ErrArg)
		refuses(t, c, change(api.Shift, 77, at), api.ErrArg)
	}
	refuses(t, c, change(api.Shift, 77, 2), api.ErrNone)
	refuses(t, c, change(0, 1, 2), api.ErrArg)
	refuses(t, c, change(api.Merge, 1, 0), api.ErrArg) // at two nodes
	refuses(t, c, change(api.Split, 1, 0), api.ErrArg)
	does(t, c, change(api.Split, 1, 1000)) // no node
	refuses(t, c, change(api.Split, 2, 2000), api.ErrBusy)
	refuses(t, c, change(api.Shift, 2, 3), api.ErrArg)
	refuses(t, c, change(api.Shift, 2, 2), api.ErrBusy)
	calms(t, c)
	does(t, c, change(api.Merge, 4, 4000))
	calms(t, c)
	if x := c.Chart(); x.Epoch != 3 || len(x.L) != 3 || x.L[0].ID != 6 {
		t.Fatalf("%v", x)
	}
}

// Promise 18.2: Calm wakes all, and lets all come to its end; and the examples of Calm and of 18.3.
func TestCalm(t *testing.T) {
	c := made(t, 3, 3, all(), some(10))
	does(t, c, issue(1, move(5, 4000, 3)), of(api.DeedTell, 1), nth(api.DeedMail, 0), trip(2, 2), change(api.Shift, 1, 2))
	if len(c.Cores()) != 3 {
		t.Fatalf("%v", c.Cores())
	}
	does(t, c, of(api.DeedFail, 1), of(api.DeedFail, api.AddrChief))
	calms(t, c)
	for _, who := range []int{0, 1, 2, api.AddrChief} {
		if !c.Up(who) {
			t.Errorf("%d is down", who)
		}
	}
	reads(t, c, 1, 4000, 3)
	reads(t, c, 1, 5, -3)
	reads(t, c, 2, 5, -3)
	if len(c.Cores()) != 4 || c.Chart().Epoch != 2 || c.Mails() != 0 || len(c.Client(1).Pending()) != 0 {
		t.Errorf("%s", show(c))
	}
}

// Promise 18.2: trips that are pending do not come any more, neither in the rounds nor behind them.
func TestCalmTrips(t *testing.T) {
	c := made(t, 3, 3, all())
	for _, who := range []int{0, 1, 2, api.AddrChief} {
		does(t, c, trip(who, 1))
	}
	calms(t, c)
	for _, who := range []int{0, 1, 2, api.AddrChief} {
		if !c.Up(who) {
			t.Errorf("%d is down", who)
		}
	}
	does(t, c, change(api.Split, 1, 5), issue(1, put(5, 1, 1500, 2, 4000, 3)))
	calms(t, c)
	for _, who := range []int{0, 1, 2, api.AddrChief} {
		if !c.Up(who) {
			t.Errorf("%d is down", who)
		}
		does(t, c, trip(who, 30000))
	}
	calms(t, c)
	does(t, c, change(api.Merge, 4, 0))
	calms(t, c)
	if x := c.Chart(); x.Epoch != 3 {
		t.Errorf("%v", x)
	}
}

// Promise 18.2: addresses that are apart are connected, whichever they are, and stay so.
func TestCalmApart(t *testing.T) {
	c := made(t, 2, 2, all())
	addresses := []int{0, 1, 9, 17}
	for i, x := range addresses {
		for _, y := range addresses[:i] {
			does(t, c, apart(x, y, true))
		}
	}
	does(t, c, issue(1, move(5, 4000, 1)), of(api.DeedTell, 1), change(api.Shift, 1, 1))
	calms(t, c)
	mails(t, c, 0)
	if x := c.Chart(); x.Epoch != 2 || len(c.Client(1).Pending()) != 0 {
		t.Errorf("%v", x)
	}
	does(t, c, of(api.DeedTell, 1), of(api.DeedTick, api.AddrChief))
	mails(t, c, 4)
	for range 4 {
		does(t, c, nth(api.DeedMail, 0))
	}
}

// Promise 18.2: mails that were under way do not arrive.
func TestCalmMails(t *testing.T) {
	alone := made(t, 1, 1, all())
	does(t, alone, issue(1, put(5, 1)))
	want := calms(t, alone)
	c := made(t, 1, 1, all())
	does(t, c, issue(1, put(5, 1)), of(api.DeedTell, 1), nth(api.DeedLose, 1))
	for range 200 {
		does(t, c, nth(api.DeedTwice, 0))
	}
	if n := calms(t, c); n != want || c.Mails() != 0 || len(c.Cores()[0].Log) != 1 {
		t.Errorf("%d rounds, not %d; %s", n, want, show(c))
	}
}

// Promise 18.2: it ends behind four rounds after each of which nothing is left to do.
func TestCalmRounds(t *testing.T) {
	for issued, want := range []int{4, 4, 5, 6, 7, 8} { // one is pushed in each
		c := made(t, 1, 1, all())
		for range issued {
			does(t, c, issue(1, put(5, 1)))
		}
		if n := calms(t, c); n != want {
			t.Errorf("%d mutations: %d rounds", issued, n)
		}
	}
	c := made(t, 2, 2)
	does(t, c, change(api.Shift, 1, 1)) // in the first round shard 1 is sealed, in the second its heir begins
	if n := calms(t, c); n != 5 {
		t.Errorf("a change: %d rounds", n)
	}
	c = made(t, 2, 2, all())
	does(t, c, issue(1, put(5, 1))) // what shard 2 has is known up to that time in the second round
	if n := calms(t, c); n != 5 {
		t.Errorf("two shards: %d rounds", n)
	}
}

// Promise 18.2: in a round the nodes' Ticks come ahead of what clients want, and all that is told in it arrives in it.
func TestCalmOrder(t *testing.T) {
	c := made(t, 1, 1, all())
	does(t, c, issue(1, put(5, 1)), trip(0, 1, up(2000)...), of(api.DeedTell, 1), nth(api.DeedMail, 0), of(api.DeedWake, 0))
	if l := c.Cores(); len(l[0].Held) != 1 { // the Tick lets go of it
		t.Fatalf("%v", l)
	}
	if n := calms(t, c); n != 4 {
		t.Errorf("%d rounds", n)
	}
}

// Promise 18.2: in a round the nodes' Ticks come by their numbers.
func TestCalmNodes(t *testing.T) {
	c := made(t, 3, 3, all(), all())
	does(t, c, issue(1, move(5, 4000, 1)), issue(2, move(2000, 4001, 1)), of(api.DeedTell, 1), of(api.DeedTell, 2))
	does(t, c, nth(api.DeedMail, 0), nth(api.DeedMail, 3))
	for c.Mails() > 0 {
		does(t, c, nth(api.DeedLose, 0))
	}
	if l := c.Cores(); len(l[0].Held) != 1 || len(l[1].Held) != 1 {
		t.Fatalf("%v", l)
	}
	calms(t, c) // shard 3 is asked by node 0 first
	if l := c.Cores()[2].Log; len(l) != 2 || l[0].M.Client != 1 || l[0].Time != 1 || l[1].Time != 2 {
		t.Errorf("%v", l)
	}
}

// Promise 18.2: in a round the chief's Tick comes behind those of the nodes.
func TestCalmChief(t *testing.T) {
	c := made(t, 2, 2, all())
	does(t, c, issue(1, move(5, 4000, 1)), of(api.DeedTell, 1), nth(api.DeedMail, 0), nth(api.DeedLose, 0), nth(api.DeedLose, 0))
	does(t, c, trip(1, 1, up(2000)...), nth(api.DeedMail, 0), of(api.DeedWake, 1), change(api.Shift, 1, 1))
	if l := c.Cores(); len(l[0].Held) != 1 || len(l[1].Held) != 1 || len(l[0].Held[0].Peers)+len(l[1].Held[0].Peers) != 0 {
		t.Fatalf("%v", l)
	}
	// in the first round node 1 tells shard 1 a time, and then it is sealed; its heir begins in the second one, and
	// the client learns that in the third one, and what the heir has in the fourth
	if n := calms(t, c); n != 7 {
		t.Errorf("%d rounds", n)
	}
}

// full is a calm cluster, each of its shards at a node of its own, whose last shard has no room for further mutations. Its client 1 follows all.
func full(t *testing.T, shards int) *cluster.Cluster {
	t.Helper()
	last := []api.Span{{Lo: 3000, Hi: api.MaxKey}}
	c := made(t, shards, shards, all(), last, last, last)
	for n := range api.MaxList {
		does(t, c, issue(1+n%4, put(4000, 1)))
		if n%200 == 199 {
			calms(t, c)
		}
	}
	return c
}

// never looks whether Calm ends behind so many rounds, without an end of all.
func never(t *testing.T, c *cluster.Cluster, want int) {
	t.Helper()
	if n, done := c.Calm(); n != want || done {
		t.Fatalf("%d rounds, %v, not %d; pending are %v", n, done, want, c.Client(1).Pending())
	}
	mails(t, c, 0)
}

// Promise 18.2: if it does not become calm, it ends behind 60 rounds, and 10 for each mutation that was pending or held and for each shard.
func TestCalmNever(t *testing.T) {
	c := full(t, 1)
	does(t, c, issue(1, put(4000, 1)))
	never(t, c, 60+10*(1+0+1))
	does(t, c, issue(1, put(4000, 1)), issue(1, put(4000, 1)))
	never(t, c, 60+10*(3+0+1))
	does(t, c, change(api.Split, 1, 100))
	never(t, c, 60+10*(3+0+1))
	never(t, c, 60+10*(3+0+2)) // the core that was split is none of a shard any more
	if l := c.Cores(); len(l) != 3 || len(c.Client(1).Pending()) != 3 {
		t.Errorf("%v", l)
	}
}

// Promise 18.2: what is held counts as it is when all are awake.
func TestCalmHeld(t *testing.T) {
	c := full(t, 2)
	does(t, c, issue(1, move(5, 4000, 1)))
	never(t, c, 60+10*(1+0+2))
	never(t, c, 60+10*(1+1+2)) // shard 1 holds it, and shard 2 has no room for it
	does(t, c, issue(1, move(5, 4000, 1)))
	never(t, c, 60+10*(2+1+2)) // the second one is not pushed

	c = full(t, 2)
	does(t, c, issue(1, move(5, 4000, 1)), trip(0, 1, up(2000)...), of(api.DeedTell, 1), nth(api.DeedMail, 0))
	if l := c.Cores(); c.Up(0) || len(l[0].Held) != 0 {
		t.Fatalf("%v", l[0])
	}
	never(t, c, 60+10*(1+1+2)) // it was kept when the power failed
}

// Promise 18.3: the cores, also of those who are down, and the chart are told as they are.
func TestCores(t *testing.T) {
	c := made(t, 3, 5, all())
	for i, k := range c.Cores() { // 1 and 4 are at node 0, 2 and 5 at node 1, 3 at node 2
		if k.ID != i+1 {
			t.Errorf("%v", c.Cores())
		}
	}
	does(t, c, issue(1, move(5, 4000, 3)), of(api.DeedTell, 1), nth(api.DeedMail, 0))
	between(t, c, 0, 1)
	was := c.Cores()
	if len(was[0].Log) != 1 || len(was[4].Log) != 1 || len(was[1].Log)+len(was[2].Log)+len(was[3].Log) != 0 {
		t.Fatalf("%v", was)
	}
	for _, who := range []int{0, 1, 2, api.AddrChief} {
		does(t, c, of(api.DeedFail, who))
		if l := c.Cores(); !same(l, was) || c.Chart().Epoch != 1 {
			t.Fatalf("%v becomes %v", was, l)
		}
	}
}

// Promise 18.3: what peers gave is told, till it is lost with the power.
func TestPeers(t *testing.T) {
	c := made(t, 3, 3, all())
	does(t, c, issue(1, put(5, 1, 2000, 1, 4000, 1)), of(api.DeedTell, 1), nth(api.DeedMail, 0))
	for range 3 {
		does(t, c, nth(api.DeedLose, 0))
	}
	mails(t, c, 2)
	does(t, c, nth(api.DeedMail, 0)) // to shard 2, which asks both and answers
	l := c.Cores()
	if !same(l[1].Held[0].Peers, []api.Peer{{Shard: 1, Time: 1}}) || len(l[0].Held[0].Peers) != 0 {
		t.Fatalf("%v", l)
	}
	does(t, c, of(api.DeedFail, 1))
	if !same(c.Cores(), l) {
		t.Fatalf("%v becomes %v", l, c.Cores())
	}
	does(t, c, of(api.DeedWake, 1))
	if l := c.Cores(); len(l[1].Held[0].Peers) != 0 {
		t.Fatalf("%v", l)
	}
	calms(t, c)
}

// Promise 18.3: a client is that of the cluster itself.
func TestClient(t *testing.T) {
	c := made(t, 1, 1, all(), some(10))
	does(t, c, issue(2, put(5, 1)))
	for _, i := range []int{-1, 0, 3, 4, 17, math.MaxInt, math.MinInt} {
		if c.Client(i) != nil {
			t.Errorf("there is a client %d", i)
		}
	}
	if n := len(c.Client(1).Pending()) + 10*len(c.Client(2).Pending()); n != 10 {
		t.Errorf("%d are pending", n)
	}
	if seq, e := c.Client(1).Issue(put(7, 2)); seq != 1 || e != api.OK {
		t.Errorf("%d, %v", seq, e)
	}
	calms(t, c)
	reads(t, c, 2, 7, 2)
	reads(t, c, 1, 5, 1)
}

// Promise 18.3: nodes and the chief are up, and nobody else.
func TestUp(t *testing.T) {
	c := made(t, 2, 1, all(), all())
	for who := -2; who < 70; who++ {
		if is := who == 0 || who == 1 || who == 9; c.Up(who) != is {
			t.Errorf("%d is up: %v", who, c.Up(who))
		}
	}
	for _, who := range []int{math.MaxInt, math.MinInt} {
		if c.Up(who) {
			t.Errorf("%d is up", who)
		}
	}
	does(t, c, of(api.DeedFail, 1))
	if c.Up(1) || !c.Up(0) || !c.Up(9) {
		t.Error("the wrong one is down")
	}
}

// Promises 18.1 to 18.3: nothing is done to no cluster.
func TestNil(t *testing.T) {
	var c *cluster.Cluster
	for kind := -1; kind < 14; kind++ {
		for _, who := range []int{0, 1, 9} {
			gives(t, c, of(kind, who), api.ErrArg)
		}
	}
	if n, done := c.Calm(); n != 0 || done {
		t.Errorf("%d rounds, %v", n, done)
	}
	if c.Cores() != nil || !same(c.Chart(), api.Chart{}) || c.Client(1) != nil || c.Nodes() != 0 || c.Up(0) || c.Up(9) || c.Mails() != 0 {
		t.Error("there is something")
	}
}

// The chapter's example.
func TestExample(t *testing.T) {
	c := made(t, 1, 1, all())
	does(t, c, issue(1, put(5, 7)))
	calms(t, c)
	reads(t, c, 1, 5, 7)
	if l := c.Cores(); len(l) != 1 || l[0].ID != 1 || len(l[0].Log) != 1 || len(c.Client(1).Pending()) != 0 {
		t.Errorf("%s", show(c))
	}
}
