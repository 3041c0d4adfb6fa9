package balance_test

import (
	"math"
	"math/rand"
	"slices"
	"testing"

	"splice/api"
	"splice/balance"
	"splice/chart"
)

// pairs are keys and values, one after the other.
func pairs(l ...int) []api.Pair {
	var out []api.Pair
	for i := 0; i < len(l); i += 2 {
		out = append(out, api.Pair{Key: l[i], Val: l[i+1]})
	}
	return out
}

// shard is a shard by its numbers.
func shard(id, lo, hi, node int) api.Shard {
	return api.Shard{ID: id, Keys: api.Span{Lo: lo, Hi: hi}, Node: node}
}

// first is First of what may be.
func first(t *testing.T, nodes, shards int) api.Chart {
	t.Helper()
	c, e := chart.First(nodes, shards)
	if e != api.OK {
		t.Fatalf("First(%d, %d): %v", nodes, shards, e)
	}
	return c
}

// tens is a chart with a shard of 100 keys on each of the nodes, and a last one with all keys behind them.
func tens(nodes ...int) api.Chart {
	c := api.Chart{Epoch: 1, Next: len(nodes) + 1}
	for i, n := range nodes {
		c.L = append(c.L, shard(i+1, 100*i, 100*i+100, n))
	}
	c.L[len(nodes)-1].Keys.Hi = 4096
	return c
}

// each is loads: so much for one key of each shard of tens, in two if it is even.
func each(loads ...int) []api.Pair {
	var l []api.Pair
	for i, n := range loads {
		if n%2 == 0 {
			l = append(l, pairs(100*i+7, n/2, 100*i+70, n/2)...)
		} else {
			l = append(l, pairs(100*i+7, n)...)
		}
	}
	return l
}

func same(a, b api.Chart) bool {
	return a.Epoch == b.Epoch && a.Next == b.Next && slices.Equal(a.L, b.L)
}

func with(c api.Chart, do func(c *api.Chart)) api.Chart {
	c.L = slices.Clone(c.L)
	do(&c)
	return c
}

// example is the loads of the chapter, and its policy.
func example() ([]api.Pair, api.Policy) {
	return pairs(10, 6, 20, 5, 30, 4, 3000, 1), api.Policy{High: 9, Low: 2, Slack: 3}
}

// suggests tests what is suggested: a change, or (its Kind 0) none.
func suggests(t *testing.T, c api.Chart, l []api.Pair, p api.Policy, nodes int, want api.Change) {
	t.Helper()
	x, some, e := balance.Suggest(c, l, p, nodes)
	if x != want || some != (want.Kind != 0) || e != api.OK {
		t.Errorf("Suggest of %v by %v: %v, %v, %v; not %v", l, p, x, some, e, want)
	}
}

// refuses tests that nothing is suggested, by an error.
func refuses(t *testing.T, c api.Chart, l []api.Pair, p api.Policy, nodes int, want api.Errno) {
	t.Helper()
	if x, some, e := balance.Suggest(c, l, p, nodes); x != (api.Change{}) || some || e != want {
		t.Errorf("Suggest of %v, %v by %v: %v, %v, %v; not %v", c, l, p, x, some, e, want)
	}
	for _, most := range []int{math.MinInt, -1, 0, 1, 9} {
		if last, done, e := balance.Run(c, l, p, nodes, most); !same(last, api.Chart{}) || done != nil || e != want {
			t.Errorf("Run of %v, %v by %v, %d: %v, %v, %v; not %v", c, l, p, most, last, done, e, want)
		}
	}
}

// runs tests what Run makes.
func runs(t *testing.T, c api.Chart, l []api.Pair, p api.Policy, nodes, most int, want ...api.Change) api.Chart {
	t.Helper()
	last, done, e := balance.Run(c, l, p, nodes, most)
	made := c
	for _, x := range want {
		made, _, _, _ = chart.Apply(made, x)
	}
	if e != api.OK || !slices.Equal(done, want) || !same(last, made) {
		t.Errorf("Run of %v by %v, %d: %v, %v, %v; not %v", l, p, most, last, done, e, want)
	}
	return last
}

// Promise 25.1: Check.
func TestCheck(t *testing.T) {
	most := api.MaxVal
	for _, p := range []api.Policy{
		{}, {High: 9, Low: 2, Slack: 3}, {High: 2, Low: 2}, {High: 1}, {Slack: 1}, {High: most, Low: most, Slack: most}, {High: most, Low: 0, Slack: 0},
	} {
		if !balance.Check(p) {
			t.Errorf("Check(%v)", p)
		}
	}
	for _, p := range []api.Policy{
		{Slack: -1}, {High: 9, Low: 2, Slack: -1}, {High: -1, Low: -1}, {High: 5, Low: -1}, {High: -1}, {High: 1, Low: 2}, {Low: 1},
		{High: most + 1}, {High: most + 1, Low: most + 1}, {High: most, Low: most + 1}, {Slack: most + 1},
		{High: math.MaxInt}, {Low: math.MinInt}, {High: 3, Low: 1, Slack: math.MaxInt}, {High: 3, Low: 1, Slack: math.MinInt}, {High: math.MinInt, Low: math.MinInt},
	} {
		if balance.Check(p) {
			t.Errorf("Check(%v)", p)
		}
	}
}

// Promise 25.1: Shards and Nodes.
func TestLoads(t *testing.T) {
	l, _ := example()
	for i, x := range []struct {
		c             api.Chart
		l             []api.Pair
		nodes         int
		shards, sums  []int
		fewer, beyond api.Errno // of one node less, and of all nodes
	}{
		{first(t, 2, 2), l, 2, []int{15, 1}, []int{15, 1}, api.ErrArg, api.OK},
		{first(t, 2, 2), nil, 2, []int{0, 0}, []int{0, 0}, api.ErrArg, api.OK},
		{first(t, 2, 3), l, 2, []int{15, 0, 1}, []int{16, 0}, api.ErrArg, api.OK},
		{first(t, 1, 1), l, 1, []int{16}, []int{16}, api.ErrArg, api.OK},
		{first(t, 1, 2), l, 3, []int{15, 1}, []int{16, 0, 0}, api.OK, api.OK},
		{first(t, 5, 5), pairs(0, 1, 818, 2, 819, 4, 1637, 8, 1638, 16, 4095, 32), 5, []int{3, 12, 16, 0, 32}, []int{3, 12, 16, 0, 32}, api.ErrArg, api.OK},
		{tens(3, 1, 3), pairs(99, 1, 100, 2, 199, 3, 200, 0, 201, 4), 4, []int{1, 5, 4}, []int{0, 5, 0, 5}, api.ErrArg, api.OK},
	} {
		if got, e := balance.Shards(x.c, x.l); e != api.OK || !slices.Equal(got, x.shards) {
			t.Errorf("%d: Shards: %v, %v", i, got, e)
		}
		if got, e := balance.Nodes(x.c, x.l, x.nodes); e != api.OK || !slices.Equal(got, x.sums) {
			t.Errorf("%d: Nodes: %v, %v", i, got, e)
		}
		if got, e := balance.Nodes(x.c, x.l, x.nodes-1); e != x.fewer || (got == nil) != (e != api.OK) {
			t.Errorf("%d: Nodes of one less: %v, %v", i, got, e)
		}
		if got, e := balance.Nodes(x.c, x.l, 5); e != x.beyond || len(got) != 5 {
			t.Errorf("%d: Nodes of all: %v, %v", i, got, e)
		}
	}
}

// Promise 25.1: the greatest loads there are.
func TestGreatestLoads(t *testing.T) {
	l := make([]api.Pair, 4096)
	for i := range l {
		l[i] = api.Pair{Key: i, Val: api.MaxVal}
	}
	c := first(t, 2, 3)
	shards, _ := balance.Shards(c, l)
	nodes, e := balance.Nodes(c, l, 2)
	if !slices.Equal(shards, []int{1365 * api.MaxVal, 1365 * api.MaxVal, 1366 * api.MaxVal}) || !slices.Equal(nodes, []int{2731 * api.MaxVal, 1365 * api.MaxVal}) || e != api.OK {
		t.Errorf("%v, %v, %v", shards, nodes, e)
	}
	most := api.Policy{High: api.MaxVal, Low: api.MaxVal, Slack: api.MaxVal}
	suggests(t, c, l, most, 2, api.Change{Kind: api.Split, ID: 3, At: 3413})
	last, done, e := balance.Run(first(t, 1, 1), l, most, 5, 1000)
	if sums, _ := balance.Nodes(last, l, 5); e != api.OK || len(last.L) != 24 || slices.Max(sums)-slices.Min(sums) > 300*api.MaxVal {
		t.Errorf("%v, %v, %v", last, done, e)
	}
}

// wrong are arguments that may not be.
func wrong(t *testing.T) (charts []api.Chart, loads [][]api.Pair, policies []api.Policy, nodes []int) {
	c := first(t, 2, 3)
	charts = []api.Chart{
		{}, with(c, func(c *api.Chart) { c.Epoch = 0 }), with(c, func(c *api.Chart) { c.Next = 3 }), with(c, func(c *api.Chart) { c.L = nil }),
		with(c, func(c *api.Chart) { c.L[1].Keys.Hi++ }), with(c, func(c *api.Chart) { c.L[2].Node = 5 }), with(c, func(c *api.Chart) { c.L[2].Node = -1 }),
		with(c, func(c *api.Chart) { c.L[0].ID = 2 }), with(c, func(c *api.Chart) { c.L = c.L[:2] }), with(c, func(c *api.Chart) { c.L[1].Node = math.MinInt }),
	}
	loads = [][]api.Pair{
		pairs(1, -1), pairs(1, 2, 5, -1, 9, 4), pairs(4095, math.MinInt), pairs(0, api.MaxVal+1), pairs(-1, 4), pairs(4096, 4),
		pairs(1, 2, 1, 2), pairs(5, 2, 1, 2), pairs(math.MaxInt, 1), pairs(1, 1, 2, math.MaxInt), pairs(1, -api.MaxVal),
	}
	policies = []api.Policy{{Slack: -1}, {High: 1, Low: 2}, {High: -1, Low: -1}, {High: math.MaxInt}, {Low: -1}}
	return charts, loads, policies, []int{0, 1, -1, 6, math.MinInt, math.MaxInt}
}

// Promises 25.1 to 25.3: arguments that may not be.
func TestWrong(t *testing.T) {
	c := first(t, 2, 3)
	l, p := example()
	none := func(loads []int, e api.Errno) {
		t.Helper()
		if loads != nil || e != api.ErrArg {
			t.Errorf("%v, %v", loads, e)
		}
	}
	charts, loads, policies, nodes := wrong(t)
	for _, c := range charts {
		none(balance.Shards(c, l))
		none(balance.Nodes(c, l, 2))
		refuses(t, c, l, p, 2, api.ErrArg)
	}
	for _, l := range loads {
		none(balance.Shards(c, l))
		none(balance.Nodes(c, l, 2))
		refuses(t, c, l, p, 2, api.ErrArg)
	}
	for _, n := range nodes {
		none(balance.Nodes(c, l, n))
		refuses(t, c, l, p, n, api.ErrArg)
	}
	for _, p := range policies {
		refuses(t, c, l, p, 2, api.ErrArg)
	}
	refuses(t, with(c, func(c *api.Chart) { c.Epoch = api.MaxSeq }), l, policies[0], 2, api.ErrArg) // ahead of api.ErrLong
}

// Promise 25.2: the examples of the chapter.
func TestSuggestExamples(t *testing.T) {
	c := first(t, 2, 2)
	l, p := example()
	suggests(t, c, l, p, 2, api.Change{Kind: api.Split, ID: 1, At: 11})
	suggests(t, c, l, p, 5, api.Change{Kind: api.Split, ID: 1, At: 11})
	refuses(t, c, l, p, 1, api.ErrArg)
	refuses(t, c, l, api.Policy{High: 1, Low: 2}, 2, api.ErrArg)
	suggests(t, first(t, 1, 1), l[:3], p, 1, api.Change{Kind: api.Split, ID: 1, At: 11})
}

// Promise 25.2: where a shard is split.
func TestSplitAt(t *testing.T) {
	for _, x := range []struct {
		l    []api.Pair
		want int // 0: not at all
	}{
		{pairs(10, 6, 20, 5, 30, 4), 11}, {pairs(10, 4, 20, 5, 30, 6), 21}, {pairs(10, 5, 20, 5), 11},
		{pairs(10, 5, 20, 2, 30, 5), 11}, // at 11 and at 21 it differs as much
		{pairs(10, 1, 20, 3, 30, 2, 40, 3, 50, 1), 21}, {pairs(0, 9, 1, 1), 1}, {pairs(0, 1, 4095, 9), 1}, {pairs(4094, 9, 4095, 9), 4095},
		{pairs(10, 1, 20, 1, 30, 99), 21}, {pairs(10, 99, 20, 1, 30, 1), 11},
		{pairs(3, 0, 10, 6, 15, 0, 20, 6, 25, 0), 11}, // keys without a load are on no side
		{pairs(3, 0, 4, 0, 10, 0, 20, 6, 21, 6), 21}, {pairs(20, 6, 21, 0, 22, 0, 4095, 6), 21},
		{pairs(10, 12), 0}, {pairs(9, 0, 10, 12, 11, 0), 0}, {pairs(0, 12), 0}, {pairs(4095, 12), 0},
		{pairs(10, 9), 0}, {pairs(10, 4, 11, 5), 0}, {pairs(10, 5, 11, 5), 11}, // not above High; just above it
		{pairs(5, api.MaxVal, 6, api.MaxVal, 7, api.MaxVal), 6},
	} {
		want := api.Change{}
		if x.want > 0 {
			want = api.Change{Kind: api.Split, ID: 1, At: x.want}
		}
		suggests(t, first(t, 1, 1), x.l, api.Policy{High: 9}, 1, want)
	}
	suggests(t, first(t, 1, 1), pairs(0, 1, 4095, 1), api.Policy{High: 1}, 1, api.Change{Kind: api.Split, ID: 1, At: 1})
	suggests(t, first(t, 1, 1), pairs(0, 1, 4095, 1), api.Policy{High: 0, Slack: 1}, 1, api.Change{Kind: api.Split, ID: 1, At: 1})
	c := tens(0, 0, 0)
	c.L[0].Node, c.L[1].Node, c.L[2].Node = 0, 1, 2
	suggests(t, c, pairs(99, 5, 100, 5, 199, 6, 200, 5), api.Policy{High: 9, Slack: 99}, 3, api.Change{Kind: api.Split, ID: 2, At: 101})
}

// Promise 25.2: which shard is split.
func TestSplitWhich(t *testing.T) {
	p := api.Policy{High: 9, Slack: api.MaxVal}
	for i, x := range []struct {
		l    []api.Pair
		want int
	}{
		{each(10, 12, 14, 13), 3}, {each(12, 14, 14, 14), 2}, {each(14, 12, 10, 8), 1}, {each(8, 8, 8, 10), 4},
		{each(10, 99, 12, 99), 3}, // 99 is of one key
		{each(99, 99, 99, 99), 0}, {each(9, 8, 9, 8), 0}, {nil, 0},
	} {
		want := api.Change{}
		if x.want > 0 {
			want = api.Change{Kind: api.Split, ID: x.want, At: 100*x.want - 100 + 8}
		}
		suggests(t, tens(0, 1, 0, 1), x.l, p, 2, want)
		if c := tens(0, 1, 0, 1); i == 1 { // by keys, not by numbers
			c.L[1].ID, c.L[3].ID = 4, 2
			suggests(t, c, x.l, p, 2, api.Change{Kind: api.Split, ID: 4, At: 108})
		}
	}
}

// Promise 25.2: a split when there are 23 shards, and none when there are 24.
func TestSplitRoom(t *testing.T) {
	l := pairs(0, 8, 1, 8)
	p := api.Policy{High: 9}
	suggests(t, first(t, 1, 23), l, p, 1, api.Change{Kind: api.Split, ID: 1, At: 1})
	suggests(t, first(t, 1, 24), l, p, 1, api.Change{Kind: api.Merge, ID: 2})
	suggests(t, first(t, 2, 24), l, p, 2, api.Change{})
	suggests(t, first(t, 2, 24), append(l, pairs(4000, 1)...), p, 2, api.Change{})
	suggests(t, first(t, 2, 24), append(l, pairs(400, 1)...), p, 2, api.Change{Kind: api.Shift, ID: 1, At: 1})
}

// Promise 25.2: from which node a shard is shifted, to which one, and which shard; how much the two nodes differ.
func TestShift(t *testing.T) {
	for _, x := range []struct {
		nodes, loads []int
		all          int
		id, to, gap  int
	}{
		{[]int{0, 1, 0, 1}, []int{5, 3, 2, 1}, 2, 3, 1, 3}, // 5 is not less than 3
		{[]int{0, 1, 0, 1}, []int{1, 5, 1, 3}, 2, 2, 0, 6},
		{[]int{0, 1, 0}, []int{4, 0, 3}, 2, 1, 1, 7}, // the greatest load, not the first one
		{[]int{0, 1, 0}, []int{3, 0, 4}, 2, 3, 1, 7},
		{[]int{0, 1, 0}, []int{4, 0, 4}, 2, 1, 1, 8}, // the first one of two
		{[]int{0, 1, 0}, []int{6, 1, 1}, 2, 3, 1, 6}, // 6 is not less than 6
		{[]int{0, 1, 0}, []int{6, 1, 2}, 2, 1, 1, 7},
		{[]int{2, 1, 0, 2}, []int{4, 1, 1, 3}, 3, 1, 0, 6}, // to the least of two nodes
		{[]int{2, 1, 0, 2}, []int{4, 1, 2, 3}, 3, 1, 1, 6},
		{[]int{2, 1, 1, 2}, []int{4, 3, 4, 3}, 3, 3, 0, 7}, // from the least of two nodes
		{[]int{1, 2, 1, 2}, []int{1, 1, 1, 1}, 5, 1, 0, 2},
		{[]int{4, 4, 4}, []int{2, 3, 1}, 5, 2, 0, 6},
		{[]int{0, 1, 0, 0}, []int{0, 0, 2, 1}, 2, 3, 1, 3},
	} {
		c, l := tens(x.nodes...), each(x.loads...)
		want := api.Change{Kind: api.Shift, ID: x.id, At: x.to}
		for _, slack := range []int{0, x.gap - 1} {
			suggests(t, c, l, api.Policy{High: 99, Slack: slack}, x.all, want)
		}
		for _, slack := range []int{x.gap, x.gap + 1, api.MaxVal} {
			if y, some, e := balance.Suggest(c, l, api.Policy{High: 99, Slack: slack}, x.all); y.Kind == api.Shift || e != api.OK {
				t.Errorf("%v on %v, slack %d: %v, %v, %v", x.loads, x.nodes, slack, y, some, e)
			}
		}
	}
	c := tens(0, 0, 1) // by keys, not by numbers
	c.L[0].ID, c.L[1].ID = 2, 1
	suggests(t, c, each(3, 3, 0), api.Policy{High: 99}, 2, api.Change{Kind: api.Shift, ID: 2, At: 1})
}

// Promise 25.2: no shard to shift: it may be that two are merged, then.
func TestNoShift(t *testing.T) {
	merged := func(id int) api.Change { return api.Change{Kind: api.Merge, ID: id} }
	for _, x := range []struct {
		nodes, loads []int
		all          int
		want         api.Change
	}{
		{[]int{0, 1, 0}, []int{7, 0, 0}, 2, api.Change{}}, // 7 is not less than 7, and 0 is no load
		{[]int{0, 1, 2}, []int{7, 1, 1}, 3, api.Change{}},
		{[]int{0, 0, 1}, []int{3, 3, 6}, 2, api.Change{}}, // there is no difference
		{[]int{0, 0, 1}, []int{3, 3, 5}, 2, api.Change{}},
		{[]int{0, 0, 0}, []int{3, 2, 1}, 1, api.Change{}}, // there is no other node
		{[]int{1, 2, 1, 2}, []int{0, 0, 0, 0}, 5, api.Change{}},
		{[]int{0, 0, 0, 1}, []int{9, 0, 0, 0}, 2, merged(2)},
		{[]int{0, 0, 1}, []int{0, 9, 1}, 2, api.Change{}},
		{[]int{0, 1, 1}, []int{9, 0, 0}, 2, merged(2)},
	} {
		suggests(t, tens(x.nodes...), each(x.loads...), api.Policy{High: 99}, x.all, x.want)
	}
}

// Promise 25.2: which shards are merged.
func TestMerge(t *testing.T) {
	for _, x := range []struct {
		nodes, loads []int
		low, want    int
	}{
		{[]int{0, 0, 0, 0}, []int{3, 2, 1, 2}, 5, 2}, {[]int{0, 0, 0, 0}, []int{3, 1, 2, 1}, 5, 2}, {[]int{0, 0, 0, 0}, []int{2, 3, 1, 2}, 5, 3},
		{[]int{0, 0, 0, 0}, []int{1, 2, 1, 2}, 3, 1}, {[]int{0, 0, 0, 0}, []int{1, 2, 1, 2}, 2, 0}, {[]int{0, 0, 0, 0}, []int{4, 4, 4, 1}, 5, 3},
		{[]int{0, 1, 1, 0}, []int{0, 3, 3, 0}, 6, 2}, {[]int{0, 1, 1, 0}, []int{0, 3, 3, 0}, 5, 0}, {[]int{0, 1, 0, 1}, []int{0, 0, 0, 0}, 9, 0},
		{[]int{0, 0, 1, 1}, []int{2, 2, 1, 2}, 9, 3}, {[]int{0, 0, 1, 1}, []int{0, 0, 0, 0}, 0, 1}, {[]int{1, 0, 0, 0}, []int{0, 0, 0, 0}, 0, 2},
		{[]int{0, 0, 0, 0}, []int{0, 1, 0, 1}, 0, 0}, {[]int{0, 0, 0, 0}, []int{0, 1, 0, 0}, 0, 3}, {[]int{0}, []int{0}, 9, 0}, {[]int{3, 3}, []int{4, 4}, 8, 1},
	} {
		want := api.Change{}
		if x.want > 0 {
			want = api.Change{Kind: api.Merge, ID: x.want}
		}
		suggests(t, tens(x.nodes...), each(x.loads...), api.Policy{High: 9, Low: x.low, Slack: 99}, 5, want)
	}
	c := tens(0, 0, 0)
	c.L[0].ID, c.L[2].ID = 3, 1
	suggests(t, c, each(3, 1, 1), api.Policy{High: 9, Low: 9}, 1, api.Change{Kind: api.Merge, ID: 2})
	suggests(t, c, each(1, 1, 3), api.Policy{High: 9, Low: 9}, 1, api.Change{Kind: api.Merge, ID: 3})
}

// Promise 25.2: a split goes ahead of a shift, and that ahead of a merge.
func TestOrder(t *testing.T) {
	c, l := tens(0, 0, 0, 1), each(10, 1, 2, 0)
	suggests(t, c, l, api.Policy{High: 9, Low: 5, Slack: 3}, 2, api.Change{Kind: api.Split, ID: 1, At: 8})
	suggests(t, c, l, api.Policy{High: 10, Low: 5, Slack: 3}, 2, api.Change{Kind: api.Shift, ID: 1, At: 1})
	suggests(t, c, l, api.Policy{High: 10, Low: 5, Slack: 13}, 2, api.Change{Kind: api.Merge, ID: 2})
	suggests(t, c, l, api.Policy{High: 10, Low: 2, Slack: 13}, 2, api.Change{})
}

// Promises 25.2 and 25.3: what is suggested, but can't be applied; and that there may be none to apply.
func TestTooMuch(t *testing.T) {
	l, p := example()
	wide := api.Policy{High: 99, Slack: 99}
	c := first(t, 2, 2)
	last := with(c, func(c *api.Chart) { c.Epoch = api.MaxSeq })
	refuses(t, last, l, p, 2, api.ErrLong)
	suggests(t, last, l, wide, 2, api.Change{})
	runs(t, last, l, wide, 2, 5)

	next := func(n int) api.Chart { return with(c, func(c *api.Chart) { c.Next = n }) }
	suggests(t, next(65535), l, p, 2, api.Change{Kind: api.Split, ID: 1, At: 11})
	refuses(t, next(65536), l, p, 2, api.ErrLong)
	refuses(t, next(65537), l, p, 2, api.ErrLong)
	light := pairs(1, 1, 2000, 1, 3000, 0)
	suggests(t, next(65536), light, api.Policy{High: 2}, 2, api.Change{})
	one := with(first(t, 1, 3), func(c *api.Chart) { c.Next = 65536 })
	suggests(t, one, each(1, 1, 1), api.Policy{High: 3, Low: 3}, 1, api.Change{Kind: api.Merge, ID: 2})
	suggests(t, one, pairs(1, 1, 2000, 1, 4000, 1), api.Policy{High: 3}, 2, api.Change{Kind: api.Shift, ID: 1, At: 1})
	one.Next = 65537
	refuses(t, one, each(1, 1, 1), api.Policy{High: 3, Low: 3}, 1, api.ErrLong)
	refuses(t, one, pairs(1, 1, 2000, 1, 4000, 1), api.Policy{High: 3}, 2, api.ErrLong)
}

// Promise 25.3: the example of the chapter, and how many changes are made.
func TestRun(t *testing.T) {
	l, p := example()
	all := []api.Change{{Kind: api.Split, ID: 1, At: 11}, {Kind: api.Shift, ID: 4, At: 1}, {Kind: api.Shift, ID: 2, At: 0}}
	for most, n := range map[int]int{math.MinInt: 0, -1: 0, 0: 0, 1: 1, 2: 2, 3: 3, 4: 3, 9: 3, math.MaxInt: 3} {
		last := runs(t, first(t, 2, 2), l, p, 2, most, all[:n]...)
		if sums, e := balance.Nodes(last, l, 2); e != api.OK || sums[0]+sums[1] != 16 {
			t.Errorf("most %d: %v, %v", most, sums, e)
		}
	}
	want := api.Chart{Epoch: 4, Next: 7, L: []api.Shard{shard(3, 0, 11, 0), shard(5, 11, 2048, 1), shard(6, 2048, 4096, 0)}}
	if last := runs(t, first(t, 2, 2), l, p, 2, 9, all...); !same(last, want) {
		t.Errorf("%v", last)
	}
	runs(t, first(t, 1, 1), nil, p, 5, 9)
	runs(t, first(t, 1, 4), nil, p, 1, 2, api.Change{Kind: api.Merge, ID: 1}, api.Change{Kind: api.Merge, ID: 5})
}

// Promise 25.3: an error of a later call of Suggest is Run's, also of the call behind the last change.
func TestRunErrors(t *testing.T) {
	l, p := example()
	for left := range 4 { // changes till the epoch is the greatest
		c := with(first(t, 2, 2), func(c *api.Chart) { c.Epoch = api.MaxSeq - left })
		for most := -1; most < 6; most++ {
			last, done, e := balance.Run(c, l, p, 2, most)
			switch n := min(max(most, 0), 3); {
			case n < left || left == 3:
				if e != api.OK || len(done) != n || last.Epoch != c.Epoch+n {
					t.Errorf("left %d, most %d: %v, %v, %v", left, most, last, done, e)
				}
			default:
				if e != api.ErrLong || done != nil || !same(last, api.Chart{}) {
					t.Errorf("left %d, most %d: %v, %v, %v", left, most, last, done, e)
				}
			}
		}
	}
}

// load is the load of keys, from one up to another.
func load(l []api.Pair, lo, hi int) int {
	n := 0
	for _, p := range l {
		if lo <= p.Key && p.Key < hi {
			n += p.Val
		}
	}
	return n
}

// wanted is what the document says is suggested: by going through all keys, nodes and shards.
func wanted(c api.Chart, l []api.Pair, p api.Policy, nodes int) api.Change {
	loads, sums := make([]int, len(c.L)), make([]int, nodes)
	for i, s := range c.L {
		loads[i] = load(l, s.Keys.Lo, s.Keys.Hi)
		sums[s.Node] += loads[i]
	}
	x, most := api.Change{}, -1
	for i, s := range c.L {
		if loads[i] <= p.High || loads[i] <= most || len(c.L) == 24 {
			continue
		}
		least := math.MaxInt
		for at := s.Keys.Lo + 1; at < s.Keys.Hi; at++ {
			a, b := load(l, s.Keys.Lo, at), load(l, at, s.Keys.Hi)
			if a > 0 && b > 0 && max(a-b, b-a) < least {
				x, most, least = api.Change{Kind: api.Split, ID: s.ID, At: at}, loads[i], max(a-b, b-a)
			}
		}
	}
	if x.Kind != 0 {
		return x
	}
	from, to := slices.Index(sums, slices.Max(sums)), slices.Index(sums, slices.Min(sums))
	most = 0
	for i, s := range c.L {
		if s.Node == from && loads[i] > most && loads[i] < sums[from]-sums[to] && sums[from]-sums[to] > p.Slack {
			x, most = api.Change{Kind: api.Shift, ID: s.ID, At: to}, loads[i]
		}
	}
	if x.Kind != 0 {
		return x
	}
	least := p.Low + 1
	for i := 1; i < len(c.L); i++ {
		if n := loads[i-1] + loads[i]; c.L[i-1].Node == c.L[i].Node && n < least {
			x, least = api.Change{Kind: api.Merge, ID: c.L[i-1].ID}, n
		}
	}
	return x
}

// random is any chart, loads, policy and number of nodes that may be.
func random(d *rand.Rand) (c api.Chart, l []api.Pair, p api.Policy, nodes int) {
	nodes = 1 + d.Intn(5)
	c, _ = chart.First(1+d.Intn(nodes), 1+d.Intn(24))
	keys := 10 + d.Intn(4086)
	for range d.Intn(20) {
		x := api.Change{Kind: 1 + d.Intn(3), ID: 1 + d.Intn(c.Next), At: d.Intn(keys)}
		if x.Kind == api.Shift {
			x.At = d.Intn(nodes)
		}
		if next, _, _, e := chart.Apply(c, x); e == api.OK {
			c = next
		}
	}
	for range d.Intn(40) {
		l = append(l, api.Pair{Key: d.Intn(keys), Val: d.Intn(10)})
	}
	slices.SortFunc(l, func(a, b api.Pair) int { return a.Key - b.Key })
	l = slices.CompactFunc(l, func(a, b api.Pair) bool { return a.Key == b.Key })
	p.High = d.Intn(40)
	p.Low, p.Slack = d.Intn(p.High+1), d.Intn(20)
	return c, l, p, nodes
}

// Promises 25.1 and 25.2: any charts and loads, held against what the document says.
func TestAnySuggestion(t *testing.T) {
	d := rand.New(rand.NewSource(25))
	kinds := map[int]int{}
	for range 2000 {
		c, l, p, nodes := random(d)
		want := wanted(c, l, p, nodes)
		kinds[want.Kind]++
		suggests(t, c, l, p, nodes, want)
		shards, _ := balance.Shards(c, l)
		for i, s := range c.L {
			if shards[i] != load(l, s.Keys.Lo, s.Keys.Hi) {
				t.Errorf("Shards: %v", shards)
			}
		}
	}
	for kind := range 4 {
		if kinds[kind] < 50 {
			t.Errorf("of kind %d: only %d", kind, kinds[kind])
		}
	}
}

// squares is the sum of the squares of the loads of the nodes.
func squares(c api.Chart, l []api.Pair, nodes int) int {
	sums, _ := balance.Nodes(c, l, nodes)
	n := 0
	for _, s := range sums {
		n += s * s
	}
	return n
}

// Promises 25.3 and 25.4: what each change makes of the loads, and how they are when nothing is suggested any more.
func TestAnyRun(t *testing.T) {
	d := rand.New(rand.NewSource(254))
	for range 500 {
		c, l, p, nodes := random(d)
		last, done, e := balance.Run(c, l, p, nodes, 100000)
		if e != api.OK {
			t.Fatalf("Run: %v", e)
		}
		suggests(t, last, l, p, nodes, api.Change{})
		now := c
		for i, x := range done {
			if x != wanted(now, l, p, nodes) {
				t.Fatalf("change %d: %v", i, x)
			}
			next, old, fresh, _ := chart.Apply(now, x)
			of := func(s api.Shard) int { return load(l, s.Keys.Lo, s.Keys.Hi) }
			switch x.Kind {
			case api.Split:
				if a, b := of(fresh[0]), of(fresh[1]); a == 0 || b == 0 || a+b != of(old[0]) {
					t.Errorf("a split of %d: %d, %d", of(old[0]), a, b)
				}
			case api.Shift:
				if squares(next, l, nodes) >= squares(now, l, nodes) {
					t.Errorf("a shift: %v", x)
				}
			case api.Merge:
				if len(next.L) >= len(now.L) || of(fresh[0]) > p.High {
					t.Errorf("a merge: %v", x)
				}
			}
			now = next
			if got, part, e := balance.Run(c, l, p, nodes, i+1); e != api.OK || !same(got, now) || !slices.Equal(part, done[:i+1]) {
				t.Errorf("Run of %d: %v, %v", i+1, part, e)
			}
		}
		if !same(last, now) {
			t.Errorf("Run: %v, not %v", last, now)
		}
		for _, s := range last.L {
			loaded := 0
			for _, x := range l {
				if x.Val > 0 && s.Keys.Lo <= x.Key && x.Key < s.Keys.Hi {
					loaded++
				}
			}
			if load(l, s.Keys.Lo, s.Keys.Hi) > p.High && loaded > 1 && len(last.L) < 24 {
				t.Errorf("shard %v can still be split", s)
			}
		}
	}
}

// R3: what is handed in is not changed, and what is answered is its owner's.
func TestNothingShared(t *testing.T) {
	c := first(t, 2, 2)
	c.L = append(make([]api.Shard, 0, 30), c.L...)
	l, p := example()
	l = append(make([]api.Pair, 0, 30), l...)
	wasC, wasL := slices.Clone(c.L[:30]), slices.Clone(l[:30])
	for _, x := range []struct {
		p    api.Policy
		most int
	}{{p, 9}, {p, 1}, {p, 0}, {api.Policy{High: 99, Slack: 99}, 9}} {
		last, done, e := balance.Run(c, l, x.p, 2, x.most)
		kept := slices.Clone(last.L)
		clear(last.L)
		clear(done)
		_ = append(last.L, shard(9, 9, 9, 9))
		if again, _, _ := balance.Run(c, l, x.p, 2, x.most); e != api.OK || !slices.Equal(again.L, kept) {
			t.Errorf("Run: %v, not %v", again.L, kept)
		}
	}
	shards, _ := balance.Shards(c, l)
	nodes, _ := balance.Nodes(c, l, 2)
	clear(shards)
	clear(nodes)
	if again, _ := balance.Shards(c, l); !slices.Equal(again, []int{15, 1}) {
		t.Errorf("Shards: %v", again)
	}
	if again, _ := balance.Nodes(c, l, 2); !slices.Equal(again, []int{15, 1}) {
		t.Errorf("Nodes: %v", again)
	}
	balance.Suggest(c, l, p, 2)
	if !slices.Equal(c.L[:30], wasC) || !slices.Equal(l[:30], wasL) {
		t.Errorf("changed: %v, %v", c.L[:30], l[:30])
	}
}

// Promises 25.1 to 25.4 and R1: arguments of any numbers.
func FuzzBalance(f *testing.F) {
	f.Add(1, 3, 1, 2, 2048, 0, 1, 10, 6, 20, 5, 9, 2, 3, 2, 9)
	f.Add(api.MaxSeq, 9, 5, 7, 100, 4, 4, 4000, 6, 4001, 5, 9, 2, 3, 5, 9)
	f.Fuzz(func(t *testing.T, epoch, next, id1, id2, edge, node1, node2, key1, val1, key2, val2, high, low, slack, nodes, most int) {
		c := api.Chart{Epoch: epoch, Next: next, L: []api.Shard{shard(id1, 0, edge, node1), shard(id2, edge, 4096, node2)}}
		l, p := pairs(key1, val1, key2, val2), api.Policy{High: high, Low: low, Slack: slack}
		_, e := balance.Nodes(c, l, nodes)
		x, some, g := balance.Suggest(c, l, p, nodes)
		if e != api.OK || !balance.Check(p) {
			if g != api.ErrArg {
				t.Errorf("Suggest: %v, %v, %v", x, some, g)
			}
			return
		}
		want := wanted(c, l, p, nodes)
		if _, _, _, h := chart.Apply(c, want); want.Kind != 0 && h != api.OK {
			if g != api.ErrLong || some {
				t.Errorf("Suggest: %v, %v, %v", x, some, g)
			}
		} else if x != want || g != api.OK || some != (want.Kind != 0) {
			t.Errorf("Suggest: %v, %v, %v; not %v", x, some, g, want)
		}
		if last, done, e := balance.Run(c, l, p, nodes, most); e == api.OK && (last.Epoch != epoch+len(done) || len(done) > max(most, 0) || !chart.Check(last)) {
			t.Errorf("Run: %v, %v", last, done)
		}
	})
}
