package chart_test

import (
	"math"
	"math/rand"
	"slices"
	"testing"

	"splice/api"
	"splice/chart"
	"splice/span"
	"splice/vint"
)

// shard is a shard by its numbers.
func shard(id, lo, hi, node int) api.Shard {
	return api.Shard{ID: id, Keys: api.Span{Lo: lo, Hi: hi}, Node: node}
}

// first is First of what may be.
func first(t *testing.T, nodes, shards int) api.Chart {
	t.Helper()
	c, e := chart.First(nodes, shards)
	if e != api.OK {
		t.Fatalf("First(%d, %d): %v", nodes, shards, e)
	}
	return c
}

func same(a, b api.Chart) bool {
	return a.Epoch == b.Epoch && a.Next == b.Next && slices.Equal(a.L, b.L)
}

// copied is a chart that shares nothing.
func copied(c api.Chart) api.Chart {
	c.L = slices.Clone(c.L)
	return c
}

// with is a chart after something was done to it.
func with(c api.Chart, do func(c *api.Chart)) api.Chart {
	c = copied(c)
	do(&c)
	return c
}

// good are charts that may be.
func good(t *testing.T) []api.Chart {
	return []api.Chart{
		first(t, 1, 1), first(t, 2, 3), first(t, 5, 24), first(t, 5, 2),
		{Epoch: 1, Next: 2, L: []api.Shard{shard(1, 0, 4096, 0)}},
		{Epoch: api.MaxSeq, Next: api.MaxShard + 1, L: []api.Shard{shard(api.MaxShard, 0, 4096, 4)}},
		{Epoch: 7, Next: 100, L: []api.Shard{shard(99, 0, 1, 4), shard(1, 1, 4095, 0), shard(50, 4095, 4096, 4)}},
		{Epoch: 2, Next: 65536, L: []api.Shard{shard(65535, 0, 300, 3), shard(300, 300, 4096, 3)}},
	}
}

// bad are charts that may not be.
func bad(t *testing.T) []api.Chart {
	c := first(t, 2, 3)
	l := []api.Chart{
		{}, {Epoch: 1, Next: 1}, {Epoch: 1, Next: 2}, {Epoch: 1, Next: 2, L: []api.Shard{}},
		{Epoch: 1, Next: 1, L: []api.Shard{shard(1, 0, 4096, 0)}},
		{Epoch: 1, Next: 2, L: []api.Shard{shard(2, 0, 4096, 0)}},
		{Epoch: 1, Next: 2, L: []api.Shard{shard(0, 0, 4096, 0)}},
		{Epoch: 1, Next: 9, L: []api.Shard{shard(1, 0, 4095, 0)}},
		{Epoch: 1, Next: 9, L: []api.Shard{shard(1, 1, 4096, 0)}},
		{Epoch: 1, Next: 9, L: []api.Shard{shard(1, 0, 4097, 0)}},
		{Epoch: 1, Next: 9, L: []api.Shard{shard(1, 0, 4096, 0), shard(2, 0, 4096, 0)}},
		{Epoch: 1, Next: 9, L: []api.Shard{shard(1, 0, 4096, 0), shard(2, 4096, 4096, 0)}},
		{Epoch: 1, Next: 9, L: []api.Shard{shard(1, 0, 0, 0), shard(2, 0, 4096, 0)}},
		{Epoch: 1, Next: 9, L: []api.Shard{shard(1, 0, 10, 0), shard(2, 10, 10, 0), shard(3, 10, 4096, 0)}},
		{Epoch: 1, Next: 9, L: []api.Shard{shard(1, 0, 10, 0), shard(2, 11, 4096, 0)}},
		{Epoch: 1, Next: 9, L: []api.Shard{shard(1, 0, 10, 0), shard(2, 9, 4096, 0)}},
		{Epoch: 1, Next: 9, L: []api.Shard{shard(1, 10, 4096, 0), shard(2, 0, 10, 0)}},
		{Epoch: 1, Next: 9, L: []api.Shard{shard(1, 0, 10, 0), shard(2, 10, 5, 0), shard(3, 5, 4096, 0)}},
		{Epoch: 1, Next: 9, L: []api.Shard{shard(1, 0, 10, 0), shard(1, 10, 4096, 0)}},
		{Epoch: 1, Next: 9, L: []api.Shard{shard(1, 0, 10, 0), shard(2, 10, 20, 0), shard(1, 20, 4096, 0)}},
		{Epoch: 1, Next: 9, L: []api.Shard{shard(1, math.MinInt, math.MaxInt, 0)}},
	}
	for _, n := range []int{0, -1, api.MaxSeq + 1, math.MinInt, math.MaxInt} {
		l = append(l, with(c, func(c *api.Chart) { c.Epoch = n }))
	}
	for _, n := range []int{0, 1, 2, 3, -1, api.MaxShard + 2, math.MinInt, math.MaxInt} {
		l = append(l, with(c, func(c *api.Chart) { c.Next = n }))
	}
	for i := range c.L {
		for _, n := range []int{0, -1, 4, 5, math.MinInt, math.MaxInt} {
			l = append(l, with(c, func(c *api.Chart) { c.L[i].ID = n }))
		}
		for _, n := range []int{-1, 5, math.MinInt, math.MaxInt} {
			l = append(l, with(c, func(c *api.Chart) { c.L[i].Node = n }))
		}
		for _, n := range []int{-1, 1, 5000, math.MinInt, math.MaxInt} {
			l = append(l, with(c, func(c *api.Chart) { c.L[i].Keys.Lo += n }), with(c, func(c *api.Chart) { c.L[i].Keys.Hi += n }))
		}
		l = append(l, with(c, func(c *api.Chart) { c.L = slices.Delete(c.L, i, i+1) }))
		l = append(l, with(c, func(c *api.Chart) { c.L = slices.Insert(c.L, i, c.L[i]) }))
	}
	return append(l, many(25))
}

// many is a chart of n shards of one key each, and one of the rest.
func many(n int) api.Chart {
	c := api.Chart{Epoch: 1, Next: n + 1}
	for i := range n {
		c.L = append(c.L, shard(i+1, i, i+1, 0))
	}
	c.L[n-1].Keys.Hi = api.MaxKey
	return c
}

// Promise 8.1: First, its numbers, keys and nodes.
func TestFirst(t *testing.T) {
	for nodes := 1; nodes <= 5; nodes++ {
		for shards := 1; shards <= 24; shards++ {
			c := first(t, nodes, shards)
			if c.Epoch != 1 || c.Next != shards+1 || len(c.L) != shards || !chart.Check(c) {
				t.Errorf("First(%d, %d): %v", nodes, shards, c)
			}
			for i, s := range c.L {
				if s != shard(i+1, 4096*i/shards, 4096*(i+1)/shards, i%nodes) {
					t.Errorf("First(%d, %d): %v", nodes, shards, s)
				}
			}
		}
	}
	want := api.Chart{Epoch: 1, Next: 4, L: []api.Shard{shard(1, 0, 1365, 0), shard(2, 1365, 2730, 1), shard(3, 2730, 4096, 0)}}
	if c := first(t, 2, 3); !same(c, want) {
		t.Errorf("First(2, 3): %v", c)
	}
	for _, x := range [][2]int{{0, 1}, {1, 0}, {6, 1}, {1, 25}, {-1, 1}, {1, -1}, {0, 0}, {6, 25}, {math.MinInt, 3}, {math.MaxInt, 3}, {2, math.MinInt}, {2, math.MaxInt}} {
		if c, e := chart.First(x[0], x[1]); e != api.ErrArg || !same(c, api.Chart{}) {
			t.Errorf("First(%v): %v, %v", x, c, e)
		}
	}
}

// Promise 8.1: Check.
func TestCheck(t *testing.T) {
	for _, c := range append(good(t), many(24), many(1)) {
		if !chart.Check(c) {
			t.Errorf("%v may be", c)
		}
	}
	for _, c := range bad(t) {
		if chart.Check(c) {
			t.Errorf("%v may not be", c)
		}
	}
}

// Promise 8.2: Owner of each key, and of what is no key; Find of each number, and of others.
func TestOwnerAndFind(t *testing.T) {
	for _, c := range good(t) {
		for key := range api.MaxKey {
			s, is := chart.Owner(c, key)
			if !is || key < s.Keys.Lo || key >= s.Keys.Hi || !slices.Contains(c.L, s) {
				t.Fatalf("Owner(%v, %d): %v, %v", c, key, s, is)
			}
		}
		for _, key := range []int{-1, 4096, math.MinInt, math.MaxInt} {
			if s, is := chart.Owner(c, key); is || s != (api.Shard{}) {
				t.Errorf("Owner(%v, %d): %v", c, key, s)
			}
		}
		for _, want := range c.L {
			if s, is := chart.Find(c, want.ID); !is || s != want {
				t.Errorf("Find(%v, %d): %v, %v", c, want.ID, s, is)
			}
		}
		for _, id := range []int{0, -1, c.Next, c.Next + 1, math.MinInt, math.MaxInt} {
			if s, is := chart.Find(c, id); is || s != (api.Shard{}) {
				t.Errorf("Find(%v, %d): %v", c, id, s)
			}
		}
	}
}

// Promise 8.2: what may not be has no owners, and nothing is found in it.
func TestAskBad(t *testing.T) {
	for _, c := range bad(t) {
		for _, n := range []int{0, 1, 2, 3, 20, 3000} {
			s, owned := chart.Owner(c, n)
			f, found := chart.Find(c, n)
			if owned || found || s != (api.Shard{}) || f != (api.Shard{}) {
				t.Errorf("%v: %v, %v", c, s, f)
			}
		}
		if l := chart.Owners(c, []api.Span{{Lo: 0, Hi: 4096}}); len(l) != 0 {
			t.Errorf("Owners(%v): %v", c, l)
		}
	}
}

// Promise 8.2: Owners, in so many words.
func TestOwners(t *testing.T) {
	c := api.Chart{Epoch: 2, Next: 6, L: []api.Shard{shard(1, 0, 1365, 0), shard(4, 1365, 2000, 1), shard(5, 2000, 2730, 1), shard(3, 2730, 4096, 0)}}
	for _, x := range []struct {
		keys []api.Span
		want []int
	}{
		{nil, nil},
		{[]api.Span{}, nil},
		{[]api.Span{{Lo: 0, Hi: 4096}}, []int{1, 4, 5, 3}},
		{[]api.Span{{Lo: 5, Hi: 6}, {Lo: 1990, Hi: 2010}}, []int{1, 4, 5}},
		{[]api.Span{{Lo: 1364, Hi: 1365}}, []int{1}},
		{[]api.Span{{Lo: 1365, Hi: 1366}}, []int{4}},
		{[]api.Span{{Lo: 1364, Hi: 1366}}, []int{1, 4}},
		{[]api.Span{{Lo: 0, Hi: 1}, {Lo: 4095, Hi: 4096}}, []int{1, 3}},
		{[]api.Span{{Lo: 1, Hi: 2}, {Lo: 3, Hi: 4}, {Lo: 2100, Hi: 2101}, {Lo: 2200, Hi: 2201}}, []int{1, 5}},
		{[]api.Span{{Lo: 3, Hi: 3}}, nil},
		{[]api.Span{{Lo: 3, Hi: 4}, {Lo: 1, Hi: 2}}, nil},
		{[]api.Span{{Lo: 0, Hi: 2}, {Lo: 2, Hi: 3}}, nil},
		{[]api.Span{{Lo: -1, Hi: 2}}, nil},
		{[]api.Span{{Lo: 0, Hi: 4097}}, nil},
		{[]api.Span{{Lo: 0, Hi: 9}, {Lo: math.MinInt, Hi: math.MaxInt}}, nil},
	} {
		if l := chart.Owners(c, x.keys); !slices.Equal(l, x.want) {
			t.Errorf("Owners of %v: %v, not %v", x.keys, l, x.want)
		}
	}
}

// Promise 8.2: Owners of any sets: those that own one of the keys, in the order of their keys.
func TestOwnersAny(t *testing.T) {
	d := rand.New(rand.NewSource(82))
	for range 300 {
		c := walked(t, d, d.Intn(12))
		var spans []api.Span
		for range d.Intn(5) {
			lo := d.Intn(api.MaxKey)
			spans = append(spans, api.Span{Lo: lo, Hi: min(lo+1+d.Intn(300), api.MaxKey)})
		}
		keys, _ := span.Make(spans)
		var want []int
		for key := range api.MaxKey {
			if s, _ := chart.Owner(c, key); span.Has(keys, key) && !slices.Contains(want, s.ID) {
				want = append(want, s.ID)
			}
		}
		if l := chart.Owners(c, keys); !slices.Equal(l, want) {
			t.Fatalf("Owners(%v, %v): %v, not %v", c, keys, l, want)
		}
	}
}

// applied tests what Apply answers.
func applied(t *testing.T, c api.Chart, x api.Change, next api.Chart, old, fresh []api.Shard, want api.Errno) {
	t.Helper()
	n, o, f, e := chart.Apply(c, x)
	if !same(n, next) || !slices.Equal(o, old) || !slices.Equal(f, fresh) || e != want {
		t.Errorf("Apply(%v, %v): %v, %v, %v, %v", c, x, n, o, f, e)
	}
}

// refused tests that Apply answers an error and nothing else.
func refused(t *testing.T, c api.Chart, x api.Change, want api.Errno) {
	t.Helper()
	applied(t, c, x, api.Chart{}, nil, nil, want)
}

// Promise 8.3: changes, in so many words.
func TestApply(t *testing.T) {
	a := first(t, 2, 3)
	b := api.Chart{Epoch: 2, Next: 6, L: []api.Shard{a.L[0], shard(4, 1365, 2000, 1), shard(5, 2000, 2730, 1), a.L[2]}}
	applied(t, a, api.Change{Kind: api.Split, ID: 2, At: 2000}, b, a.L[1:2], b.L[1:3], api.OK)
	c := api.Chart{Epoch: 3, Next: 7, L: []api.Shard{a.L[0], shard(4, 1365, 2000, 1), shard(6, 2000, 4096, 1)}}
	applied(t, b, api.Change{Kind: api.Merge, ID: 5}, c, b.L[2:4], c.L[2:3], api.OK)
	d := api.Chart{Epoch: 4, Next: 8, L: []api.Shard{a.L[0], shard(7, 1365, 2000, 4), shard(6, 2000, 4096, 1)}}
	applied(t, c, api.Change{Kind: api.Shift, ID: 4, At: 4}, d, c.L[1:2], d.L[1:2], api.OK)
	e := api.Chart{Epoch: 5, Next: 9, L: []api.Shard{shard(8, 0, 2000, 0), shard(6, 2000, 4096, 1)}}
	applied(t, d, api.Change{Kind: api.Merge, ID: 1, At: 77}, e, d.L[:2], e.L[:1], api.OK) // on the node of the first one
	f := api.Chart{Epoch: 6, Next: 10, L: []api.Shard{shard(9, 0, 2000, 0), shard(6, 2000, 4096, 1)}}
	applied(t, e, api.Change{Kind: api.Shift, ID: 8, At: 0}, f, e.L[:1], f.L[:1], api.OK) // to where it is

	two := first(t, 2, 2)
	want := api.Chart{Epoch: 2, Next: 5, L: []api.Shard{shard(3, 0, 100, 0), shard(4, 100, 2048, 0), shard(2, 2048, 4096, 1)}}
	applied(t, two, api.Change{Kind: api.Split, ID: 1, At: 100}, want, two.L[:1], want.L[:2], api.OK)
}

// Promise 8.3: a split just inside of a shard's keys, and just outside.
func TestSplitEdges(t *testing.T) {
	c := first(t, 2, 3)
	for _, at := range []int{1366, 2729} {
		next, _, fresh, e := chart.Apply(c, api.Change{Kind: api.Split, ID: 2, At: at})
		if e != api.OK || fresh[0] != shard(4, 1365, at, 1) || fresh[1] != shard(5, at, 2730, 1) || !chart.Check(next) {
			t.Errorf("at %d: %v, %v, %v", at, next, fresh, e)
		}
	}
	for _, at := range []int{1365, 2730, 1364, 2731, 0, 1, -1, 4095, 4096, math.MinInt, math.MaxInt} {
		refused(t, c, api.Change{Kind: api.Split, ID: 2, At: at}, api.ErrArg)
	}
	refused(t, c, api.Change{Kind: api.Split, ID: 1}, api.ErrArg)
	refused(t, c, api.Change{Kind: api.Split, ID: 3, At: 4096}, api.ErrArg)
	refused(t, api.Chart{Epoch: 1, Next: 9, L: []api.Shard{shard(1, 0, 1, 0), shard(2, 1, 4096, 0)}}, api.Change{Kind: api.Split, ID: 1, At: 1}, api.ErrArg) // one key can't be parted
}

// Promise 8.3: no such kind, node or shard; these in their order.
func TestApplyErrors(t *testing.T) {
	c := first(t, 2, 3)
	for x, want := range map[api.Change]api.Errno{
		{Kind: 0, ID: 1}:                            api.ErrArg,
		{Kind: 4, ID: 1}:                            api.ErrArg,
		{Kind: 4, ID: 9}:                            api.ErrArg,
		{Kind: -1, ID: 1}:                           api.ErrArg,
		{Kind: math.MinInt}:                         api.ErrArg,
		{Kind: math.MaxInt, ID: 1}:                  api.ErrArg,
		{Kind: api.Shift, ID: 1, At: -1}:            api.ErrArg,
		{Kind: api.Shift, ID: 1, At: 5}:             api.ErrArg,
		{Kind: api.Shift, ID: 9, At: 5}:             api.ErrArg, // ahead of the shard that is not there
		{Kind: api.Shift, ID: 1, At: math.MaxInt}:   api.ErrArg,
		{Kind: api.Shift, ID: 9, At: 4}:             api.ErrNone,
		{Kind: api.Shift, ID: 0, At: 4}:             api.ErrNone,
		{Kind: api.Split, ID: 4, At: 100}:           api.ErrNone,
		{Kind: api.Split, ID: 4, At: -100}:          api.ErrNone, // ahead of the key that can't be
		{Kind: api.Split, ID: 0, At: 100}:           api.ErrNone,
		{Kind: api.Split, ID: math.MinInt, At: 100}: api.ErrNone,
		{Kind: api.Merge, ID: 3}:                    api.ErrNone, // the last one
		{Kind: api.Merge, ID: 4}:                    api.ErrNone,
		{Kind: api.Merge, ID: 0}:                    api.ErrNone,
		{Kind: api.Merge, ID: -1}:                   api.ErrNone,
		{Kind: api.Merge, ID: math.MaxInt}:          api.ErrNone,
	} {
		refused(t, c, x, want)
	}
	refused(t, first(t, 1, 1), api.Change{Kind: api.Merge, ID: 1}, api.ErrNone)
	for _, c := range bad(t) {
		refused(t, c, api.Change{Kind: api.Shift, ID: 1, At: 1}, api.ErrArg)
		refused(t, c, api.Change{Kind: api.Split, ID: 1, At: 5}, api.ErrArg)
		refused(t, c, api.Change{Kind: api.Merge, ID: 99}, api.ErrArg)
	}
}

// Promise 8.3: epochs, shards and numbers that would become too great; what else is wrong comes first.
func TestApplyLong(t *testing.T) {
	two := func(epoch, next int) api.Chart {
		return api.Chart{Epoch: epoch, Next: next, L: []api.Shard{shard(1, 0, 10, 0), shard(2, 10, 4096, 1)}}
	}
	split, merge, shift := api.Change{Kind: api.Split, ID: 2, At: 20}, api.Change{Kind: api.Merge, ID: 1}, api.Change{Kind: api.Shift, ID: 2, At: 3}
	for _, x := range []struct {
		c    api.Chart
		x    api.Change
		want api.Errno
	}{
		{two(api.MaxSeq-1, 3), split, api.OK},
		{two(api.MaxSeq, 3), split, api.ErrLong},
		{two(api.MaxSeq, 3), merge, api.ErrLong},
		{two(api.MaxSeq, 3), shift, api.ErrLong},
		{two(1, api.MaxShard-1), split, api.OK},
		{two(1, api.MaxShard), split, api.ErrLong}, // only one number is left
		{two(1, api.MaxShard+1), split, api.ErrLong},
		{two(1, api.MaxShard), merge, api.OK},
		{two(1, api.MaxShard+1), merge, api.ErrLong},
		{two(1, api.MaxShard), shift, api.OK},
		{two(1, api.MaxShard+1), shift, api.ErrLong},
		{many(23), api.Change{Kind: api.Split, ID: 23, At: 100}, api.OK},
		{many(24), api.Change{Kind: api.Split, ID: 24, At: 100}, api.ErrLong},
		{many(24), api.Change{Kind: api.Merge, ID: 23}, api.OK},
		{many(24), api.Change{Kind: api.Shift, ID: 24, At: 4}, api.OK},
		{many(24), api.Change{Kind: api.Split, ID: 24, At: 23}, api.ErrArg},
		{many(24), api.Change{Kind: api.Split, ID: 25, At: 100}, api.ErrNone},
		{two(api.MaxSeq, api.MaxShard+1), api.Change{Kind: api.Split, ID: 2, At: 10}, api.ErrArg},
		{two(api.MaxSeq, api.MaxShard+1), api.Change{Kind: api.Merge, ID: 2}, api.ErrNone},
		{two(api.MaxSeq, api.MaxShard+1), api.Change{Kind: 4, ID: 2}, api.ErrArg},
	} {
		next, old, fresh, e := chart.Apply(x.c, x.x)
		if e != x.want {
			t.Errorf("Apply(%v, %v): %v", x.c, x.x, e)
		}
		if e == api.OK != chart.Check(next) || e != api.OK && (len(old) != 0 || len(fresh) != 0 || !same(next, api.Chart{})) {
			t.Errorf("Apply(%v, %v): %v, %v, %v, %v", x.c, x.x, next, old, fresh, e)
		}
	}
}

// anyChange is a change that may or may not be of a chart.
func anyChange(d *rand.Rand, c api.Chart) api.Change {
	s := c.L[d.Intn(len(c.L))]
	switch d.Intn(5) {
	case 0, 1:
		return api.Change{Kind: api.Split, ID: s.ID, At: s.Keys.Lo + d.Intn(s.Keys.Hi-s.Keys.Lo+1)}
	case 2:
		return api.Change{Kind: api.Merge, ID: s.ID, At: d.Intn(5)}
	case 3:
		return api.Change{Kind: api.Shift, ID: s.ID, At: d.Intn(6)}
	}
	return api.Change{Kind: d.Intn(5), ID: d.Intn(c.Next + 2), At: d.Intn(api.MaxKey)}
}

// walked is a chart after some changes.
func walked(t *testing.T, d *rand.Rand, steps int) api.Chart {
	c := first(t, 1+d.Intn(5), 1+d.Intn(24))
	for range steps {
		if next, _, _, e := chart.Apply(c, anyChange(d, c)); e == api.OK {
			c = next
		}
	}
	return c
}

// Promises 8.3 and 8.5: whatever is changed, each key has one owner, only the old shards' keys get others, and no number comes again.
func TestAnyChanges(t *testing.T) {
	d := rand.New(rand.NewSource(83))
	for range 20 {
		c := walked(t, d, 0)
		used := c.Next
		for range 40 {
			x := anyChange(d, c)
			next, old, fresh, e := chart.Apply(c, x)
			if e != api.OK {
				continue
			}
			if !chart.Check(next) || next.Epoch != c.Epoch+1 || next.Next != c.Next+len(fresh) {
				t.Fatalf("Apply(%v, %v): %v", c, x, next)
			}
			for i, s := range fresh {
				if s.ID != used+i || !slices.Contains(next.L, s) {
					t.Fatalf("Apply(%v, %v): fresh %v", c, x, fresh)
				}
			}
			for _, s := range old {
				if _, is := chart.Find(next, s.ID); is || !slices.Contains(c.L, s) {
					t.Fatalf("Apply(%v, %v): old %v", c, x, old)
				}
			}
			for key := range api.MaxKey {
				was, _ := chart.Owner(c, key)
				is, some := chart.Owner(next, key)
				if !some || slices.Contains(old, was) != slices.Contains(fresh, is) || !slices.Contains(old, was) && is != was {
					t.Fatalf("Apply(%v, %v): the key %d went from %v to %v", c, x, key, was, is)
				}
			}
			c, used = next, next.Next
		}
	}
}

// bytesOf is what the bytes of a chart would be, whether or not it may be, as far as its numbers have bytes.
func bytesOf(c api.Chart) string {
	s := vint.Num(c.Epoch) + vint.Num(c.Next) + vint.Num(len(c.L))
	for _, x := range c.L {
		s += vint.Num(x.ID) + vint.Num(x.Keys.Hi) + vint.Num(x.Node)
	}
	return s
}

// Promise 8.4: Text.
func TestText(t *testing.T) {
	for _, x := range []struct {
		c    api.Chart
		want string
	}{
		{first(t, 1, 1), "\x01\x02\x01\x01\x80\x20\x00"},
		{first(t, 2, 3), "\x01\x04\x03\x01\xd5\x0a\x00\x02\xaa\x15\x01\x03\x80\x20\x00"},
		{api.Chart{Epoch: 300, Next: 400, L: []api.Shard{shard(399, 0, 1, 4), shard(7, 1, 4096, 2)}}, "\xac\x02\x90\x03\x02\x8f\x03\x01\x04\x07\x80\x20\x02"},
	} {
		if s := chart.Text(x.c); s != x.want {
			t.Errorf("Text(%v): %x, not %x", x.c, s, x.want)
		}
	}
	for _, c := range good(t) {
		if s := chart.Text(c); s != bytesOf(c) {
			t.Errorf("Text(%v): %x", c, s)
		}
	}
	for _, c := range bad(t) {
		if s := chart.Text(c); s != "" {
			t.Errorf("Text(%v): %x", c, s)
		}
	}
}

// reads tells whether Read answers this and nothing else.
func reads(s string, want api.Chart, e api.Errno) bool {
	c, got := chart.Read(s)
	return got == e && same(c, want)
}

// Promise 8.4: Read of what encodes a chart, cut off anywhere, and with bytes behind it.
func TestRead(t *testing.T) {
	for _, c := range append(good(t), many(24)) {
		s := chart.Text(c)
		if !reads(s, c, api.OK) {
			t.Errorf("Read(%x)", s)
		}
		for n := range len(s) {
			if !reads(s[:n], api.Chart{}, api.ErrShort) {
				t.Errorf("Read(%x), of %x", s[:n], s)
			}
		}
		for _, behind := range []string{"\x00", "\x80", s} {
			if !reads(s+behind, api.Chart{}, api.ErrLong) {
				t.Errorf("Read(%x)", s+behind)
			}
		}
	}
}

// Promise 8.4: the bytes of charts that may not be; the reader's errors come first.
func TestReadBad(t *testing.T) {
	for _, c := range append(bad(t), many(26), many(4000)) {
		lo, whole := 0, true // what Lo is told by the bytes, so a chart with another one has none
		for _, s := range c.L {
			whole = whole && s.Keys.Lo == lo && s.ID >= 0 && s.Keys.Hi >= 0 && s.Node >= 0
			lo = s.Keys.Hi
		}
		if !whole || c.Epoch < 0 || c.Next < 0 {
			continue
		}
		s := bytesOf(c)
		if !reads(s, api.Chart{}, api.ErrForm) || !reads(s+"\x00", api.Chart{}, api.ErrLong) || !reads(s[:len(s)-1], api.Chart{}, api.ErrShort) || !reads(s[:len(s)-1]+"\x80\x00", api.Chart{}, api.ErrForm) {
			t.Errorf("Read of the bytes of %v", c)
		}
	}
	tooMany := bytesOf(with(many(24), func(c *api.Chart) { c.Next, c.L = 26, append(c.L, shard(25, 4096, 4096, 0)) }))
	for s, want := range map[string]api.Errno{
		tooMany:                        api.ErrForm, // though the first 24 shards have all keys
		tooMany + "\x00":               api.ErrLong,
		"":                             api.ErrShort,
		"\x01\x02\x00":                 api.ErrForm, // no shards
		"\x01\x02\x00\x00":             api.ErrLong,
		"\x81\x00\x02\x01":             api.ErrForm, // more bytes than necessary
		"\x01\x02\x01\x01\x80\x20\x85": api.ErrShort,
		"\x01\x02\x01\x01\x80\x20\x05": api.ErrForm, // no node
		"\x01\x02\x01\x01\x81\x20\x00": api.ErrForm,
		"\x01\x02\xff\xff\xff\xff\xff\xff\xff\xff\x7f":             api.ErrShort, // 2^63 - 1 shards
		"\x01\x02\xff\xff\xff\xff\xff\xff\xff\xff\x7f\x01\x80\x00": api.ErrForm,
		"\x01\x02\x01\x01\xff\xff\xff\xff\xff\xff\xff\xff\x7f\x00": api.ErrForm, // the key 2^63 - 1
	} {
		if !reads(s, api.Chart{}, want) {
			t.Errorf("Read(%x), not %v", s, want)
		}
	}
}

// readsBack tells whether any bytes are refused with nothing beside the error, or are the bytes of what was read.
func readsBack(s string) bool {
	c, e := chart.Read(s)
	if e != api.OK {
		return same(c, api.Chart{}) && (e == api.ErrShort || e == api.ErrForm || e == api.ErrLong)
	}
	return chart.Check(c) && chart.Text(c) == s
}

// Promise 8.5: every chart has one encoding: of the samples with one byte changed, left out or put in; and of charts after any changes.
func TestReadsBack(t *testing.T) {
	for _, c := range good(t) {
		s := chart.Text(c)
		for i := range s {
			for b := range 256 {
				one := string([]byte{byte(b)})
				if !readsBack(s[:i]+one+s[i+1:]) || !readsBack(s[:i]+one+s[i:]) || !readsBack(s[:i]+s[i+1:]) {
					t.Fatalf("%x is read, and written otherwise, with %d for a byte", s, b)
				}
			}
		}
	}
	d := rand.New(rand.NewSource(85))
	seen := map[string]api.Chart{}
	for range 2000 {
		c := walked(t, d, d.Intn(10))
		s := chart.Text(c)
		if other, there := seen[s]; !reads(s, c, api.OK) || there && !same(other, c) {
			t.Fatalf("%v: %x", c, s)
		}
		seen[s] = c
	}
}

// R3: what is handed in is not changed, nor what stands behind it; what is answered shares nothing with it, nor with another answer.
func TestNothingShared(t *testing.T) {
	for _, x := range []api.Change{
		{Kind: api.Split, ID: 1, At: 5}, {Kind: api.Split, ID: 2, At: 2000}, {Kind: api.Split, ID: 3, At: 3000}, {Kind: api.Merge, ID: 1}, {Kind: api.Merge, ID: 2}, {Kind: api.Shift, ID: 1, At: 3}, {Kind: api.Shift, ID: 3, At: 3},
	} {
		c := first(t, 2, 3)
		c.L = append(c.L, shard(7, 7, 7, 7), shard(8, 8, 8, 8), shard(9, 9, 9, 9))[:3]
		was := slices.Clone(c.L[:cap(c.L)])
		next, old, fresh, _ := chart.Apply(c, x)
		n, o, f := copied(next), slices.Clone(old), slices.Clone(fresh)
		scratch(old)
		if !same(next, n) || !slices.Equal(fresh, f) {
			t.Errorf("%v: the old ones are shared", x)
		}
		scratch(fresh)
		if !same(next, n) {
			t.Errorf("%v: the fresh ones are shared", x)
		}
		scratch(next.L)
		if again, p, q, _ := chart.Apply(c, x); !slices.Equal(c.L[:cap(c.L)], was) || !same(again, n) || !slices.Equal(p, o) || !slices.Equal(q, f) {
			t.Errorf("%v: changed: %v", x, c.L[:cap(c.L)])
		}
	}
	a, b := first(t, 2, 3), first(t, 2, 3)
	scratch(a.L)
	c, _ := chart.Read(chart.Text(b))
	d, _ := chart.Read(chart.Text(b))
	scratch(c.L)
	if e := first(t, 2, 3); !same(e, b) || !same(d, b) {
		t.Errorf("First or Read: %v, %v", d, e)
	}
	keys := []api.Span{{Lo: 0, Hi: 5}, {Lo: 7, Hi: 4000}}
	l := chart.Owners(b, keys)
	l[0] = 77
	if m := chart.Owners(b, keys); !slices.Equal(m, []int{1, 2, 3}) || !slices.Equal(keys, []api.Span{{Lo: 0, Hi: 5}, {Lo: 7, Hi: 4000}}) || !same(b, first(t, 2, 3)) {
		t.Errorf("Owners: %v", m)
	}
}

// scratch writes over a list, and behind it.
func scratch(l []api.Shard) {
	for i := range l {
		l[i] = shard(-1, -1, -1, -1)
	}
	_ = append(l, shard(-1, -1, -1, -1))
}

// Promises 8.4, 8.5 and R1: any bytes are refused or are the bytes of what was read.
func FuzzRead(f *testing.F) {
	f.Add([]byte("\x01\x04\x03\x01\xd5\x0a\x00\x02\xaa\x15\x01\x03\x80\x20\x00"))
	f.Add([]byte("\xac\x02\x90\x03\x02\x8f\x03\x01\x04\x07\x80\x20\x02"))
	f.Fuzz(func(t *testing.T, b []byte) {
		if !readsBack(string(b)) {
			t.Errorf("%x is read, and written otherwise", b)
		}
	})
}

// Promises 8.1 to 8.5 and R1: arguments of any numbers make no call panic; what is made of what may be may be.
func FuzzApply(f *testing.F) {
	f.Add(1, 4, 1, 2, 1365, 0, 1, 1, 2, 2000)
	f.Add(9, 9, 5, 7, 100, 4, 2, 2, 5, 0)
	f.Fuzz(func(t *testing.T, epoch, next, id1, id2, edge, node1, node2, kind, id, at int) {
		c := api.Chart{Epoch: epoch, Next: next, L: []api.Shard{shard(id1, 0, edge, node1), shard(id2, edge, 4096, node2)}}
		n, _, _, e := chart.Apply(c, api.Change{Kind: kind, ID: id, At: at})
		chart.Owner(c, at)
		chart.Owners(c, []api.Span{{Lo: edge, Hi: at}})
		chart.Find(c, id)
		if !chart.Check(c) && (e != api.ErrArg || chart.Text(c) != "") || e == api.OK && !chart.Check(n) || chart.Check(c) && !reads(chart.Text(c), c, api.OK) {
			t.Errorf("Apply(%v, %d, %d, %d): %v, %v", c, kind, id, at, n, e)
		}
	})
}
