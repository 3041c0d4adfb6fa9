package table_test

import (
	"math"
	"math/rand"
	"slices"
	"strings"
	"testing"

	"splice/api"
	"splice/mut"
	"splice/span"
	"splice/table"
	"splice/vint"
)

// pairs are the pairs of keys and values that stand two by two.
func pairs(l ...int) []api.Pair {
	var out []api.Pair
	for i := 0; i+1 < len(l); i += 2 {
		out = append(out, api.Pair{Key: l[i], Val: l[i+1]})
	}
	return out
}

// spans are the spans of ends that stand two by two.
func spans(ends ...int) []api.Span {
	var l []api.Span
	for i := 0; i+1 < len(ends); i += 2 {
		l = append(l, api.Span{Lo: ends[i], Hi: ends[i+1]})
	}
	return l
}

// row is n spans of one key each, the first one at lo, one every step keys.
func row(n, lo, step int) []api.Span {
	var l []api.Span
	for i := range n {
		l = append(l, api.Span{Lo: lo + i*step, Hi: lo + i*step + 1})
	}
	return l
}

func everyKey() []api.Span {
	return spans(0, api.MaxKey)
}

func put(l ...int) api.Mut {
	return api.Mut{Client: 1, Seq: 2, Kind: api.MutPut, Pairs: pairs(l...)}
}

func del(lo, hi int) api.Mut {
	return api.Mut{Client: 3, Seq: 1, Kind: api.MutDel, Over: api.Span{Lo: lo, Hi: hi}}
}

func add(key, val int) api.Mut {
	return api.Mut{Client: 1, Seq: 1, Kind: api.MutAdd, Pairs: pairs(key, val)}
}

func cas(key, old, val int) api.Mut {
	return api.Mut{Client: 2, Seq: 5, Kind: api.MutCas, Pairs: pairs(key, val), Old: old}
}

func move(from, to, val int) api.Mut {
	return api.Mut{Client: 1, Seq: 1, Kind: api.MutMove, Pairs: pairs(from, val, to, val)}
}

// full is a table that has all keys.
func full() []api.Pair {
	var l []api.Pair
	for key := range api.MaxKey {
		l = append(l, api.Pair{Key: key, Val: key * 3})
	}
	return l
}

func goodTables() [][]api.Pair {
	return [][]api.Pair{
		nil, {}, pairs(0, 0), pairs(1, 5, 4, -2), pairs(5, 7), pairs(0, -api.MaxVal, 4095, api.MaxVal), pairs(4095, 0), pairs(4094, 1, 4095, 1),
		pairs(0, 0, 1, 0, 2, 0, 3, 0), pairs(0, 1, 2, 3, 4, 5, 6, 7, 8, 9), full(), full()[:4095], full()[1:],
	}
}

// notTables are lists that are no tables.
func notTables() [][]api.Pair {
	l := [][]api.Pair{
		pairs(4, -2, 1, 5), pairs(1, 5, 1, 5), pairs(1, 5, 1, 6), pairs(0, 1, 0, 1), pairs(4095, 1, 4095, 1), pairs(1, 1, 3, 1, 2, 1), pairs(1, 1, 3, 1, 3, 1),
		pairs(2, 1, 1, 1, 3, 1), append(full(), api.Pair{Key: 4095}), append(full(), api.Pair{Key: 4096}), append(pairs(-1, 0), full()...), append(full(), full()...),
	}
	for _, key := range []int{-1, api.MaxKey, api.MaxKey + 1, math.MinInt, math.MaxInt} {
		l = append(l, pairs(key, 0), pairs(7, 7, key, 0), pairs(key, 0, 7, 7), pairs(0, 0, key, 0, 4095, 0))
	}
	for _, val := range []int{api.MaxVal + 1, -api.MaxVal - 1, api.Absent, math.MinInt, math.MaxInt} {
		l = append(l, pairs(0, val), pairs(4095, val), pairs(5, val, 7, 7), pairs(3, 3, 5, val, 7, 7), pairs(3, 3, 5, val))
	}
	return l
}

func notSets() [][]api.Span {
	return [][]api.Span{
		spans(3, 3), spans(4, 3), spans(-1, 2), spans(0, 4097), spans(1, 3, 3, 5), spans(5, 6, 1, 2), spans(1, 3, 2, 5), spans(0, 4096, 0, 4096), spans(1, 2, 0, 0),
		row(65, 0, 2), spans(math.MinInt, math.MaxInt), spans(math.MaxInt, math.MinInt), spans(0, 4096, 5000, 6000),
	}
}

func notMuts() []api.Mut {
	l := []api.Mut{{}, {Client: 1, Seq: 1}, put(), put(2, 1, 1, 1), put(1, 1, 1, 1), put(1, api.Absent), put(api.MaxKey, 1), put(-1, 1), del(3, 3), del(0, 4097), del(9, 2),
		add(1, api.MaxVal+1), add(-1, 1), cas(1, api.Absent+1, 1), cas(1, 1, api.Absent), move(1, 1, 1), move(1, 2, -1), move(1, 2, api.MaxVal+1),
		put(1, 1, 3, 1, 5, 1, 7, 1, 9, 1, 11, 1, 13, 1, 15, 1, 17, 1)}
	for _, m := range []api.Mut{put(5, 7), del(2, 9), add(5, 3), cas(5, 7, 1), move(9, 4, 3)} {
		for _, do := range []func(m *api.Mut){
			func(m *api.Mut) { m.Client = 0 },
			func(m *api.Mut) { m.Client = api.MaxClient + 1 },
			func(m *api.Mut) { m.Seq = 0 },
			func(m *api.Mut) { m.Seq = api.MaxSeq + 1 },
			func(m *api.Mut) { m.Kind = 0 },
			func(m *api.Mut) { m.Kind = 6 },
			func(m *api.Mut) { m.Kind = math.MinInt },
			func(m *api.Mut) { m.Pairs = append(m.Pairs, api.Pair{Key: -1}) },
			func(m *api.Mut) { m.Over.Hi = m.Over.Lo - 1 },
			func(m *api.Mut) { m.Old = api.Absent + 1 },
		} {
			bad := m
			bad.Pairs = slices.Clone(m.Pairs)
			do(&bad)
			l = append(l, bad)
		}
	}
	return l
}

// cells are what every key has; they are what tables are held against.
type cells [api.MaxKey]api.Cell

func cellsOf(l []api.Pair) *cells {
	var c cells
	for _, p := range l {
		c[p.Key] = api.Cell{Val: p.Val, Some: true}
	}
	return &c
}

func (c *cells) table() []api.Pair {
	var l []api.Pair
	for key, x := range c {
		if x.Some {
			l = append(l, api.Pair{Key: key, Val: x.Val})
		}
	}
	return l
}

// after is what a mutation makes of one key's cell, with nothing but this cell known.
func after(x api.Cell, m api.Mut, key int) (api.Cell, bool) {
	if m.Kind == api.MutDel {
		if m.Over.Lo <= key && key < m.Over.Hi {
			return api.Cell{}, true
		}
		return x, true
	}
	i := slices.IndexFunc(m.Pairs, func(p api.Pair) bool { return p.Key == key })
	if i < 0 {
		return x, true
	}
	is, done := m.Pairs[i].Val, true
	switch m.Kind {
	case api.MutAdd:
		is += x.Val // 0 without a value
		done = 0 <= is && is <= api.MaxVal
	case api.MutCas:
		done = x == api.Cell{Val: m.Old, Some: true} || m.Old == api.Absent && !x.Some
	case api.MutMove:
		is = min(max(x.Val+(2*i-1)*is, -api.MaxVal), api.MaxVal)
	}
	if !done {
		return x, false
	}
	return api.Cell{Val: is, Some: true}, true
}

// expected is what Apply must answer for a table, a mutation and a set that may be.
func expected(l []api.Pair, m api.Mut, on []api.Span) ([]api.Pair, bool) {
	c, done := cellsOf(l), true
	for key := range c {
		if span.Has(on, key) {
			x, well := after(c[key], m, key)
			c[key], done = x, done && well
		}
	}
	return c.table(), done
}

// dice roll tables, mutations and sets, always the same ones.
type dice struct {
	*rand.Rand
}

func roll(seed int64) dice {
	return dice{rand.New(rand.NewSource(seed))}
}

// val is a value: a small one, one near an edge, or any.
func (d dice) val() int {
	switch d.Intn(4) {
	case 0:
		return d.Intn(7) - 3
	case 1:
		return api.MaxVal - d.Intn(4)
	case 2:
		return -api.MaxVal + d.Intn(4)
	}
	return d.Intn(2*api.MaxVal+1) - api.MaxVal
}

// key is a key near the front or near the end, so that tables, mutations and sets meet.
func (d dice) key() int {
	if d.Intn(5) == 0 {
		return api.MaxKey - 1 - d.Intn(6)
	}
	return d.Intn(24)
}

func (d dice) table() []api.Pair {
	var c cells
	for range d.Intn(30) {
		c[d.key()] = api.Cell{Val: d.val(), Some: true}
	}
	return c.table()
}

func (d dice) set() []api.Span {
	if d.Intn(8) == 0 {
		return everyKey()
	}
	var l []api.Span
	for range d.Intn(9) {
		lo := d.key()
		l = append(l, api.Span{Lo: lo, Hi: min(lo+1+d.Intn(5), api.MaxKey)})
	}
	set, _ := span.Make(l)
	return set
}

func (d dice) mut() api.Mut {
	key, val := d.key(), d.val()
	switch d.Intn(5) {
	case 0:
		var c cells
		c[key] = api.Cell{Val: val, Some: true}
		for range d.Intn(api.MaxPairs) {
			c[d.key()] = api.Cell{Val: d.val(), Some: true}
		}
		return api.Mut{Client: 1, Seq: 1, Kind: api.MutPut, Pairs: c.table()}
	case 1:
		return del(key, min(key+1+d.Intn(12), api.MaxKey))
	case 2:
		return add(key, val)
	case 3:
		old := []int{api.Absent, 0, d.val()}[d.Intn(3)]
		return cas(key, old, val)
	}
	return move(key, (key+1+d.Intn(api.MaxKey-1))%api.MaxKey, max(val, -val))
}

// Promise 5.1: Check.
func TestCheck(t *testing.T) {
	for _, l := range goodTables() {
		if !table.Check(l) {
			t.Errorf("%v is no table", l)
		}
	}
	for _, l := range notTables() {
		if table.Check(l) {
			t.Errorf("%v is a table", l)
		}
	}
}

// Promise 5.1: Get of each key of a table, and of what is no key.
func TestGet(t *testing.T) {
	for _, l := range goodTables() {
		if len(l) > 100 {
			l = append(slices.Clone(l[:50]), l[len(l)-50:]...)
		}
		for key, x := range cellsOf(l) {
			if val, some := table.Get(l, key); val != x.Val || some != x.Some {
				t.Errorf("Get(%v, %d): %d, %v", l, key, val, some)
			}
		}
		for _, key := range []int{-1, api.MaxKey, math.MinInt, math.MaxInt} {
			if val, some := table.Get(l, key); val != 0 || some {
				t.Errorf("Get(%v, %d): %d, %v", l, key, val, some)
			}
		}
	}
	if val, some := table.Get(full(), 4095); val != 3*4095 || !some {
		t.Errorf("Get of the last key: %d, %v", val, some)
	}
}

// Promise 5.1: Get of what is no table, even of a key that it has.
func TestGetNoTable(t *testing.T) {
	for _, l := range notTables() {
		for _, p := range append(pairs(7, 7, 0, 0), l[:min(len(l), 9)]...) {
			if val, some := table.Get(l, p.Key); val != 0 || some {
				t.Errorf("Get(%v, %d): %d, %v", l, p.Key, val, some)
			}
		}
	}
}

// Promise 5.1: Clip, in so many words.
func TestClip(t *testing.T) {
	l := pairs(0, 1, 2, 3, 4, 5, 6, 7, 4095, 9)
	for _, x := range []struct {
		on   []api.Span
		want []api.Pair
	}{
		{nil, nil},
		{[]api.Span{}, nil},
		{everyKey(), l},
		{spans(0, 4095), l[:4]},
		{spans(1, 4096), l[1:]},
		{spans(1, 2), nil},
		{spans(2, 3), pairs(2, 3)},
		{spans(2, 4), pairs(2, 3)},
		{spans(2, 5), pairs(2, 3, 4, 5)},
		{spans(0, 1, 2, 3), pairs(0, 1, 2, 3)},
		{spans(0, 1, 3, 4, 6, 7, 4095, 4096), pairs(0, 1, 6, 7, 4095, 9)},
		{spans(7, 4095), nil},
		{row(64, 0, 2), pairs(0, 1, 2, 3, 4, 5, 6, 7)},
		{row(64, 1, 2), nil},
	} {
		if got := table.Clip(l, x.on); !slices.Equal(got, x.want) {
			t.Errorf("Clip on %v: %v, not %v", x.on, got, x.want)
		}
	}
	if got := table.Clip(full(), row(64, 31, 64)); len(got) != 64 || got[63] != (api.Pair{Key: 4063, Val: 3 * 4063}) {
		t.Errorf("Clip of all keys: %v", got)
	}
}

// Promise 5.1: Clip of what is no table, on what is no set.
func TestClipBad(t *testing.T) {
	for _, l := range notTables() {
		if got := table.Clip(l, everyKey()); len(got) != 0 {
			t.Errorf("Clip(%v): %v", l, got)
		}
	}
	for _, on := range notSets() {
		if got := table.Clip(pairs(0, 1, 2, 3), on); len(got) != 0 {
			t.Errorf("Clip on %v: %v", on, got)
		}
	}
}

// Promise 5.1: Clip of any tables on any sets.
func TestClipAny(t *testing.T) {
	d := roll(3)
	for range 2000 {
		l, on := d.table(), d.set()
		var want []api.Pair
		for _, p := range l {
			if span.Has(on, p.Key) {
				want = append(want, p)
			}
		}
		if got := table.Clip(l, on); !slices.Equal(got, want) {
			t.Fatalf("Clip(%v, %v): %v, not %v", l, on, got, want)
		}
	}
}

// applied is a table, a mutation and a set, and what Apply answers.
type applied struct {
	l    []api.Pair
	m    api.Mut
	on   []api.Span
	want []api.Pair
	done bool
}

func (x applied) test(t *testing.T) {
	t.Helper()
	if out, done := table.Apply(x.l, x.m, x.on); !slices.Equal(out, x.want) || done != x.done {
		t.Errorf("Apply(%v, %v, %v): %v, %v, not %v, %v", x.l, x.m, x.on, out, done, x.want, x.done)
	}
}

// Promise 5.2: MutPut, on all, some and none of its keys.
func TestApplyPut(t *testing.T) {
	l := pairs(1, 5, 4, -2)
	for _, x := range []applied{
		{nil, put(5, 7), everyKey(), pairs(5, 7), true},
		{l, put(0, 9, 4, 1), everyKey(), pairs(0, 9, 1, 5, 4, 1), true},
		{l, put(0, 9, 4, 1), spans(0, 1), pairs(0, 9, 1, 5, 4, -2), true},
		{l, put(0, 9, 4, 1), spans(4, 5), pairs(1, 5, 4, 1), true},
		{l, put(0, 9, 4, 1), spans(1, 4, 5, 4096), l, true},
		{l, put(0, 9, 4, 1), nil, l, true},
		{l, put(0, -api.MaxVal, 4095, api.MaxVal), everyKey(), pairs(0, -api.MaxVal, 1, 5, 4, -2, 4095, api.MaxVal), true},
		{l, put(1, 0), everyKey(), pairs(1, 0, 4, -2), true},
		{l, put(2, 0), everyKey(), pairs(1, 5, 2, 0, 4, -2), true},
		{l, put(0, 1, 1, 2, 2, 3, 3, 4, 4, 5, 5, 6, 6, 7, 7, 8), spans(0, 2, 3, 4, 6, 8), pairs(0, 1, 1, 2, 3, 4, 4, -2, 6, 7, 7, 8), true},
	} {
		x.test(t)
	}
}

// Promise 5.2: MutDel, on all, some and none of its keys.
func TestApplyDel(t *testing.T) {
	l := pairs(0, 1, 2, 3, 4, 5, 6, 7, 4095, 9)
	for _, x := range []applied{
		{l, del(0, 4096), everyKey(), nil, true},
		{l, del(0, 4096), spans(2, 5), pairs(0, 1, 6, 7, 4095, 9), true},
		{l, del(2, 5), everyKey(), pairs(0, 1, 6, 7, 4095, 9), true},
		{l, del(2, 5), spans(4, 9), pairs(0, 1, 2, 3, 6, 7, 4095, 9), true},
		{l, del(2, 5), spans(0, 3, 6, 7), pairs(0, 1, 4, 5, 6, 7, 4095, 9), true},
		{l, del(2, 5), spans(0, 2, 5, 4096), l, true},
		{l, del(2, 5), nil, l, true},
		{l, del(1, 2), everyKey(), l, true},
		{l, del(0, 1), everyKey(), l[1:], true},
		{l, del(4095, 4096), everyKey(), l[:4], true},
		{l, del(0, 4096), row(64, 0, 4), pairs(2, 3, 6, 7, 4095, 9), true},
		{nil, del(0, 4096), everyKey(), nil, true},
	} {
		x.test(t)
	}
}

// Promise 5.2: MutAdd, with sums just inside and just outside 0 to MaxVal.
func TestApplyAdd(t *testing.T) {
	l, most := pairs(1, 5, 4, -2), pairs(7, api.MaxVal)
	for _, x := range []applied{
		{pairs(5, 7), add(5, 3), everyKey(), pairs(5, 10), true},
		{pairs(5, 7), add(5, -7), everyKey(), pairs(5, 0), true},
		{pairs(5, 7), add(5, -8), everyKey(), pairs(5, 7), false},
		{pairs(5, 7), add(5, -11), everyKey(), pairs(5, 7), false},
		{pairs(5, 7), add(5, api.MaxVal-7), everyKey(), pairs(5, api.MaxVal), true},
		{pairs(5, 7), add(5, api.MaxVal-6), everyKey(), pairs(5, 7), false},
		{l, add(4, 2), everyKey(), pairs(1, 5, 4, 0), true},
		{l, add(4, 1), everyKey(), l, false},
		{l, add(4, 1), spans(1, 2), l, true},
		{l, add(4, 1), nil, l, true},
		{l, add(4, 1), spans(0, 4, 5, 4096), l, true},
		{l, add(4, 1), spans(4, 5), l, false},
		{l, add(2, 0), everyKey(), pairs(1, 5, 2, 0, 4, -2), true},
		{l, add(2, 6), everyKey(), pairs(1, 5, 2, 6, 4, -2), true},
		{l, add(2, -1), everyKey(), l, false},
		{nil, add(0, api.MaxVal), everyKey(), pairs(0, api.MaxVal), true},
		{nil, add(0, -api.MaxVal), everyKey(), nil, false},
		{nil, add(4095, 0), everyKey(), pairs(4095, 0), true},
		{most, add(7, 0), everyKey(), most, true},
		{most, add(7, 1), everyKey(), most, false},
		{most, add(7, -api.MaxVal), everyKey(), pairs(7, 0), true},
		{most, add(7, api.MaxVal), everyKey(), most, false},
		{pairs(7, -api.MaxVal), add(7, api.MaxVal), everyKey(), pairs(7, 0), true},
		{pairs(7, -api.MaxVal), add(7, api.MaxVal-1), everyKey(), pairs(7, -api.MaxVal), false},
		{pairs(7, -api.MaxVal), add(7, -api.MaxVal), everyKey(), pairs(7, -api.MaxVal), false},
		{pairs(7, -1), add(7, 0), everyKey(), pairs(7, -1), false},
	} {
		x.test(t)
	}
}

// Promise 5.2: MutCas, with values, with none, and with Absent.
func TestApplyCas(t *testing.T) {
	l := pairs(1, 5, 4, -2, 6, 0)
	for _, x := range []applied{
		{l, cas(1, 5, 9), everyKey(), pairs(1, 9, 4, -2, 6, 0), true},
		{l, cas(1, 5, 5), everyKey(), l, true},
		{l, cas(1, 4, 9), everyKey(), l, false},
		{l, cas(1, 4, 5), everyKey(), l, false},
		{l, cas(4, -2, api.MaxVal), everyKey(), pairs(1, 5, 4, api.MaxVal, 6, 0), true},
		{l, cas(4, 2, 0), everyKey(), l, false},
		{l, cas(1, api.Absent, 9), everyKey(), l, false},
		{l, cas(2, api.Absent, 9), everyKey(), pairs(1, 5, 2, 9, 4, -2, 6, 0), true},
		{l, cas(2, 0, 9), everyKey(), l, false}, // no value is not the value 0
		{l, cas(6, 0, -9), everyKey(), pairs(1, 5, 4, -2, 6, -9), true},
		{l, cas(6, api.Absent, 9), everyKey(), l, false},
		{l, cas(1, 4, 9), spans(0, 1, 2, 4096), l, true},
		{l, cas(1, 4, 9), nil, l, true},
		{l, cas(1, 5, 9), spans(2, 9), l, true},
		{l, cas(1, 5, 9), spans(1, 2), pairs(1, 9, 4, -2, 6, 0), true},
		{nil, cas(4095, api.Absent, -api.MaxVal), everyKey(), pairs(4095, -api.MaxVal), true},
		{pairs(0, api.MaxVal), cas(0, api.MaxVal, -api.MaxVal), everyKey(), pairs(0, -api.MaxVal), true},
		{pairs(0, api.MaxVal), cas(0, api.Absent, 0), everyKey(), pairs(0, api.MaxVal), false},
		{pairs(0, -api.MaxVal), cas(0, -api.MaxVal, 0), everyKey(), pairs(0, 0), true},
	} {
		x.test(t)
	}
}

// Promise 5.2: MutMove, on all, some and none of its keys, at -MaxVal and MaxVal.
func TestApplyMove(t *testing.T) {
	const most = api.MaxVal
	l := pairs(1, 5, 4, -2)
	for _, x := range []applied{
		{l, move(4, 1, 1), spans(1, 2), pairs(1, 6, 4, -2), true},
		{l, move(4, 1, 1), spans(4, 5), pairs(1, 5, 4, -3), true},
		{l, move(4, 1, 1), everyKey(), pairs(1, 6, 4, -3), true},
		{l, move(1, 4, 1), everyKey(), pairs(1, 4, 4, -1), true},
		{l, move(4, 1, 1), spans(2, 4), l, true},
		{l, move(4, 1, 1), nil, l, true},
		{l, move(4, 1, most), everyKey(), pairs(1, most, 4, -most), true},
		{l, move(1, 4, most), everyKey(), pairs(1, 5-most, 4, most-2), true},
		{pairs(5, 7), move(5, 9, 4), spans(5, 6), pairs(5, 3), true},
		{pairs(5, 7), move(5, 9, 4), spans(9, 10), pairs(5, 7, 9, 4), true},
		{pairs(5, 7), move(5, 9, 4), everyKey(), pairs(5, 3, 9, 4), true},
		{nil, move(9, 5, 4), everyKey(), pairs(5, 4, 9, -4), true},
		{nil, move(9, 5, 0), everyKey(), pairs(5, 0, 9, 0), true},
		{nil, move(9, 5, 0), spans(9, 10), pairs(9, 0), true},
		{nil, move(0, 4095, most), everyKey(), pairs(0, -most, 4095, most), true},
		{pairs(0, -most+3, 1, most-3), move(0, 1, 3), everyKey(), pairs(0, -most, 1, most), true},
		{pairs(0, -most+3, 1, most-3), move(0, 1, 4), everyKey(), pairs(0, -most, 1, most), true},
		{pairs(0, -most, 1, most), move(0, 1, 1), everyKey(), pairs(0, -most, 1, most), true},
		{pairs(0, -most, 1, most), move(0, 1, most), everyKey(), pairs(0, -most, 1, most), true},
		{pairs(0, -most, 1, most), move(1, 0, most), everyKey(), pairs(0, 0, 1, 0), true},
		{pairs(0, most, 1, -most), move(0, 1, most), everyKey(), pairs(0, 0, 1, 0), true},
	} {
		x.test(t)
	}
}

// Promise 5.2: Apply of what is no table, of what may not be, on what is no set.
func TestApplyBad(t *testing.T) {
	for _, l := range notTables() {
		applied{l, put(5, 7), everyKey(), nil, false}.test(t)
		applied{l, put(5, 7), nil, nil, false}.test(t)
		applied{l, del(0, 4096), everyKey(), nil, false}.test(t)
	}
	for _, m := range notMuts() {
		applied{pairs(5, 7), m, everyKey(), nil, false}.test(t)
		applied{pairs(5, 7), m, nil, nil, false}.test(t)
	}
	for _, on := range notSets() {
		for _, m := range []api.Mut{put(5, 7), del(0, 4096), add(5, 1), cas(5, 7, 1), move(5, 6, 1)} {
			applied{pairs(5, 7), m, on, nil, false}.test(t)
		}
	}
}

// Promise 5.2: Apply of anything that may be.
func TestApplyAny(t *testing.T) {
	d := roll(5)
	failed := 0
	for range 6000 {
		x := applied{l: d.table(), m: d.mut(), on: d.set()}
		x.want, x.done = expected(x.l, x.m, x.on)
		x.test(t)
		if !x.done {
			failed++
		}
		if !mut.Check(x.m) || !x.done && !mut.Alone(x.m) {
			t.Fatalf("%v may not be, or failed", x.m)
		}
	}
	if failed < 100 {
		t.Errorf("only %d failed", failed)
	}
}

// Promise 5.3: Join.
func TestJoin(t *testing.T) {
	for _, x := range []struct {
		a, b, want []api.Pair
		e          api.Errno
	}{
		{nil, nil, nil, api.OK},
		{nil, []api.Pair{}, nil, api.OK},
		{pairs(1, 5), nil, pairs(1, 5), api.OK},
		{pairs(1, 5), pairs(4, -2), pairs(1, 5, 4, -2), api.OK},
		{pairs(1, 1, 4, 4, 7, 7), pairs(0, 0, 5, 5, 6, 6, 9, 9), pairs(0, 0, 1, 1, 4, 4, 5, 5, 6, 6, 7, 7, 9, 9), api.OK},
		{pairs(1, 5, 4, -2), pairs(4, -2), nil, api.ErrThere},
		{pairs(1, 5, 4, -2), pairs(4, 3), nil, api.ErrThere},
		{pairs(1, 5, 4, -2), pairs(0, 0, 1, 0, 2, 0), nil, api.ErrThere},
		{pairs(0, 0), pairs(0, 0), nil, api.ErrThere},
		{pairs(4095, 0), pairs(0, 0, 4095, 0), nil, api.ErrThere},
		{full(), pairs(77, 1), nil, api.ErrThere},
		{full()[:2000], full()[2000:], full(), api.OK},
		{full()[:2000], full()[1999:], nil, api.ErrThere},
	} {
		for _, l := range [][2][]api.Pair{{x.a, x.b}, {x.b, x.a}} {
			if got, e := table.Join(l[0], l[1]); !slices.Equal(got, x.want) || e != x.e {
				t.Errorf("Join(%v, %v): %v, %v", l[0], l[1], got, e)
			}
		}
	}
}

// Promise 5.3: Join of what is no table, which is refused ahead of a key that both have.
func TestJoinBad(t *testing.T) {
	for _, bad := range notTables() {
		for _, l := range [][]api.Pair{nil, bad, pairs(7, 7), bad[:1], full()} {
			a, e := table.Join(bad, l)
			b, f := table.Join(l, bad)
			if len(a)+len(b) != 0 || e != api.ErrArg || f != api.ErrArg {
				t.Errorf("Join of %v and %v: %v, %v", bad, l, e, f)
			}
		}
	}
}

const (
	mostVal  = "\x80\x80\x80\x80\x80\x40" // the greatest value
	leastVal = "\xff\xff\xff\xff\xff\x3f" // the least one
	absent   = "\x82\x80\x80\x80\x80\x40" // Absent
)

// sample is a table and its bytes.
type sample struct {
	l    []api.Pair
	text string
}

func samples() []sample {
	return []sample{
		{nil, "\x00"},
		{[]api.Pair{}, "\x00"},
		{pairs(0, 0), "\x01\x00\x00"},
		{pairs(1, 5, 4, -2), "\x02\x01\x0a\x04\x03"},
		{pairs(5, 7, 300, -1), "\x02\x05\x0e\xac\x02\x01"},
		{pairs(0, -api.MaxVal, 4095, api.MaxVal), "\x02\x00" + leastVal + "\xff\x1f" + mostVal},
		{pairs(63, 63, 64, 64, 127, -64, 128, -65), "\x04\x3f\x7e\x40\x80\x01\x7f\x7f\x80\x01\x81\x01"},
	}
}

// bytesOf is what the bytes of pairs would be, whether or not they are a table, as far as their numbers have bytes.
func bytesOf(l []api.Pair) string {
	var b strings.Builder
	b.WriteString(vint.Num(len(l)))
	for _, p := range l {
		b.WriteString(vint.Num(p.Key) + vint.Whole(p.Val))
	}
	return b.String()
}

// Promise 5.3: Text.
func TestText(t *testing.T) {
	for _, x := range samples() {
		if s := table.Text(x.l); s != x.text {
			t.Errorf("Text(%v): %x, not %x", x.l, s, x.text)
		}
	}
	for _, l := range goodTables() {
		if s := table.Text(l); s != bytesOf(l) {
			t.Errorf("Text(%v): %x", l, s)
		}
	}
	for _, l := range notTables() {
		if s := table.Text(l); s != "" {
			t.Errorf("Text(%v): %x", l, s)
		}
	}
}

// reads tells whether Read answers this and nothing else.
func reads(s string, want []api.Pair, e api.Errno) bool {
	l, got := table.Read(s)
	return got == e && slices.Equal(l, want)
}

// Promises 5.3 and 5.4: Read of what encodes a table, cut off anywhere, and with bytes behind it.
func TestRead(t *testing.T) {
	for _, x := range samples() {
		if !reads(x.text, x.l, api.OK) {
			t.Errorf("Read(%x)", x.text)
		}
		for n := range len(x.text) {
			if !reads(x.text[:n], nil, api.ErrShort) {
				t.Errorf("Read(%x), of %x", x.text[:n], x.text)
			}
		}
		for _, behind := range []string{"\x00", "\x80", "\x80\x00", x.text} {
			if !reads(x.text+behind, nil, api.ErrLong) {
				t.Errorf("Read(%x)", x.text+behind)
			}
		}
	}
	for _, l := range goodTables() {
		if s := table.Text(l); !reads(s, l, api.OK) || !reads(s+"\x00", nil, api.ErrLong) || !reads(s[:len(s)-1], nil, api.ErrShort) {
			t.Errorf("Read of the bytes of %v", l)
		}
	}
}

// Promise 5.3: the errors of Read.
func TestReadErrors(t *testing.T) {
	nine := strings.Repeat("\xff", 9)
	for s, want := range map[string]api.Errno{
		"":                                     api.ErrShort,
		"\x01":                                 api.ErrShort,
		"\x01\x05":                             api.ErrShort,
		"\x02\x05\x0e":                         api.ErrShort,
		"\x02\x04\x03\x01\x0a":                 api.ErrForm, // the keys fall
		"\x02\x04\x03\x04\x03":                 api.ErrForm, // a key twice
		"\x02\x04\x03\x01\x0a\x00":             api.ErrLong, // no table, but bytes are left
		"\x02\x04\x03\x01":                     api.ErrShort,
		"\x01\x80\x20\x00":                     api.ErrForm, // the key MaxKey
		"\x01\xff\x1f\x00":                     api.OK,
		"\x01\x05" + mostVal:                   api.OK,
		"\x01\x05" + leastVal:                  api.OK,
		"\x01\x05" + absent:                    api.ErrForm,
		"\x01\x05\x81\x80\x80\x80\x80@":        api.ErrForm, // -MaxVal - 1
		"\x80":                                 api.ErrShort,
		"\x80\x00":                             api.ErrForm, // more bytes than necessary
		"\x81\x00\x05\x0e":                     api.ErrForm,
		"\x01\x85\x00\x0e":                     api.ErrForm,
		"\x01\x05\x8e\x00":                     api.ErrForm,
		nine:                                   api.ErrShort,
		nine + "\x01":                          api.ErrForm,
		"\xff\xff\xff\xff\xff\xff\xff\xff\x7f": api.ErrShort, // 2^63 - 1 pairs
		"\xff\xff\xff\xff\xff\xff\xff\xff\x7f\x00\x00":         api.ErrShort,
		"\xff\xff\xff\xff\xff\xff\xff\xff\x7f\x01\x00\x00\x00": api.ErrShort,
		"\xff\xff\xff\xff\xff\xff\xff\xff\x7f\x00\x80\x00":     api.ErrForm,
		"\x01\xff\xff\xff\xff\xff\xff\xff\xff\x7f\x00":         api.ErrForm, // the key 2^63 - 1
		"\x01\x05\xff\xff\xff\xff\xff\xff\xff\xff\x7f":         api.ErrForm, // the value -2^62
		"\x01\x05\xfe\xff\xff\xff\xff\xff\xff\xff\x7f":         api.ErrForm,
	} {
		l, e := table.Read(s)
		if e != want || e != api.OK && len(l) != 0 {
			t.Errorf("Read(%x): %v, %v, not %v", s, l, e, want)
		}
	}
}

// Promise 5.3: the bytes of lists that are no tables; nothing is refused for that ahead of the reader's errors.
func TestReadBad(t *testing.T) {
	for _, l := range notTables() {
		if slices.ContainsFunc(l, func(p api.Pair) bool { return vint.Num(p.Key) == "" || vint.Whole(p.Val) == "" }) {
			continue // a number that has no bytes
		}
		if s := bytesOf(l); !reads(s, nil, api.ErrForm) || !reads(s+"\x00", nil, api.ErrLong) || !reads(s[:len(s)-1], nil, api.ErrShort) {
			t.Errorf("Read of the bytes of %v", l)
		}
	}
}

// Promise 5.3: more pairs than there are keys are read all the same: what stands behind them is refused first.
func TestReadManyPairs(t *testing.T) {
	for _, n := range []int{4097, 4098, 100000} {
		l := full()
		for key := len(l); key < n; key++ {
			l = append(l, api.Pair{Key: key})
		}
		if s := bytesOf(l); !reads(s, nil, api.ErrForm) || !reads(s+"\x00", nil, api.ErrLong) || !reads(s[:len(s)-1], nil, api.ErrShort) || !reads(s[:len(s)-1]+"\x80\x00", nil, api.ErrForm) {
			t.Errorf("%d pairs", n)
		}
	}
}

// Promise 5.4: on two sets without common keys a mutation changes the two parts of a table as it changes the whole on both sets.
func TestApplyParts(t *testing.T) {
	d := roll(11)
	for range 4000 {
		l, m, a := d.table(), d.mut(), d.set()
		b, e := span.Less(d.set(), a)
		both, f := span.Join(a, b)
		if e != api.OK || f != api.OK {
			t.Fatalf("no sets")
		}
		whole, done := table.Apply(l, m, both)
		partA, doneA := table.Apply(table.Clip(l, a), m, a)
		partB, doneB := table.Apply(table.Clip(l, b), m, b)
		joined, e := table.Join(partA, partB)
		if e != api.OK || !slices.Equal(joined, table.Clip(whole, both)) || done != (doneA && doneB) {
			t.Fatalf("%v, %v, %v and %v: %v, %v, not %v, %v", l, m, a, b, joined, doneA && doneB, whole, done)
		}
		first, doneA := table.Apply(l, m, a)
		second, doneB := table.Apply(first, m, b)
		if !slices.Equal(second, whole) || done != (doneA && doneB) {
			t.Fatalf("%v, %v, %v and then %v: %v, not %v", l, m, a, b, second, whole)
		}
	}
}

// Promise 5.4: what becomes of a key hangs on that key's value only, whatever the other keys have.
func TestApplyOneKey(t *testing.T) {
	d := roll(12)
	for range 3000 {
		l, other, m, key := d.table(), d.table(), d.mut(), d.key()
		one := []api.Span{{Lo: key, Hi: key + 1}}
		elsewhere, _ := span.Less(everyKey(), one)
		other, e := table.Join(table.Clip(other, elsewhere), table.Clip(l, one))
		if e != api.OK || mut.Alone(m) && m.Pairs[0].Key != key {
			continue // it may fail by another key's value
		}
		a, _ := table.Apply(l, m, everyKey())
		b, _ := table.Apply(other, m, everyKey())
		if !slices.Equal(table.Clip(a, one), table.Clip(b, one)) {
			t.Fatalf("%v and %v, %v: the key %d: %v and %v", l, other, m, key, a, b)
		}
	}
}

// readsBack tells whether any bytes are refused with nothing beside the error, or are the bytes of what was read.
func readsBack(s string) bool {
	l, e := table.Read(s)
	if e != api.OK {
		return len(l) == 0 && (e == api.ErrShort || e == api.ErrForm || e == api.ErrLong)
	}
	return table.Check(l) && table.Text(l) == s
}

// Promise 5.4: every table has one encoding: of the samples with one byte changed, left out or put in.
func TestReadsBack(t *testing.T) {
	for _, x := range samples() {
		for i := range x.text {
			for b := range 256 {
				one := string([]byte{byte(b)})
				for _, s := range []string{x.text[:i] + one + x.text[i+1:], x.text[:i] + one + x.text[i:], x.text[:i] + x.text[i+1:]} {
					if !readsBack(s) {
						t.Fatalf("%x is read, and written otherwise", s)
					}
				}
			}
		}
	}
}

// Promise 5.4: decoding an encoding gives the table, and no two tables have the same one.
func TestRoundTrip(t *testing.T) {
	d := roll(13)
	seen := map[string][]api.Pair{}
	for range 5000 {
		l := d.table()
		s := table.Text(l)
		if !reads(s, l, api.OK) {
			t.Fatalf("%v: %x", l, s)
		}
		if other, there := seen[s]; there && !slices.Equal(other, l) {
			t.Fatalf("%v and %v: %x", l, other, s)
		}
		seen[s] = l
	}
}

// room is the pairs with others behind their end, which nobody may touch.
func room(l []api.Pair) []api.Pair {
	return append(slices.Clone(l), pairs(7, 8, 7, 8, 7, 8)...)[:len(l)]
}

func whole(l []api.Pair) []api.Pair {
	return slices.Clone(l[:cap(l)])
}

// R3: what is handed in is not changed, nor what stands behind it; what is answered shares nothing with it, nor with another answer.
func TestNothingShared(t *testing.T) {
	text := table.Text(pairs(1, 5, 4, -2))
	for _, call := range []func(l, other []api.Pair) []api.Pair{
		func(l, _ []api.Pair) []api.Pair { return table.Clip(l, everyKey()) },
		func(l, other []api.Pair) []api.Pair { return first(table.Join(l, other)) },
		func(l, _ []api.Pair) []api.Pair { return first(table.Join(l, nil)) },
		func(l, _ []api.Pair) []api.Pair { return first(table.Join(nil, l)) },
		func(_, _ []api.Pair) []api.Pair { return first(table.Read(text)) },
		func(l, _ []api.Pair) []api.Pair { return first(table.Apply(l, put(1, 9), everyKey())) },
		func(l, _ []api.Pair) []api.Pair { return first(table.Apply(l, put(1, 9, 3, 3, 6, 6), everyKey())) },
		func(l, _ []api.Pair) []api.Pair { return first(table.Apply(l, put(1, 9), nil)) },
		func(l, _ []api.Pair) []api.Pair { return first(table.Apply(l, del(1, 2), everyKey())) },
		func(l, _ []api.Pair) []api.Pair { return first(table.Apply(l, del(9, 10), everyKey())) },
		func(l, _ []api.Pair) []api.Pair { return first(table.Apply(l, del(0, 4096), nil)) },
		func(l, _ []api.Pair) []api.Pair { return first(table.Apply(l, add(1, 1), everyKey())) },
		func(l, _ []api.Pair) []api.Pair { return first(table.Apply(l, add(1, -9), everyKey())) },
		func(l, _ []api.Pair) []api.Pair { return first(table.Apply(l, cas(1, 5, 1), everyKey())) },
		func(l, _ []api.Pair) []api.Pair { return first(table.Apply(l, cas(1, 1, 1), everyKey())) },
		func(l, _ []api.Pair) []api.Pair { return first(table.Apply(l, move(1, 4, 1), everyKey())) },
	} {
		l, other := room(pairs(1, 5, 4, -2)), room(pairs(2, 2, 8, 8))
		wasL, wasOther := whole(l), whole(other)
		got := call(l, other)
		kept := slices.Clone(got)
		again := call(l, other)
		for i := range got {
			got[i] = api.Pair{Key: -1, Val: -1}
		}
		_ = append(got, pairs(9, 9)...)
		if len(kept) == 0 || !slices.Equal(whole(l), wasL) || !slices.Equal(whole(other), wasOther) || !slices.Equal(again, kept) || !slices.Equal(call(l, other), kept) {
			t.Errorf("%v, %v: %v, not %v", l, other, again, kept)
		}
	}
}

func first[T any](l []api.Pair, _ T) []api.Pair {
	return l
}

// R3: mutations and sets are not changed, nor is a table that is only asked.
func TestArgumentsStay(t *testing.T) {
	for _, m := range []api.Mut{put(1, 9, 3, 3), move(4, 1, 1), add(1, 1), cas(1, 5, 1)} {
		l, on := room(pairs(1, 5, 4, -2)), append(spans(0, 2, 3, 9), spans(7, 8)...)[:2]
		m.Pairs = room(m.Pairs)
		wasL, wasPairs, wasOn := whole(l), whole(m.Pairs), slices.Clone(on[:cap(on)])
		table.Apply(l, m, on)
		table.Apply(l, del(0, 9), on)
		table.Clip(l, on)
		table.Check(l)
		table.Get(l, 1)
		table.Text(l)
		if !slices.Equal(whole(l), wasL) || !slices.Equal(whole(m.Pairs), wasPairs) || !slices.Equal(on[:cap(on)], wasOn) {
			t.Errorf("changed: %v, %v, %v", whole(l), m, on)
		}
	}
}

// Promises 5.3, 5.4 and R1: any bytes are refused or are the bytes of what was read.
func FuzzRead(f *testing.F) {
	for _, x := range samples() {
		f.Add([]byte(x.text))
	}
	f.Fuzz(func(t *testing.T, b []byte) {
		if !readsBack(string(b)) {
			t.Errorf("%x is read, and written otherwise", b)
		}
	})
}

// Promises 5.1, 5.2, 5.4 and R1: arguments of any numbers make no call panic; those that may be are applied as the document says.
func FuzzApply(f *testing.F) {
	f.Add(1, 5, 4, -2, 3, 4, 2, 0, 0, 0, 0, 0, 4096)
	f.Add(1, 5, 4, -2, 5, 4, 1, 1, 1, 0, 0, 0, 1)
	f.Add(1, 5, 4, -2, 2, 0, 0, 0, 0, 2, 9, 0, 4096)
	f.Fuzz(func(t *testing.T, k1, v1, k2, v2, kind, key, val, key2, val2, lo, old, from, to int) {
		l, on := pairs(k1, v1, k2, v2), spans(from, to)
		m := api.Mut{Client: 1, Seq: 1, Kind: kind, Over: api.Span{Lo: lo, Hi: lo + key}, Old: old}
		switch kind {
		case api.MutPut, api.MutMove:
			m.Pairs, m.Over, m.Old = pairs(key, val, key2, val2), api.Span{}, 0
		case api.MutAdd, api.MutCas:
			m.Pairs, m.Over = pairs(key, val), api.Span{}
		case api.MutDel:
			m.Old = 0
		}
		out, done := table.Apply(l, m, on)
		table.Clip(l, on)
		table.Get(l, key)
		table.Join(l, pairs(key, val))
		if !table.Check(l) || !mut.Check(m) || !span.Check(on) {
			if len(out) != 0 || done {
				t.Errorf("Apply(%v, %v, %v): %v, %v", l, m, on, out, done)
			}
			return
		}
		want, well := expected(l, m, on)
		if !slices.Equal(out, want) || done != well || !readsBack(table.Text(out)) {
			t.Errorf("Apply(%v, %v, %v): %v, %v, not %v, %v", l, m, on, out, done, want, well)
		}
	})
}
