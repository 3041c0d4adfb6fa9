package scan_test

import (
	"math"
	"math/rand"
	"slices"
	"strings"
	"testing"

	"splice/api"
	"splice/scan"
	"splice/span"
	"splice/table"
	"splice/vint"
)

// pairs are the pairs of keys and values that stand two by two.
func pairs(l ...int) []api.Pair {
	var out []api.Pair
	for i := 0; i+1 < len(l); i += 2 {
		out = append(out, api.Pair{Key: l[i], Val: l[i+1]})
	}
	return out
}

// spans are the spans of ends that stand two by two.
func spans(ends ...int) []api.Span {
	var l []api.Span
	for i := 0; i+1 < len(ends); i += 2 {
		l = append(l, api.Span{Lo: ends[i], Hi: ends[i+1]})
	}
	return l
}

// row is n spans of one key each, every second key.
func row(n int) []api.Span {
	var l []api.Span
	for i := range n {
		l = append(l, api.Span{Lo: 2 * i, Hi: 2*i + 1})
	}
	return l
}

func everyKey() []api.Span {
	return spans(0, api.MaxKey)
}

// full is a table that has all keys.
func full() []api.Pair {
	var l []api.Pair
	for key := range api.MaxKey {
		l = append(l, api.Pair{Key: key, Val: key * 7 % 1000})
	}
	return l
}

// sample is the table of the chapter's examples, on the set of theirs.
func sample() ([]api.Pair, []api.Span) {
	return pairs(1, 5, 4, 2, 9, 7, 10, 7, 50, -3), spans(0, 5, 9, 60)
}

func cursor(after, limit int, on []api.Span) api.Cursor {
	return api.Cursor{On: on, After: after, Limit: limit}
}

func same(c, d api.Cursor) bool {
	return slices.Equal(c.On, d.On) && c.After == d.After && c.Limit == d.Limit
}

func notTables() [][]api.Pair {
	return [][]api.Pair{
		pairs(4, 2, 1, 5), pairs(1, 5, 1, 5), pairs(-1, 5), pairs(4096, 5), pairs(1, api.Absent), pairs(1, -api.MaxVal-1), pairs(1, 5, 4, 2, 4, 3), pairs(1, 5, math.MaxInt, 2),
		pairs(math.MinInt, 5), pairs(1, math.MinInt), append(full(), api.Pair{Key: 4096}),
	}
}

func notSets() [][]api.Span {
	return [][]api.Span{
		spans(3, 3), spans(4, 3), spans(-1, 2), spans(0, 4097), spans(1, 3, 3, 5), spans(5, 6, 1, 2), spans(1, 3, 2, 5), spans(0, 60, 0, 60), row(65), spans(math.MinInt, math.MaxInt),
	}
}

// goodCursors are cursors that may be.
func goodCursors() []api.Cursor {
	return []api.Cursor{
		cursor(-1, 1, nil), cursor(-1, 2, spans(0, 5, 9, 60)), cursor(0, 500, everyKey()), cursor(4095, 500, row(64)), cursor(4094, 128, []api.Span{}), cursor(63, 127, spans(4095, 4096)), cursor(64, 499, spans(0, 1)),
	}
}

// badCursors are cursors that may not be.
func badCursors() []api.Cursor {
	var l []api.Cursor
	for _, n := range []int{-2, 4096, 4097, math.MinInt, math.MaxInt} {
		l = append(l, cursor(n, 2, spans(0, 5, 9, 60)))
	}
	for _, n := range []int{0, -1, 501, 502, math.MinInt, math.MaxInt} {
		l = append(l, cursor(-1, n, spans(0, 5, 9, 60)))
	}
	for _, on := range notSets() {
		l = append(l, cursor(-1, 2, on))
	}
	return append(l, api.Cursor{})
}

// scanned are the scanned pairs, asked key by key.
func scanned(l []api.Pair, on []api.Span) []api.Pair {
	var out []api.Pair
	for _, p := range l {
		if span.Has(on, p.Key) {
			out = append(out, p)
		}
	}
	return out
}

// dice roll tables and sets, always the same ones.
type dice struct {
	*rand.Rand
}

func roll(seed int64) dice {
	return dice{rand.New(rand.NewSource(seed))}
}

func (d dice) key() int {
	if d.Intn(6) == 0 {
		return api.MaxKey - 1 - d.Intn(20)
	}
	return d.Intn(60)
}

func (d dice) table() []api.Pair {
	l := []api.Pair{}
	for range d.Intn(40) {
		p := api.Pair{Key: d.key(), Val: d.Intn(9) - 4}
		if d.Intn(8) == 0 {
			p.Val = d.Intn(2*api.MaxVal+1) - api.MaxVal
		}
		if joined, e := table.Join(l, []api.Pair{p}); e == api.OK {
			l = joined
		}
	}
	return l
}

func (d dice) set() []api.Span {
	if d.Intn(6) == 0 {
		return everyKey()
	}
	var l []api.Span
	for range d.Intn(7) {
		lo := d.key()
		l = append(l, api.Span{Lo: lo, Hi: min(lo+1+d.Intn(9), api.MaxKey)})
	}
	set, _ := span.Make(l)
	return set
}

// Promise 22.1: Page, in so many words.
func TestPage(t *testing.T) {
	l, on := sample()
	for _, x := range []struct {
		c     api.Cursor
		want  []api.Pair
		after int
		more  bool
	}{
		{cursor(-1, 2, on), l[:2], 4, true},
		{cursor(4, 2, on), l[2:4], 10, true},
		{cursor(10, 2, on), l[4:], 50, false},
		{cursor(50, 2, on), nil, 50, false},
		{cursor(51, 2, on), nil, 51, false},
		{cursor(4095, 2, on), nil, 4095, false},
		{cursor(0, 2, on), l[:2], 4, true},
		{cursor(1, 2, on), l[1:3], 9, true},
		{cursor(3, 2, on), l[1:3], 9, true},
		{cursor(9, 2, on), l[3:], 50, false}, // just as many as there may be
		{cursor(-1, 4, on), l[:4], 10, true},
		{cursor(-1, 5, on), l, 50, false},
		{cursor(-1, 6, on), l, 50, false},
		{cursor(-1, 500, on), l, 50, false},
		{cursor(-1, 1, on), l[:1], 1, true},
		{cursor(-1, 2, nil), nil, -1, false},
		{cursor(7, 2, []api.Span{}), nil, 7, false},
		{cursor(-1, 2, spans(5, 9)), nil, -1, false},
		{cursor(-1, 2, spans(4, 10)), l[1:3], 9, false},
		{cursor(-1, 1, spans(4, 10)), l[1:2], 4, true},
		{cursor(-1, 2, everyKey()), l[:2], 4, true},
	} {
		out, next, more, e := scan.Page(l, x.c)
		if e != api.OK || !slices.Equal(out, x.want) || more != x.more || !same(next, cursor(x.after, x.c.Limit, x.c.On)) {
			t.Errorf("Page(%v): %v, %v, %v, %v", x.c, out, next, more, e)
		}
	}
	if out, next, more, e := scan.Page(nil, cursor(3, 9, on)); e != api.OK || len(out) != 0 || more || !same(next, cursor(3, 9, on)) {
		t.Errorf("Page of no table's pairs: %v, %v, %v, %v", out, next, more, e)
	}
	if out, next, more, e := scan.Page(full(), cursor(-1, 500, everyKey())); e != api.OK || !slices.Equal(out, full()[:500]) || next.After != 499 || !more {
		t.Errorf("Page of all keys: %d, %v, %v, %v", len(out), next, more, e)
	}
}

// Promise 22.1: Page and All of what is no table, by cursors that may not be.
func TestPageBad(t *testing.T) {
	refused := func(l []api.Pair, c api.Cursor) {
		t.Helper()
		out, next, more, e := scan.Page(l, c)
		pages, f := scan.All(l, c)
		if e != api.ErrArg || len(out) != 0 || more || !same(next, api.Cursor{}) || f != api.ErrArg || len(pages) != 0 {
			t.Errorf("%v, %v: %v, %v, %v, %v; %v, %v", l, c, out, next, more, e, pages, f)
		}
	}
	l, on := sample()
	for _, c := range badCursors() {
		refused(l, c)
		refused(nil, c)
	}
	for _, bad := range notTables() {
		refused(bad, cursor(-1, 2, on))
		refused(bad, cursor(-1, 2, nil))
	}
}

// Promise 22.1: All.
func TestAll(t *testing.T) {
	l, on := sample()
	for _, x := range []struct {
		c    api.Cursor
		want [][]api.Pair
	}{
		{cursor(-1, 2, on), [][]api.Pair{l[:2], l[2:4], l[4:]}},
		{cursor(1, 2, on), [][]api.Pair{l[1:3], l[3:]}}, // no page of nothing behind the last full one
		{cursor(-1, 5, on), [][]api.Pair{l}},
		{cursor(-1, 500, on), [][]api.Pair{l}},
		{cursor(-1, 1, on), [][]api.Pair{l[:1], l[1:2], l[2:3], l[3:4], l[4:]}},
		{cursor(50, 2, on), [][]api.Pair{nil}},
		{cursor(-1, 2, nil), [][]api.Pair{nil}},
		{cursor(4095, 2, everyKey()), [][]api.Pair{nil}},
	} {
		if pages, e := scan.All(l, x.c); e != api.OK || !slices.EqualFunc(pages, x.want, slices.Equal) {
			t.Errorf("All(%v): %v, %v", x.c, pages, e)
		}
	}
	if pages, e := scan.All(nil, cursor(-1, 3, on)); e != api.OK || len(pages) != 1 || len(pages[0]) != 0 {
		t.Errorf("All of nothing: %v, %v", pages, e)
	}
	if pages, e := scan.All(full(), cursor(-1, 1, everyKey())); e != api.OK || len(pages) != 4096 || !slices.Equal(slices.Concat(pages...), full()) {
		t.Errorf("All of all keys: %d, %v", len(pages), e)
	}
}

// Promises 22.1 and 22.5: any pages, one behind the other, are all pages, and have each scanned pair once.
func TestPagesAny(t *testing.T) {
	d := roll(221)
	for range 1500 {
		l, c := d.table(), cursor(d.key()-1, 1+d.Intn(9), d.set())
		if d.Intn(2) == 0 {
			c.After = -1
		}
		all, e := scan.All(l, c)
		want := slices.DeleteFunc(scanned(l, c.On), func(p api.Pair) bool { return p.Key <= c.After })
		if e != api.OK || len(all) != max(1, (len(want)+c.Limit-1)/c.Limit) || !slices.Equal(slices.Concat(all...), want) {
			t.Fatalf("All(%v, %v): %v, %v", l, c, all, e)
		}
		for i, page := range all {
			out, next, more, e := scan.Page(l, c)
			if e != api.OK || !slices.Equal(out, page) || more != (i+1 < len(all)) {
				t.Fatalf("Page(%v, %v): %v, %v, %v, not %v", l, c, out, more, e, page)
			}
			c = next
		}
	}
}

// Promise 22.2: Groups, in so many words.
func TestGroups(t *testing.T) {
	l, on := sample()
	for _, x := range []struct {
		l     []api.Pair
		on    []api.Span
		width int
		want  []api.Group
	}{
		{l, on, 10, []api.Group{{Key: 0, N: 3, Sum: 14, Least: 2, Most: 7}, {Key: 10, N: 1, Sum: 7, Least: 7, Most: 7}, {Key: 50, N: 1, Sum: -3, Least: -3, Most: -3}}},
		{pairs(1, 5, 4, 2, 9, 7), everyKey(), 5, []api.Group{{Key: 0, N: 2, Sum: 7, Least: 2, Most: 5}, {Key: 5, N: 1, Sum: 7, Least: 7, Most: 7}}},
		{l, spans(4, 10), 10, []api.Group{{Key: 0, N: 2, Sum: 9, Least: 2, Most: 7}}},
		{l, on, 4096, []api.Group{{N: 5, Sum: 18, Least: -3, Most: 7}}},
		{l, on, 50, []api.Group{{N: 4, Sum: 21, Least: 2, Most: 7}, {Key: 50, N: 1, Sum: -3, Least: -3, Most: -3}}},
		{l, on, 1, []api.Group{{Key: 1, N: 1, Sum: 5, Least: 5, Most: 5}, {Key: 4, N: 1, Sum: 2, Least: 2, Most: 2}, {Key: 9, N: 1, Sum: 7, Least: 7, Most: 7}, {Key: 10, N: 1, Sum: 7, Least: 7, Most: 7}, {Key: 50, N: 1, Sum: -3, Least: -3, Most: -3}}},
		{pairs(0, 0, 4095, 0), everyKey(), 4095, []api.Group{{N: 1}, {Key: 4095, N: 1}}},
		{pairs(7, -9, 8, -1), everyKey(), 100, []api.Group{{N: 2, Sum: -10, Least: -9, Most: -1}}},
		{pairs(7, 9, 8, 1), everyKey(), 100, []api.Group{{N: 2, Sum: 10, Least: 1, Most: 9}}},
		{pairs(7, api.MaxVal, 8, api.MaxVal), everyKey(), 7, []api.Group{{Key: 7, N: 2, Sum: 2 * api.MaxVal, Least: api.MaxVal, Most: api.MaxVal}}},
		{l, nil, 10, nil},
		{l, spans(5, 9), 10, nil},
		{nil, on, 10, nil},
	} {
		if g, e := scan.Groups(x.l, x.on, x.width); e != api.OK || !slices.Equal(g, x.want) {
			t.Errorf("Groups(%v, %v, %d): %v, %v", x.l, x.on, x.width, g, e)
		}
	}
}

// Promise 22.2: Groups and Total of what is no table, on what is no set, by widths that may not be.
func TestGroupsBad(t *testing.T) {
	refused := func(l []api.Pair, on []api.Span, width int) {
		t.Helper()
		if g, e := scan.Groups(l, on, width); e != api.ErrArg || len(g) != 0 {
			t.Errorf("Groups(%v, %v, %d): %v, %v", l, on, width, g, e)
		}
	}
	l, on := sample()
	for _, width := range []int{0, -1, 4097, math.MinInt, math.MaxInt} {
		refused(l, on, width)
		refused(nil, nil, width)
	}
	for _, bad := range notTables() {
		refused(bad, on, 10)
		if g := scan.Total(bad, everyKey()); g != (api.Group{}) {
			t.Errorf("Total(%v): %v", bad, g)
		}
	}
	for _, bad := range notSets() {
		refused(l, bad, 10)
		if g := scan.Total(l, bad); g != (api.Group{}) {
			t.Errorf("Total on %v: %v", bad, g)
		}
	}
}

// Promise 22.2: Total.
func TestTotal(t *testing.T) {
	l, on := sample()
	for _, x := range []struct {
		l    []api.Pair
		on   []api.Span
		want api.Group
	}{
		{l, on, api.Group{N: 5, Sum: 18, Least: -3, Most: 7}},
		{l, everyKey(), api.Group{N: 5, Sum: 18, Least: -3, Most: 7}},
		{l, spans(9, 60), api.Group{N: 3, Sum: 11, Least: -3, Most: 7}},
		{l, spans(50, 51), api.Group{N: 1, Sum: -3, Least: -3, Most: -3}},
		{l, spans(4, 5), api.Group{N: 1, Sum: 2, Least: 2, Most: 2}},
		{l, nil, api.Group{}},
		{l, spans(5, 9), api.Group{}},
		{nil, on, api.Group{}},
		{pairs(4095, 0), everyKey(), api.Group{N: 1}},
	} {
		if g := scan.Total(x.l, x.on); g != x.want {
			t.Errorf("Total(%v, %v): %v", x.l, x.on, g)
		}
	}
	most := full()
	for i := range most {
		most[i].Val = api.MaxVal
	}
	if g := scan.Total(most, everyKey()); g != (api.Group{N: 4096, Sum: 1 << 52, Least: api.MaxVal, Most: api.MaxVal}) {
		t.Errorf("Total of the greatest: %v", g)
	}
}

// Promises 22.2 and 22.5: any groups have each scanned pair once, and add up to the total.
func TestGroupsAny(t *testing.T) {
	d := roll(222)
	for range 1500 {
		l, on, width := d.table(), d.set(), 1+d.Intn(30)
		if d.Intn(4) == 0 {
			width = api.MaxKey - d.Intn(4)
		}
		groups, e := scan.Groups(l, on, width)
		var sum api.Group
		last := -1
		for _, g := range groups {
			part, f := span.Meet(on, spans(g.Key, min(g.Key+width, api.MaxKey)))
			total := scan.Total(l, part)
			total.Key = g.Key
			if f != api.OK || g.Key%width != 0 || g.Key <= last || g != total || g.N == 0 {
				t.Fatalf("Groups(%v, %v, %d): %v", l, on, width, g)
			}
			if sum.N == 0 {
				sum.Least, sum.Most = g.Least, g.Most
			}
			sum = api.Group{N: sum.N + g.N, Sum: sum.Sum + g.Sum, Least: min(sum.Least, g.Least), Most: max(sum.Most, g.Most)}
			last = g.Key
		}
		if e != api.OK || sum != scan.Total(l, on) || sum.N != len(scanned(l, on)) {
			t.Fatalf("Groups(%v, %v, %d): %v, %v, but %v", l, on, width, groups, e, scan.Total(l, on))
		}
	}
}

// Promise 22.3: Nth, Rank.
func TestNthAndRank(t *testing.T) {
	l, on := sample()
	for n, want := range l {
		if p, is := scan.Nth(l, on, n); !is || p != want {
			t.Errorf("Nth(%d): %v, %v", n, p, is)
		}
	}
	for _, n := range []int{-1, 5, 6, 4096, math.MinInt, math.MaxInt} {
		if p, is := scan.Nth(l, on, n); is || p != (api.Pair{}) {
			t.Errorf("Nth(%d): %v, %v", n, p, is)
		}
	}
	if p, is := scan.Nth(l, spans(4, 5, 10, 60), 1); !is || p != (api.Pair{Key: 10, Val: 7}) {
		t.Errorf("Nth(1): %v, %v", p, is)
	}
	for key, want := range map[int]int{math.MinInt: 0, -1: 0, 0: 0, 1: 0, 2: 1, 4: 1, 5: 2, 9: 2, 10: 3, 11: 4, 50: 4, 51: 5, 4095: 5, 4096: 5, math.MaxInt: 5} {
		if n := scan.Rank(l, on, key); n != want {
			t.Errorf("Rank(%d): %d, not %d", key, n, want)
		}
	}
	if n := scan.Rank(l, spans(4, 5, 10, 60), 10); n != 1 {
		t.Errorf("Rank(10): %d", n)
	}
}

// Promise 22.3: Top.
func TestTop(t *testing.T) {
	l, on := sample()
	all := pairs(9, 7, 10, 7, 1, 5, 4, 2, 50, -3)
	for n, want := range map[int]int{math.MinInt: 0, -1: 0, 0: 0, 1: 1, 2: 2, 3: 3, 4: 4, 5: 5, 6: 5, math.MaxInt: 5} {
		if got := scan.Top(l, on, n); !slices.Equal(got, all[:want]) {
			t.Errorf("Top(%d): %v", n, got)
		}
	}
	if got := scan.Top(l, spans(10, 60, 70, 80), 9); !slices.Equal(got, pairs(10, 7, 50, -3)) {
		t.Errorf("Top: %v", got)
	}
	if got := scan.Top(pairs(1, 5, 4, 2, 9, 7), everyKey(), 2); !slices.Equal(got, pairs(9, 7, 1, 5)) {
		t.Errorf("Top: %v", got)
	}
	if got := scan.Top(pairs(0, -api.MaxVal, 1, api.MaxVal, 2, 0, 3, api.MaxVal), everyKey(), 3); !slices.Equal(got, pairs(1, api.MaxVal, 3, api.MaxVal, 2, 0)) {
		t.Errorf("Top: %v", got)
	}
}

// Promise 22.3: Nth, Rank and Top of what is no table, on what is no set, on none.
func TestPlacesBad(t *testing.T) {
	none := func(l []api.Pair, on []api.Span) {
		t.Helper()
		p, is := scan.Nth(l, on, 0)
		if is || p != (api.Pair{}) || scan.Rank(l, on, 4000) != 0 || len(scan.Top(l, on, 9)) != 0 {
			t.Errorf("%v on %v: %v, %d, %v", l, on, p, scan.Rank(l, on, 4000), scan.Top(l, on, 9))
		}
	}
	l, on := sample()
	none(l, nil)
	none(nil, on)
	for _, bad := range notTables() {
		none(bad, everyKey())
	}
	for _, bad := range notSets() {
		none(l, bad)
	}
}

// Promises 22.3 and 22.5: the pair at a place has that rank; the greatest values stand first.
func TestPlacesAny(t *testing.T) {
	d := roll(223)
	for range 1500 {
		l, on := d.table(), d.set()
		want := scanned(l, on)
		for n := range len(want) + 1 {
			p, is := scan.Nth(l, on, n)
			if is != (n < len(want)) || is && (p != want[n] || scan.Rank(l, on, p.Key) != n || scan.Rank(l, on, p.Key+1) != n+1) {
				t.Fatalf("Nth(%v, %v, %d): %v, %v", l, on, n, p, is)
			}
		}
		slices.SortStableFunc(want, func(p, q api.Pair) int { return q.Val - p.Val })
		n := d.Intn(len(want) + 3)
		if got := scan.Top(l, on, n); !slices.Equal(got, want[:min(n, len(want))]) {
			t.Fatalf("Top(%v, %v, %d): %v", l, on, n, got)
		}
	}
}

// bytesOf is what the bytes of a cursor would be, whether or not it may be, as far as its numbers have bytes.
func bytesOf(c api.Cursor) string {
	s := vint.Whole(c.After) + vint.Num(c.Limit) + vint.Num(len(c.On))
	for _, x := range c.On {
		s += vint.Num(x.Lo) + vint.Num(x.Hi)
	}
	return s
}

// haveBytes tells whether all numbers of a cursor have bytes.
func haveBytes(c api.Cursor) bool {
	return vint.Whole(c.After) != "" && c.Limit >= 0 && !slices.ContainsFunc(c.On, func(s api.Span) bool { return s.Lo < 0 || s.Hi < 0 })
}

// Promise 22.4: Text.
func TestText(t *testing.T) {
	for _, x := range []struct {
		c    api.Cursor
		want string
	}{
		{cursor(-1, 2, spans(0, 5, 9, 60)), "\x01\x02\x02\x00\x05\x09\x3c"},
		{cursor(-1, 1, nil), "\x01\x01\x00"},
		{cursor(0, 1, nil), "\x00\x01\x00"},
		{cursor(4095, 500, everyKey()), "\xfe\x3f\xf4\x03\x01\x00\x80\x20"},
	} {
		if s := scan.Text(x.c); s != x.want {
			t.Errorf("Text(%v): %x, not %x", x.c, s, x.want)
		}
	}
	for _, c := range goodCursors() {
		if s := scan.Text(c); s != bytesOf(c) {
			t.Errorf("Text(%v): %x", c, s)
		}
	}
	for _, c := range badCursors() {
		if s := scan.Text(c); s != "" {
			t.Errorf("Text(%v): %x", c, s)
		}
	}
}

// reads tells whether Read answers this and nothing else.
func reads(s string, want api.Cursor, e api.Errno) bool {
	c, got := scan.Read(s)
	return got == e && same(c, want)
}

// Promises 22.4 and 22.5: Read of what encodes a cursor, cut off anywhere, and with bytes behind it.
func TestRead(t *testing.T) {
	for _, c := range goodCursors() {
		s := scan.Text(c)
		if !reads(s, c, api.OK) {
			t.Errorf("Read(%x)", s)
		}
		for n := range len(s) {
			if !reads(s[:n], api.Cursor{}, api.ErrShort) {
				t.Errorf("Read(%x), of %x", s[:n], s)
			}
		}
		for _, behind := range []string{"\x00", "\x80", s} {
			if !reads(s+behind, api.Cursor{}, api.ErrLong) {
				t.Errorf("Read(%x)", s+behind)
			}
		}
	}
}

// Promise 22.4: the bytes of cursors that may not be; the reader's errors come first.
func TestReadBad(t *testing.T) {
	for _, c := range badCursors() {
		if s := bytesOf(c); haveBytes(c) && len(c.On) <= api.MaxSpans && (!reads(s, api.Cursor{}, api.ErrForm) || !reads(s+"\x00", api.Cursor{}, api.ErrLong) || !reads(s[:len(s)-1], api.Cursor{}, api.ErrShort) || !reads(s[:len(s)-1]+"\x80\x00", api.Cursor{}, api.ErrForm)) {
			t.Errorf("Read of the bytes of %v", c)
		}
	}
	nine := strings.Repeat("\xff", 9)
	for s, want := range map[string]api.Errno{
		"":                                 api.ErrShort,
		"\x01\x02\x00":                     api.OK,
		"\x03\x02\x00":                     api.ErrForm, // After is -2
		"\x80\x40\x02\x00":                 api.ErrForm, // and MaxKey
		"\x01\x00\x00":                     api.ErrForm,
		"\x01\xf5\x03\x00":                 api.ErrForm, // Limit is 501
		"\x01\xf4\x03\x00":                 api.OK,
		"\x81\x00\x02\x00":                 api.ErrForm, // more bytes than necessary
		"\x01\x02\x80\x00":                 api.ErrForm,
		nine + "\x01\x02\x00":              api.ErrForm,
		"\x01" + nine + "\x01\x02\x00":     api.ErrForm,
		"\x01\x02\x01" + nine + "\x01\x00": api.ErrForm,
		"\x01\x02" + nine:                  api.ErrShort,
	} {
		c, e := scan.Read(s)
		if e != want || e != api.OK && !same(c, api.Cursor{}) {
			t.Errorf("Read(%x): %v, %v, not %v", s, c, e, want)
		}
	}
}

// Promise 22.4: more spans than a set may have: the first ones of them are read, and no more.
func TestReadManySpans(t *testing.T) {
	head, most := "\x01\x02", "\xff\xff\xff\xff\xff\xff\xff\xff\x7f" // 2^63 - 1
	spans := strings.TrimPrefix(bytesOf(cursor(-1, 2, row(64))), "\x01\x02\x40")
	for _, n := range []string{"\x41", "\x42", "\xac\x02", most} {
		for _, behind := range []string{"", "\x00", "\x80", "\x80\x00", "\x01\x02\x03", spans} {
			if !reads(head+n+spans+behind, api.Cursor{}, api.ErrForm) {
				t.Errorf("%x spans, %x behind the first ones", n, behind)
			}
		}
		for size := range len(spans) {
			if !reads(head+n+spans[:size], api.Cursor{}, api.ErrShort) {
				t.Errorf("%x spans, but %d bytes of them", n, size)
			}
		}
		last := spans[:len(spans)-2] + "\x80\x00"
		if !reads(head+n+last, api.Cursor{}, api.ErrForm) || !reads(head+n+strings.Repeat("\x09", 128), api.Cursor{}, api.ErrForm) || !reads("\x80\x00\x02"+n, api.Cursor{}, api.ErrForm) || !reads(head+n, api.Cursor{}, api.ErrShort) {
			t.Errorf("%x spans", n)
		}
	}
	if !reads(head+"\x40"+spans, cursor(-1, 2, row(64)), api.OK) || !reads(head+"\x40"+spans+"\x00", api.Cursor{}, api.ErrLong) {
		t.Errorf("as many spans as there may be")
	}
}

// readsBack tells whether any bytes are refused with nothing beside the error, or are the bytes of what was read.
func readsBack(s string) bool {
	c, e := scan.Read(s)
	if e != api.OK {
		return same(c, api.Cursor{}) && (e == api.ErrShort || e == api.ErrForm || e == api.ErrLong)
	}
	return scan.Text(c) == s
}

// Promise 22.5: every cursor has one encoding: of the samples with one byte changed, left out or put in; and of any.
func TestReadsBack(t *testing.T) {
	for _, c := range goodCursors() {
		s := scan.Text(c)
		for i := range s {
			for b := range 256 {
				one := string([]byte{byte(b)})
				if !readsBack(s[:i]+one+s[i+1:]) || !readsBack(s[:i]+one+s[i:]) || !readsBack(s[:i]+s[i+1:]) {
					t.Fatalf("%x is read, and written otherwise, with %d for a byte", s, b)
				}
			}
		}
	}
	d := roll(225)
	seen := map[string]api.Cursor{}
	for range 3000 {
		c := cursor(d.key()-1, 1+d.Intn(500), d.set())
		s := scan.Text(c)
		if other, there := seen[s]; !reads(s, c, api.OK) || there && !same(other, c) {
			t.Fatalf("%v: %x", c, s)
		}
		seen[s] = c
	}
}

// R3: what is handed in is not changed, nor what stands behind it; what is answered shares nothing with it, nor with another answer.
func TestNothingShared(t *testing.T) {
	l, on := sample()
	l, on = append(l, pairs(9, 9, 9, 9)...)[:5], append(on, spans(7, 8, 7, 8)...)[:2]
	wasL, wasOn := slices.Clone(l[:cap(l)]), slices.Clone(on[:cap(on)])
	c := cursor(-1, 2, on)
	ask := func() ([]api.Pair, api.Cursor, [][]api.Pair, []api.Group, []api.Pair) {
		out, next, _, _ := scan.Page(l, c)
		pages, _ := scan.All(l, c)
		groups, _ := scan.Groups(l, on, 10)
		return out, next, pages, groups, scan.Top(l, on, 3)
	}
	out, next, pages, groups, top := ask()
	for _, x := range append([][]api.Pair{out, top}, pages...) {
		for i := range x {
			x[i] = api.Pair{Key: -1, Val: -1}
		}
		_ = append(x, pairs(-1, -1, -1, -1)...)
		if len(pages[2]) != 1 || &x[0] != &pages[2][0] && pages[2][0] != l[4] {
			t.Errorf("the pages are shared: %v", pages)
		}
	}
	for i := range next.On {
		next.On[i] = api.Span{Lo: -1, Hi: -1}
	}
	clear(groups)
	out, next, pages, groups, top = ask()
	if !slices.Equal(out, l[:2]) || !same(next, cursor(4, 2, on)) || !slices.Equal(slices.Concat(pages...), l) || len(groups) != 3 || groups[0].N != 3 || !slices.Equal(top, pairs(9, 7, 10, 7, 1, 5)) {
		t.Errorf("%v, %v, %v, %v, %v", out, next, pages, groups, top)
	}
	scan.Total(l, on)
	scan.Nth(l, on, 2)
	scan.Rank(l, on, 2)
	scan.Text(c)
	if !slices.Equal(l[:cap(l)], wasL) || !slices.Equal(on[:cap(on)], wasOn) {
		t.Errorf("changed: %v, %v", l[:cap(l)], on[:cap(on)])
	}
}

// Promises 22.4, 22.5 and R1: any bytes are refused or are the bytes of what was read.
func FuzzRead(f *testing.F) {
	for _, c := range goodCursors() {
		f.Add([]byte(scan.Text(c)))
	}
	f.Fuzz(func(t *testing.T, b []byte) {
		if !readsBack(string(b)) {
			t.Errorf("%x is read, and written otherwise", b)
		}
	})
}

// Promises 22.1 to 22.3 and R1: arguments of any numbers make no call panic, and pages, groups and places agree.
func FuzzScan(f *testing.F) {
	f.Add(1, 5, 4, 2, 0, 5, -1, 2, 10)
	f.Add(4094, 5, 4095, 2, 0, 4096, 4094, 1, 4095)
	f.Fuzz(func(t *testing.T, k1, v1, k2, v2, lo, hi, after, limit, width int) {
		l, on := pairs(k1, v1, k2, v2), spans(lo, hi)
		out, _, more, e := scan.Page(l, cursor(after, limit, on))
		pages, f := scan.All(l, cursor(after, limit, on))
		groups, _ := scan.Groups(l, on, width)
		total, n := scan.Total(l, on), 0
		for _, g := range groups {
			n += g.N
		}
		_, is := scan.Nth(l, on, limit)
		scan.Rank(l, on, after)
		if e != f || e == api.OK && (!slices.Equal(pages[0], out) || more != (len(pages) > 1)) || len(groups) > 0 && n != total.N || is && limit >= total.N || len(scan.Top(l, on, width)) > max(width, 0) {
			t.Errorf("%v on %v: %v, %v, %v, %v", l, on, out, pages, groups, total)
		}
	})
}
