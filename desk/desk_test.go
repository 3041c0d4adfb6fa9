package desk_test

import (
	"fmt"
	"math"
	"slices"
	"testing"

	"splice/api"
	"splice/chart"
	"splice/client"
	"splice/delta"
	"splice/desk"
	"splice/scan"
)

// spans are the spans from one key up to another that stand two by two.
func spans(l ...int) (out []api.Span) {
	for i := 0; i+1 < len(l); i += 2 {
		out = append(out, api.Span{Lo: l[i], Hi: l[i+1]})
	}
	return out
}

// pairs are the pairs of keys and values that stand two by two.
func pairs(l ...int) (out []api.Pair) {
	for i := 0; i+1 < len(l); i += 2 {
		out = append(out, api.Pair{Key: l[i], Val: l[i+1]})
	}
	return out
}

func put(l ...int) api.Mut {
	return api.Mut{Kind: api.MutPut, Pairs: pairs(l...)}
}

func add(key, val int) api.Mut {
	return api.Mut{Kind: api.MutAdd, Pairs: pairs(key, val)}
}

func cas(key, old, val int) api.Mut {
	return api.Mut{Kind: api.MutCas, Pairs: pairs(key, val), Old: old}
}

func move(from, to, val int) api.Mut {
	return api.Mut{Kind: api.MutMove, Pairs: pairs(from, val, to, val)}
}

func del(lo, hi int) api.Mut {
	return api.Mut{Kind: api.MutDel, Over: api.Span{Lo: lo, Hi: hi}}
}

// by is a mutation as a client's seq-th one.
func by(client, seq int, m api.Mut) api.Mut {
	m.Client, m.Seq = client, seq
	return m
}

// begin is a desk of the client 3, which follows keys of the only shard, and has heard of some values at the time 1.
func begin(t *testing.T, on []api.Span, values ...int) (*client.Client, *desk.Desk) {
	t.Helper()
	x, _ := chart.First(1, 1)
	c := client.New(3, on, x)
	d := desk.New(c)
	if d == nil || c.Take(api.Note{Kind: api.NoteState, From: 1, Time: 1, Pairs: pairs(values...)}) != api.OK {
		t.Fatalf("no desk of %v", on)
	}
	return c, d
}

// commits lets the client hear that some mutations were committed from a time on, the n-th entry and those behind it.
func commits(t *testing.T, c *client.Client, n, time int, l ...api.Mut) {
	t.Helper()
	p := api.Note{Kind: api.NotePage, From: 1, N: n, Time: time + len(l) - 1}
	for i, m := range l {
		p.Entries = append(p.Entries, api.Entry{M: m, Time: time + i, Done: true})
	}
	if e := c.Take(p); e != api.OK {
		t.Fatalf("Take of %v: %v", p, e)
	}
}

// drafts begins a draft of some mutations.
func drafts(t *testing.T, d *desk.Desk, l ...api.Mut) {
	t.Helper()
	if e := d.Begin(); e != api.OK || d.Open() != 0 {
		t.Fatalf("Begin: %v", e)
	}
	does(t, d, l...)
}

func does(t *testing.T, d *desk.Desk, l ...api.Mut) {
	t.Helper()
	for _, m := range l {
		n := d.Open()
		if _, e := d.Do(m); e != api.OK || d.Open() != n+1 {
			t.Fatalf("Do of %v: %v", m, e)
		}
	}
}

// shows looks what a desk shows.
func shows(t *testing.T, d *desk.Desk, l ...int) {
	t.Helper()
	if now := d.Show(); !slices.Equal(now, pairs(l...)) {
		t.Errorf("%v is shown, not %v", now, pairs(l...))
	}
}

// all is all that is asked of a client and its desk, but for what is watched.
func all(c *client.Client, d *desk.Desk) string {
	return fmt.Sprint(c.Pending(), c.Now(), c.Wants(), c.Last(), d.Open(), d.Show(), d.Preview())
}

// leaves looks that a call answers an error and changes nothing.
func leaves(t *testing.T, c *client.Client, d *desk.Desk, what any, want api.Errno, call func() api.Errno) {
	t.Helper()
	was := all(c, d)
	if e := call(); e != want {
		t.Errorf("%v: %v, not %v", what, e, want)
	}
	if now := all(c, d); now != was {
		t.Errorf("%v: %s becomes %s", what, was, now)
	}
}

// turn is that of a key from a value to another one; below 0 it is none.
func turn(key, was, is int) api.Turn {
	cell := func(val int) api.Cell {
		if val < 0 {
			return api.Cell{}
		}
		return api.Cell{Val: val, Some: true}
	}
	return api.Turn{Key: key, Was: cell(was), Is: cell(is)}
}

// Promise 27.1: a new desk shows what its client reads.
func TestNew(t *testing.T) {
	if desk.New(nil) != nil {
		t.Error("there is a desk of no client")
	}
	c, d := begin(t, spans(0, 10), 4, 5)
	if d.Open() != -1 {
		t.Errorf("Open: %d", d.Open())
	}
	shows(t, d, 4, 5)
	if seq, e := c.Issue(put(5, 7)); seq != 1 || e != api.OK {
		t.Fatalf("Issue: %d, %v", seq, e)
	}
	shows(t, d, 4, 5, 5, 7)
}

// Promises 27.1 to 27.3: a nil desk.
func TestNil(t *testing.T) {
	var d *desk.Desk
	if a, b := d.Begin(), d.Abort(); a != api.ErrArg || b != api.ErrArg {
		t.Errorf("%v, %v", a, b)
	}
	if done, e := d.Do(put(1, 1)); done || e != api.ErrArg {
		t.Errorf("Do: %v, %v", done, e)
	}
	if from, to, e := d.Commit(); from != 0 || to != 0 || e != api.ErrArg {
		t.Errorf("Commit: %d, %d, %v", from, to, e)
	}
	if d.Open() != -1 || d.Show() != nil || d.Watch() != nil || d.Preview() != nil {
		t.Errorf("%d, %v, %v, %v", d.Open(), d.Show(), d.Watch(), d.Preview())
	}
	if out, more, e := d.Page(-1, 1); out != nil || more || e != api.ErrArg {
		t.Errorf("Page: %v, %v, %v", out, more, e)
	}
	for _, on := range [][]api.Span{nil, spans(0, 5)} {
		if g, e := d.Total(on); g != (api.Group{}) || e != api.ErrArg {
			t.Errorf("Total: %v, %v", g, e)
		}
		if l, e := d.Groups(on, 5); l != nil || e != api.ErrArg {
			t.Errorf("Groups: %v, %v", l, e)
		}
	}
}

// Promise 27.1: there is one draft at a time, and it begins without mutations.
func TestBegin(t *testing.T) {
	c, d := begin(t, spans(0, 10))
	leaves(t, c, d, "Abort", api.ErrNone, d.Abort)
	for range 3 {
		drafts(t, d)
		leaves(t, c, d, "Begin", api.ErrThere, d.Begin)
		does(t, d, put(5, 7), add(5, 1))
		leaves(t, c, d, "Begin", api.ErrThere, d.Begin)
		if e := d.Abort(); e != api.OK || d.Open() != -1 {
			t.Errorf("Abort: %v", e)
		}
		shows(t, d)
		leaves(t, c, d, "Abort", api.ErrNone, d.Abort)
	}
}

// Promise 27.1: Do tells whether a mutation does not fail on what is shown before; one that fails is drafted, too.
func TestDo(t *testing.T) {
	c, d := begin(t, spans(0, 10, 20, 30), 4, 5)
	c.Issue(put(3, 2))
	drafts(t, d)
	for i, x := range []struct {
		m    api.Mut
		done bool
	}{
		{put(5, 7), true}, {add(5, -8), false}, {add(5, -7), true}, {add(5, -1), false}, {add(6, 0), true}, {cas(5, 0, 9), true}, {cas(5, 0, 8), false},
		{cas(7, api.Absent, 1), true}, {cas(7, api.Absent, 1), false}, {cas(4, 5, 6), true}, {cas(3, 2, 3), true}, {del(5, 10), true}, {cas(5, 9, 9), false},
		{move(29, 9, 3), true}, {move(9, 29, 3), true}, {add(29, api.MaxVal), true},
	} {
		was := len(c.Pending())
		if done, e := d.Do(x.m); done != x.done || e != api.OK || d.Open() != i+1 || len(c.Pending()) != was {
			t.Errorf("Do of %v: %v, %v, %d are drafted", x.m, done, e, d.Open())
		}
	}
	shows(t, d, 3, 3, 4, 6, 9, 0, 29, api.MaxVal)
	if !slices.Equal(c.Now(), pairs(3, 2, 4, 5)) {
		t.Errorf("%v is read", c.Now())
	}
}

// Promise 27.1: what can't be drafted, and the order of errors.
func TestDoErrors(t *testing.T) {
	c, d := begin(t, spans(0, 10, 20, 30))
	wrong := []api.Mut{
		{}, by(1, 0, put(5, 1)), by(0, 1, put(5, 1)), by(1, 1, put(5, 1)), by(3, 1, put(5, 1)), by(-1, 0, put(5, 1)), by(0, -1, put(5, 1)), by(0, 2, put(5, 1)),
		put(), put(5, api.MaxVal+1), put(5, 1, 5, 2), put(6, 1, 5, 2), move(5, 5, 1), move(5, 6, -1), del(5, 5), del(6, 5),
		{Kind: api.MutAdd, Pairs: pairs(5, 1), Old: 1}, {Kind: 6, Pairs: pairs(5, 1)}, {Kind: api.MutPut, Pairs: pairs(5, 1), Over: api.Span{Hi: 1}},
		put(10, 1), add(19, 1), add(30, 1), add(-1, 1), add(api.MaxKey, 1), put(5, 1, 10, 1), move(9, 10, 1), move(10, 9, 1), del(5, 11), del(9, 21), del(0, api.MaxKey),
	}
	refuses := func(m api.Mut, want api.Errno) {
		t.Helper()
		leaves(t, c, d, m, want, func() api.Errno {
			done, e := d.Do(m)
			if done {
				t.Errorf("Do of %v is done", m)
			}
			return e
		})
	}
	for _, m := range append(wrong, put(5, 1)) {
		refuses(m, api.ErrNone)
	}
	drafts(t, d)
	for n := range desk.MaxDraft {
		for _, m := range wrong {
			refuses(m, api.ErrArg)
		}
		does(t, d, add(n%10, 1))
	}
	if desk.MaxDraft != 16 || d.Open() != 16 {
		t.Errorf("%d are drafted", d.Open())
	}
	for _, m := range wrong {
		refuses(m, api.ErrArg)
	}
	refuses(put(5, 1), api.ErrFull)
}

// Promise 27.1: no more is drafted than can be pending.
func TestDoFull(t *testing.T) {
	for _, pending := range []int{0, 47, 48, 49, 60, 63, 64} {
		c, d := begin(t, spans(0, 10))
		for range pending {
			c.Issue(add(5, 1))
		}
		drafts(t, d)
		most := min(16, 64-pending)
		for range most {
			does(t, d, add(5, 1))
		}
		for _, m := range []api.Mut{add(10, 1), by(1, 0, add(5, 1))} {
			leaves(t, c, d, m, api.ErrArg, func() api.Errno { _, e := d.Do(m); return e })
		}
		leaves(t, c, d, pending, api.ErrFull, func() api.Errno { _, e := d.Do(add(5, 1)); return e })
		if most == 0 {
			continue
		}
		if from, to, e := d.Commit(); from != pending+1 || to != pending+most || e != api.OK || len(c.Pending()) != pending+most {
			t.Errorf("Commit: %d, %d, %v", from, to, e)
		}
	}
}

// Promise 27.2: what is drafted is issued, in order, and there is no draft any more.
func TestCommit(t *testing.T) {
	c, d := begin(t, spans(0, 10))
	c.Issue(put(1, 1))
	l := []api.Mut{put(5, 7), add(5, -8), del(1, 2), move(5, 6, 3), cas(7, api.Absent, 2)}
	drafts(t, d, l...)
	shown := d.Show()
	from, to, e := d.Commit()
	if from != 2 || to != 6 || e != api.OK || d.Open() != -1 || !slices.Equal(d.Show(), shown) || !slices.Equal(c.Now(), shown) {
		t.Errorf("Commit: %d, %d, %v; %s", from, to, e, all(c, d))
	}
	for i, m := range c.Pending()[1:] {
		if fmt.Sprint(m) != fmt.Sprint(by(3, i+2, l[i])) {
			t.Errorf("%v is issued, not %v", m, l[i])
		}
	}
	drafts(t, d, put(2, 2))
	if from, to, e := d.Commit(); from != 7 || to != 7 || e != api.OK || len(c.Pending()) != 7 {
		t.Errorf("Commit: %d, %d, %v", from, to, e)
	}
	shows(t, d, 2, 2, 5, 4, 6, 3, 7, 2)
	drafts(t, d)
	shows(t, d, 2, 2, 5, 4, 6, 3, 7, 2)
}

// Promise 27.2: what can't be committed stays drafted.
func TestCommitErrors(t *testing.T) {
	c, d := begin(t, spans(0, 10))
	commit := func() api.Errno {
		from, to, e := d.Commit()
		if e != api.OK && (from != 0 || to != 0) {
			t.Errorf("Commit: %d, %d, %v", from, to, e)
		}
		return e
	}
	leaves(t, c, d, "no draft", api.ErrNone, commit)
	drafts(t, d)
	leaves(t, c, d, "an empty one", api.ErrArg, commit)
	does(t, d, add(5, 1), add(5, 1), add(5, 1))
	for range 62 {
		c.Issue(put(1, 1))
	}
	leaves(t, c, d, "too many", api.ErrFull, commit)
	if d.Open() != 3 {
		t.Errorf("%d are drafted", d.Open())
	}
	leaves(t, c, d, "too many", api.ErrFull, func() api.Errno { _, e := d.Do(add(5, 1)); return e })
	commits(t, c, 0, 2, c.Pending()[0])
	if from, to, e := d.Commit(); from != 63 || to != 65 || e != api.OK || len(c.Pending()) != 64 {
		t.Errorf("Commit: %d, %d, %v", from, to, e)
	}
	drafts(t, d)
	leaves(t, c, d, "an empty one, and all are pending", api.ErrArg, commit)
	d.Abort()
	leaves(t, c, d, "no draft, and all are pending", api.ErrNone, commit)
}

// Promise 27.2: how many are drafted.
func TestOpen(t *testing.T) {
	_, d := begin(t, spans(0, 10))
	for i, n := range []int{-1, 0, 1, 2, -1, 0, 1, -1} {
		if d.Open() != n {
			t.Errorf("%d: %d are drafted, not %d", i, d.Open(), n)
		}
		switch {
		case n < 0:
			d.Begin()
		case i == 6:
			d.Commit()
		case n == 2:
			d.Abort()
		default:
			d.Do(put(5, 7))
		}
	}
}

// Promise 27.3: the draft stands behind what the client reads, and what it comes to changes with that; only followed keys are shown.
func TestShow(t *testing.T) {
	c, d := begin(t, spans(0, 10, 20, 30), 4, 5, 20, 1)
	drafts(t, d, add(5, -3), move(4, 25, 2), cas(6, 1, 2))
	shows(t, d, 4, 3, 20, 1, 25, 2)
	c.Issue(put(5, 4, 6, 1))
	shows(t, d, 4, 3, 5, 1, 6, 2, 20, 1, 25, 2)
	commits(t, c, 0, 5, by(7, 1, put(4, 10, 6, 9, 12, 9)), by(7, 2, del(15, 25)))
	shows(t, d, 4, 8, 5, 1, 6, 2, 25, 2)
	commits(t, c, 2, 7, by(7, 3, put(6, 9)), c.Pending()[0], by(8, 1, put(6, 3)))
	shows(t, d, 4, 8, 5, 1, 6, 3, 25, 2)
}

// Promise 27.3: pages of what is shown.
func TestPage(t *testing.T) {
	c, d := begin(t, spans(0, 10, 20, 3000), 4, 5, 20, 1)
	c.Issue(put(2, 9))
	drafts(t, d, put(5, 7), del(20, 21), put(2999, 3))
	for _, x := range []struct {
		after, limit int
		want         []api.Pair
		more         bool
	}{
		{-1, 1, pairs(2, 9), true}, {-1, 3, pairs(2, 9, 4, 5, 5, 7), true}, {-1, 4, pairs(2, 9, 4, 5, 5, 7, 2999, 3), false}, {2, 1, pairs(4, 5), true},
		{4, 2, pairs(5, 7, 2999, 3), false}, {3, 1, pairs(4, 5), true}, {2999, 5, nil, false}, {api.MaxKey - 1, 500, nil, false}, {2998, 500, pairs(2999, 3), false},
	} {
		if out, more, e := d.Page(x.after, x.limit); !slices.Equal(out, x.want) || more != x.more || e != api.OK {
			t.Errorf("Page(%d, %d): %v, %v, %v", x.after, x.limit, out, more, e)
		}
	}
	for _, x := range [][2]int{{-2, 1}, {api.MaxKey, 1}, {-1, 0}, {-1, -1}, {-1, scan.MaxLimit + 1}, {math.MinInt, 1}, {math.MaxInt, 1}, {0, math.MinInt}, {0, math.MaxInt}} {
		if out, more, e := d.Page(x[0], x[1]); out != nil || more || e != api.ErrArg {
			t.Errorf("Page(%d, %d): %v, %v, %v", x[0], x[1], out, more, e)
		}
	}
}

// outside are lists that are no set of keys of 0..10 and 20..30.
func outside() [][]api.Span {
	return [][]api.Span{
		spans(0, 11), spans(-1, 5), spans(9, 21), spans(10, 11), spans(19, 20), spans(30, 31), spans(0, api.MaxKey), spans(0, api.MaxKey+1),
		spans(5, 6, 10, 11), spans(5, 5), spans(6, 5), spans(5, 6, 6, 7), spans(6, 7, 1, 2), spans(1, 3, 2, 4),
	}
}

// Promise 27.3: the totals of what is shown.
func TestTotal(t *testing.T) {
	c, d := begin(t, spans(0, 10, 20, 30), 4, 5, 20, 1)
	c.Issue(put(2, 9))
	drafts(t, d, put(5, 7), add(20, 3))
	for _, x := range []struct {
		on   []api.Span
		want api.Group
	}{
		{spans(0, 10, 20, 30), api.Group{N: 4, Sum: 25, Least: 4, Most: 9}}, {spans(0, 3, 5, 6), api.Group{N: 2, Sum: 16, Least: 7, Most: 9}},
		{spans(20, 21), api.Group{N: 1, Sum: 4, Least: 4, Most: 4}}, {spans(21, 30), api.Group{}}, {nil, api.Group{}}, {[]api.Span{}, api.Group{}},
	} {
		if g, e := d.Total(x.on); g != x.want || e != api.OK {
			t.Errorf("Total on %v: %v, %v", x.on, g, e)
		}
	}
	for _, on := range outside() {
		if g, e := d.Total(on); g != (api.Group{}) || e != api.ErrArg {
			t.Errorf("Total on %v: %v, %v", on, g, e)
		}
	}
}

// Promise 27.3: the groups of what is shown.
func TestGroups(t *testing.T) {
	c, d := begin(t, spans(0, 10, 20, 30), 4, 5, 20, 1)
	c.Issue(put(2, 9))
	drafts(t, d, put(5, 7), add(20, 3))
	for _, x := range []struct {
		on    []api.Span
		width int
		want  []api.Group
	}{
		{spans(0, 10, 20, 30), 5, []api.Group{{Key: 0, N: 2, Sum: 14, Least: 5, Most: 9}, {Key: 5, N: 1, Sum: 7, Least: 7, Most: 7}, {Key: 20, N: 1, Sum: 4, Least: 4, Most: 4}}},
		{spans(3, 10, 21, 30), 4, []api.Group{{Key: 4, N: 2, Sum: 12, Least: 5, Most: 7}}}, {spans(21, 30), 1, nil}, {nil, api.MaxKey, nil},
	} {
		if l, e := d.Groups(x.on, x.width); !slices.Equal(l, x.want) || e != api.OK {
			t.Errorf("Groups of %d on %v: %v, %v", x.width, x.on, l, e)
		}
	}
	for _, on := range append(outside(), nil, spans(0, 10)) {
		for _, width := range []int{0, -1, api.MaxKey + 1, math.MinInt, math.MaxInt} {
			if l, e := d.Groups(on, width); l != nil || e != api.ErrArg {
				t.Errorf("Groups of %d on %v: %v, %v", width, on, l, e)
			}
		}
	}
	for _, on := range outside() {
		if l, e := d.Groups(on, 5); l != nil || e != api.ErrArg {
			t.Errorf("Groups on %v: %v, %v", on, l, e)
		}
	}
}

// watches looks which turns there are since they were watched last, and that there are none behind them.
func watches(t *testing.T, d *desk.Desk, want ...api.Turn) {
	t.Helper()
	if l := d.Watch(); !slices.Equal(l, want) {
		t.Errorf("Watch: %v, not %v", l, want)
	}
	if l := d.Watch(); len(l) > 0 {
		t.Errorf("Watch: %v", l)
	}
}

// Promise 27.3: the turns between two watches, whatever they come from.
func TestWatch(t *testing.T) {
	c, d := begin(t, spans(0, 10), 4, 5)
	watches(t, d, turn(4, -1, 5))
	drafts(t, d, put(5, 7), add(4, 1))
	watches(t, d, turn(4, 5, 6), turn(5, -1, 7))
	d.Commit()
	watches(t, d)
	commits(t, c, 0, 2, by(9, 1, put(4, 8, 6, 1)))
	watches(t, d, turn(4, 6, 9), turn(6, -1, 1))
	drafts(t, d, del(0, 10))
	d.Abort()
	watches(t, d)
	drafts(t, d, del(0, 10))
	watches(t, d, turn(4, 9, -1), turn(5, 7, -1), turn(6, 1, -1))
	d.Abort()
	watches(t, d, turn(4, -1, 9), turn(5, -1, 7), turn(6, -1, 1))
	drafts(t, d, put(4, 1))
	does(t, d, put(4, 9))
	watches(t, d)
}

// Promise 27.3: the turns from what the client reads to what is shown.
func TestPreview(t *testing.T) {
	c, d := begin(t, spans(0, 10), 4, 5)
	previews := func(want ...api.Turn) {
		t.Helper()
		for range 2 {
			if l := d.Preview(); !slices.Equal(l, want) {
				t.Errorf("Preview: %v, not %v", l, want)
			}
		}
	}
	previews()
	drafts(t, d)
	previews()
	does(t, d, put(5, 7))
	previews(turn(5, -1, 7))
	does(t, d, add(5, -8), del(3, 5))
	previews(turn(4, 5, -1), turn(5, -1, 7))
	c.Issue(put(5, 3, 6, 1))
	previews(turn(4, 5, -1), turn(5, 3, 7))
	d.Commit()
	previews()
}

// Promise 27.4: what a draft shows is what is read when it is committed; one that is let go leaves no trace.
func TestTrace(t *testing.T) {
	for _, commit := range []bool{false, true} {
		c, d := begin(t, spans(0, 10), 4, 5)
		c.Issue(put(1, 1))
		was := all(c, d)
		drafts(t, d, put(5, 7), move(4, 1, 9), cas(3, 0, 0), add(5, -8))
		shown, preview, read := d.Show(), d.Preview(), c.Now()
		if !commit {
			d.Abort()
			if now := all(c, d); now != was {
				t.Errorf("%s becomes %s", was, now)
			}
			continue
		}
		d.Commit()
		if l, _ := delta.Between(read, c.Now()); !slices.Equal(c.Now(), shown) || !slices.Equal(l, preview) {
			t.Errorf("%v is read, and %v was shown; %v was the preview", c.Now(), shown, preview)
		}
	}
}

// Promises 27.1 to 27.3: the chapter's example.
func TestExample(t *testing.T) {
	x, _ := chart.First(1, 1)
	c := client.New(3, spans(0, 10), x)
	d := desk.New(c)
	drafts(t, d, put(5, 7))
	shows(t, d, 5, 7)
	if val, some, e := c.Read(5); val != 0 || some || e != api.OK {
		t.Errorf("Read: %d, %v, %v", val, some, e)
	}
	if from, to, e := d.Commit(); from != 1 || to != 1 || e != api.OK {
		t.Errorf("Commit: %d, %d, %v", from, to, e)
	}
	if val, some, e := c.Read(5); val != 7 || !some || e != api.OK {
		t.Errorf("Read: %d, %v, %v", val, some, e)
	}
}
