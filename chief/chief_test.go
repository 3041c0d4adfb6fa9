package chief_test

import (
	"fmt"
	"math"
	"slices"
	"testing"

	"splice/api"
	"splice/chart"
	"splice/chief"
	"splice/cksum"
	"splice/core"
	"splice/rec"
	"splice/slab"
	"splice/vint"
	"splice/wal"
)

// first is the first chart for so many nodes and shards.
func first(nodes, shards int) api.Chart {
	x, _ := chart.First(nodes, shards)
	return x
}

// same tells whether two things are told alike: lists that are nil and empty ones are.
func same(a, b any) bool {
	return fmt.Sprint(a) == fmt.Sprint(b)
}

// span is the keys from one up to another.
func span(lo, hi int) api.Span {
	return api.Span{Lo: lo, Hi: hi}
}

func split(id, at int) api.Change {
	return api.Change{Kind: api.Split, ID: id, At: at}
}

func merge(id int) api.Change {
	return api.Change{Kind: api.Merge, ID: id}
}

func shift(id, at int) api.Change {
	return api.Change{Kind: api.Shift, ID: id, At: at}
}

// open is the chief of a slab.
func open(t *testing.T, s *slab.Slab, x api.Chart) *chief.Chief {
	t.Helper()
	c, e := chief.Open(s, x)
	if c == nil || e != api.OK {
		t.Fatalf("Open: %v", e)
	}
	return c
}

// fresh is a new chief on 100 blocks: the shards 1 and 3 are at the node 0, 2 and 4 at the node 1.
func fresh(t *testing.T) (*slab.Slab, *chief.Chief) {
	t.Helper()
	s := slab.New(100)
	return s, open(t, s, first(2, 4))
}

// side is a new chief whose four shards are all at the node 0.
func side(t *testing.T) (*slab.Slab, *chief.Chief) {
	t.Helper()
	s := slab.New(100)
	return s, open(t, s, first(1, 4))
}

// show is all that is asked of a chief.
func show(c *chief.Chief) string {
	return fmt.Sprint(c.Chart(), c.Busy(), c.Heirs(), c.Tick(), c.Down())
}

// changes starts a change, which must go well.
func changes(t *testing.T, c *chief.Chief, x api.Change) {
	t.Helper()
	if e := c.Change(x); e != api.OK || !c.Busy() {
		t.Fatalf("Change %v: %v", x, e)
	}
}

// takes lets a chief take a note, which must go well.
func takes(t *testing.T, c *chief.Chief, n api.Note) {
	t.Helper()
	if e := c.Take(n); e != api.OK {
		t.Fatalf("Take of %v: %v", n, e)
	}
}

// leaves looks that a call answers an error, or api.OK, and changes nothing, neither what is asked of the chief nor its log.
func leaves(t *testing.T, s *slab.Slab, c *chief.Chief, what any, want api.Errno, call func() api.Errno) {
	t.Helper()
	was, blocks := show(c), content(s)
	if e := call(); e != want {
		t.Errorf("%v: %v, not %v", what, e, want)
	}
	if now := show(c); now != was {
		t.Errorf("%v: %s becomes %s", what, was, now)
	}
	if now := content(s); now != blocks {
		t.Errorf("%v: the slab has %q, and had %q", what, now, blocks)
	}
}

// content is all that a slab has; nothing, if it is down.
func content(s *slab.Slab) string {
	l := make([]string, s.Blocks())
	for i := range l {
		l[i], _ = s.Read(i)
	}
	return fmt.Sprintf("%q %v", l, s.Loose())
}

func sealed(l ...api.Core) api.Note {
	return api.Note{Kind: api.NoteSealed, Cores: l}
}

func begun(id int) api.Note {
	return api.Note{Kind: api.NoteBegun, From: id}
}

// asleep is a sealed core of the shard of a number on a chart, with some values.
func asleep(t *testing.T, x api.Chart, id, clock int) api.Core {
	t.Helper()
	s, is := chart.Find(x, id)
	if !is {
		t.Fatalf("no shard %d on %v", id, x)
	}
	lo, hi := s.Keys.Lo, s.Keys.Hi
	m := api.Mut{Client: 2, Seq: id, Kind: api.MutPut, Pairs: []api.Pair{{Key: lo + 1, Val: id}}}
	return api.Core{
		ID: id, Keys: s.Keys, Clock: clock, Frozen: true, Sealed: true,
		Base:  []api.Pair{{Key: lo, Val: 10 * id}, {Key: hi - 1, Val: -id}},
		Log:   []api.Entry{{M: m, Time: clock, Done: true}},
		Known: []api.Known{{Client: 2, Seq: id, Time: clock, Done: true}, {Client: 5, Seq: 1, Time: 3}},
	}
}

// heirs are those of cores, for fresh shards.
func heirs(t *testing.T, l []api.Core, fresh ...api.Shard) []api.Core {
	t.Helper()
	h, e := core.Heirs(l, fresh)
	if e != api.OK {
		t.Fatalf("Heirs of %v: %v", l, e)
	}
	return h
}

// text is that of a chief, with at most one change.
func text(x api.Chart, change []api.Change, heirs ...api.Core) string {
	s := vint.Text(chart.Text(x)) + vint.Flag(len(change) > 0)
	for _, c := range change {
		s += vint.Num(c.Kind) + vint.Num(c.ID) + vint.Num(c.At)
	}
	s += vint.Num(len(heirs))
	for _, h := range heirs {
		s += vint.Text(rec.Core(h))
	}
	return s
}

// idle is the text of a chief without a change in progress.
func idle(x api.Chart) string {
	return text(x, nil)
}

// doing is the text of a chief with a change in progress.
func doing(x api.Chart, c api.Change, heirs ...api.Core) string {
	return text(x, []api.Change{c}, heirs...)
}

// stored is a slab of so many blocks with a text and records.
func stored(t *testing.T, blocks int, text string, records ...string) *slab.Slab {
	t.Helper()
	s := slab.New(blocks)
	l, _, _, e := wal.Open(s)
	if e == api.OK && text != "" {
		e = l.Keep(text)
	}
	for _, r := range records {
		if e == api.OK {
			e = l.Append(r)
		}
	}
	if e == api.OK {
		e = l.Sync()
	}
	if e != api.OK {
		t.Fatalf("stored: %v", e)
	}
	return s
}

// holds tests what the log of a slab has, and that all of it is durable.
func holds(t *testing.T, s *slab.Slab, text string, records ...string) {
	t.Helper()
	_, got, l, e := wal.Open(s)
	if e != api.OK || got != text || !slices.Equal(l, records) {
		t.Errorf("the log has %q, %q, %v, not %q, %q", got, l, e, text, records)
	}
	if len(s.Loose()) > 0 {
		t.Errorf("not durable: %v", s.Loose())
	}
}

// block is that of a text's only part, with its N.
func block(turn, n int, text string) string {
	b, _ := cksum.Frame(vint.Num(turn) + vint.Num(n) + vint.Num(0) + vint.Num(1) + text)
	return b
}

// Promise 17.1: a new chief has the first chart, and its text is kept.
func TestOpenNew(t *testing.T) {
	for _, blocks := range []int{16, 100, api.MaxBlocks} {
		x := first(2, 3)
		s := slab.New(blocks)
		c := open(t, s, x)
		if c.Busy() || c.Down() || len(c.Heirs()) > 0 || !same(c.Chart(), x) {
			t.Errorf("%d blocks: %s", blocks, show(c))
		}
		holds(t, s, idle(x))
	}
}

// Promise 17.1: what can't be opened, and the order of errors.
func TestOpenErrors(t *testing.T) {
	x, bad := first(2, 2), first(2, 2)
	bad.L[1].Keys.Lo++
	fail := func(s *slab.Slab) *slab.Slab {
		s.Fail(api.Loss{Torn: -1})
		return s
	}
	trip := func(n int) *slab.Slab {
		s := slab.New(64)
		s.Trip(n, api.Loss{Torn: -1})
		return s
	}
	late, last, wrong := slab.New(64), slab.New(16), stored(t, 64, "x")
	late.Write(9, block(1<<40, 0, ""))
	last.Write(0, block(1, 1<<40, ""))
	last.Flush()
	for i, c := range []struct {
		s    *slab.Slab
		x    api.Chart
		want api.Errno
	}{
		{slab.New(64), bad, api.ErrArg}, {slab.New(64), api.Chart{}, api.ErrArg}, {nil, bad, api.ErrArg}, {fail(slab.New(64)), bad, api.ErrArg},
		{late, bad, api.ErrArg}, {wrong, bad, api.ErrArg}, {last, bad, api.ErrArg}, {stored(t, 64, idle(x)), bad, api.ErrArg},
		{nil, x, api.ErrArg}, {slab.New(15), x, api.ErrArg}, {fail(slab.New(15)), x, api.ErrArg},
		{fail(slab.New(64)), x, api.ErrDown}, {fail(stored(t, 64, "x")), x, api.ErrDown}, {late, x, api.ErrLong}, {wrong, x, api.ErrForm},
		{last, x, api.ErrFull}, {trip(1), x, api.ErrDown}, {trip(2), x, api.ErrDown}, {trip(3), x, api.OK}, {slab.New(16), first(5, 24), api.OK},
	} {
		was := content(c.s)
		d, e := chief.Open(c.s, c.x)
		if e != c.want || (d == nil) != (e != api.OK) {
			t.Errorf("%d: %v, %v, not %v", i, d, e, c.want)
		}
		if now := content(c.s); e != api.OK && e != api.ErrDown && now != was {
			t.Errorf("%d: %s becomes %s", i, was, now)
		}
	}
}

// Promise 17.1: the last record counts, or the text if there is none, whatever the first chart is; neither the records ahead of it nor the text do then.
func TestOpenStored(t *testing.T) {
	x := first(1, 3)
	y, old, fresh, _ := chart.Apply(x, merge(2))
	l := heirs(t, []api.Core{asleep(t, x, 2, 40), asleep(t, x, 3, 50)}, fresh...)
	wide := first(5, 24)
	wide.Epoch, wide.Next, wide.L[23].ID = api.MaxSeq, api.MaxShard+1, api.MaxShard
	for i, c := range []struct {
		text    string
		records []string
		x       api.Chart
		busy    bool
		heirs   []api.Core
	}{
		{idle(y), nil, y, false, nil}, {doing(x, merge(2)), nil, x, true, nil}, {doing(x, merge(2), l...), nil, x, true, l},
		{"", []string{idle(y)}, y, false, nil}, {"x", []string{"", "x", idle(y)}, y, false, nil}, {idle(y), []string{doing(x, merge(2), l...)}, x, true, l},
		{doing(x, merge(2)), []string{idle(x), doing(x, split(1, 5))}, x, true, nil}, {idle(x), []string{doing(x, merge(2), l...), idle(y)}, y, false, nil},
		{"", []string{idle(wide)}, wide, false, nil}, {doing(x, api.Change{Kind: api.Merge, ID: 2, At: math.MaxInt}), nil, x, true, nil},
	} {
		s := stored(t, 100, c.text, c.records...)
		d := open(t, s, first(5, 24))
		if !same(d.Chart(), c.x) || d.Busy() != c.busy || !same(d.Heirs(), c.heirs) || d.Down() {
			t.Errorf("%d: %s", i, show(d))
		}
		holds(t, s, c.text, c.records...)
	}
	c := open(t, stored(t, 100, doing(x, merge(2))), first(5, 24))
	takes(t, c, sealed(asleep(t, x, 2, 40), asleep(t, x, 3, 50)))
	takes(t, c, begun(fresh[0].ID))
	if c.Busy() || !same(c.Chart(), y) || len(old) != 2 {
		t.Errorf("the change goes on: %s", show(c))
	}
}

// Promise 17.1: a text, or a last record, that is not that of a chief.
func TestOpenForm(t *testing.T) {
	x, y := first(1, 2), first(2, 2)
	_, _, fresh, _ := chart.Apply(x, split(1, 100))
	l := heirs(t, []api.Core{asleep(t, x, 1, 40)}, fresh...)
	ok := doing(x, split(1, 100), l...)
	other := func(do func(h *api.Core)) string {
		h := l[1]
		h.Base, h.Known = slices.Clone(h.Base), slices.Clone(h.Known)
		do(&h)
		return doing(x, split(1, 100), l[0], h)
	}
	m := api.Mut{Client: 5, Seq: 1, Kind: api.MutPut, Pairs: []api.Pair{{Key: 150, Val: 1}}}
	for i, s := range []string{
		"x", "\x00", ok + "x", ok[:len(ok)-1], "x" + ok, idle(x) + "\x00", idle(x)[:len(idle(x))-1],
		vint.Text("") + "\x00\x00", vint.Text(chart.Text(x)+"x") + "\x00\x00", vint.Text(chart.Text(x)[1:]) + "\x00\x00",
		vint.Text(chart.Text(x)), vint.Text(chart.Text(x)) + "\x02\x00", vint.Text(chart.Text(x)) + "\x01\x01\x01", vint.Text(chart.Text(x)) + "\x01\x01\x01\x80\x00\x00",
		doing(x, split(1, 0)), doing(x, split(3, 100)), doing(x, split(0, 100)), doing(x, api.Change{Kind: 4, ID: 1, At: 1}), doing(x, api.Change{ID: 1, At: 1}),
		doing(x, shift(1, api.MaxNodes)), doing(x, merge(2)), doing(y, merge(1)),
		text(x, nil, l...), text(x, nil, l[0]), doing(x, split(1, 100), l[0]), doing(x, split(1, 100), l[1], l[0]), doing(x, split(1, 100), l[0], l[0]),
		doing(x, split(1, 100), l[0], l[1], l[1]), doing(x, shift(1, 0), l...), doing(x, split(1, 101), l...), doing(x, split(2, 3000), l...),
		doing(x, split(1, 100))[:len(doing(x, split(1, 100)))-1] + vint.Num(1<<62), doing(x, split(1, 100))[:len(doing(x, split(1, 100)))-1] + vint.Num(2),
		doing(x, split(1, 100))[:len(doing(x, split(1, 100)))-1] + vint.Num(2) + vint.Text("") + vint.Text(""),
		doing(x, split(1, 100))[:len(doing(x, split(1, 100)))-1] + vint.Num(2) + vint.Text(rec.Core(l[0])) + vint.Text(rec.Core(l[1])+"x"),
		other(func(h *api.Core) { h.Clock++ }), other(func(h *api.Core) { h.Frozen = true }), other(func(h *api.Core) { h.Frozen, h.Sealed = true, true }),
		other(func(h *api.Core) { h.Known[0].Time++ }), other(func(h *api.Core) { h.Known = h.Known[:1] }), other(func(h *api.Core) { h.Base = []api.Pair{{Key: 99}} }),
		other(func(h *api.Core) { h.Log = []api.Entry{{M: m, Time: 3}} }), other(func(h *api.Core) { h.Held = []api.Wait{{M: m, Time: 3}} }),
		other(func(h *api.Core) { h.Keys.Lo++ }), other(func(h *api.Core) { h.Keys.Hi++ }), other(func(h *api.Core) { h.ID++ }),
	} {
		for _, c := range []*slab.Slab{stored(t, 100, s), stored(t, 100, idle(x), s), stored(t, 100, "", ok, s)} {
			was := content(c)
			if d, e := chief.Open(c, x); d != nil || e != api.ErrForm || content(c) != was {
				t.Errorf("%d: %v, %v", i, d, e)
			}
		}
	}
	for _, s := range []*slab.Slab{stored(t, 100, idle(x), ""), stored(t, 100, "", "")} {
		if d, e := chief.Open(s, x); d != nil || e != api.ErrForm {
			t.Errorf("an empty record: %v, %v", d, e)
		}
	}
	for _, s := range []string{ok, other(func(h *api.Core) {}), other(func(h *api.Core) { h.Base = nil }), idle(x), doing(x, split(1, 100))} {
		open(t, stored(t, 100, s), y)
	}
}

// Promise 17.1: heirs that can't be cores, whoever made them: what they know does not rise.
func TestOpenHeirs(t *testing.T) {
	x := first(1, 2)
	_, _, fresh, _ := chart.Apply(x, shift(1, 3))
	h := heirs(t, []api.Core{asleep(t, x, 1, 40)}, fresh...)[0]
	open(t, stored(t, 100, doing(x, shift(1, 3), h)), x)
	h.Known[0], h.Known[1] = h.Known[1], h.Known[0]
	if c, e := chief.Open(stored(t, 100, doing(x, shift(1, 3), h)), x); c != nil || e != api.ErrForm {
		t.Errorf("%v, %v", c, e)
	}
}

// Promises 17.1 to 17.4: a nil chief.
func TestNil(t *testing.T) {
	var c *chief.Chief
	for kind := range 15 {
		if e := c.Take(api.Note{Kind: kind}); e != api.ErrArg {
			t.Errorf("Take of kind %d: %v", kind, e)
		}
		if e := c.Change(api.Change{Kind: kind - 5, ID: 1}); e != api.ErrArg {
			t.Errorf("Change of kind %d: %v", kind-5, e)
		}
	}
	if c.Tick() != nil || c.Busy() || c.Heirs() != nil || !c.Down() || !same(c.Chart(), api.Chart{}) {
		t.Errorf("%s", show(c))
	}
}

// Promise 17.2: a change is in progress, and is stored; another one has to wait.
func TestChange(t *testing.T) {
	for _, x := range []api.Change{split(1, 100), split(4, 4095), merge(1), merge(3), shift(2, 1), shift(2, 0), shift(3, 4), {Kind: api.Merge, ID: 2, At: 77}} {
		s, c := side(t)
		changes(t, c, x)
		if !same(c.Chart(), first(1, 4)) || len(c.Heirs()) > 0 || c.Down() {
			t.Errorf("%v: %s", x, show(c))
		}
		holds(t, s, idle(first(1, 4)), doing(first(1, 4), x))
		for _, y := range []api.Change{x, shift(1, 2), {}, {Kind: 9}, merge(4), split(9, 9), split(1, 0)} {
			leaves(t, s, c, y, api.ErrBusy, func() api.Errno { return c.Change(y) })
		}
		if d := open(t, s, first(5, 5)); show(d) != show(c) {
			t.Errorf("opened again: %s, not %s", show(d), show(c))
		}
	}
}

// Promise 17.2: what a chart can't become, and merges of what is at two nodes.
func TestChangeErrors(t *testing.T) {
	s, c := fresh(t)
	for _, x := range []struct {
		c    api.Change
		want api.Errno
	}{
		{api.Change{}, api.ErrArg}, {api.Change{Kind: 4, ID: 1, At: 1}, api.ErrArg}, {api.Change{Kind: -1, ID: 1, At: 1}, api.ErrArg},
		{shift(1, -1), api.ErrArg}, {shift(1, api.MaxNodes), api.ErrArg}, {shift(9, api.MaxNodes), api.ErrArg}, {shift(9, 1), api.ErrNone},
		{split(1, 0), api.ErrArg}, {split(1, 1024), api.ErrArg}, {split(1, -1), api.ErrArg}, {split(2, 1024), api.ErrArg}, {split(0, 5), api.ErrNone}, {split(5, 5), api.ErrNone},
		{split(math.MinInt, 5), api.ErrNone}, {merge(4), api.ErrNone}, {merge(5), api.ErrNone}, {merge(0), api.ErrNone},
		{merge(1), api.ErrArg}, {merge(2), api.ErrArg}, {merge(3), api.ErrArg}, {api.Change{Kind: api.Merge, ID: 3, At: math.MinInt}, api.ErrArg},
	} {
		leaves(t, s, c, x.c, x.want, func() api.Errno { return c.Change(x.c) })
		if c.Busy() {
			t.Fatalf("%v is in progress", x.c)
		}
	}
	wide := first(1, api.MaxShards)
	s = slab.New(100)
	c = open(t, s, wide)
	leaves(t, s, c, "too many", api.ErrLong, func() api.Errno { return c.Change(split(1, 5)) })
	wide.Epoch = api.MaxSeq
	s = slab.New(100)
	c = open(t, s, wide)
	leaves(t, s, c, "too late", api.ErrLong, func() api.Errno { return c.Change(merge(1)) })
	for i := range wide.L { // all at other nodes: too late goes first
		wide.L[i].Node = i % 3
	}
	s = slab.New(100)
	c = open(t, s, wide)
	leaves(t, s, c, "too late, and at two nodes", api.ErrLong, func() api.Errno { return c.Change(merge(1)) })
}

// Promise 17.2: the At of a merge does not count, also if it is no number.
func TestChangeAt(t *testing.T) {
	for _, at := range []int{-1, math.MinInt, -7, 0, 5, math.MaxInt} {
		s, c := side(t)
		changes(t, c, api.Change{Kind: api.Merge, ID: 1, At: at})
		d := open(t, s, first(1, 1))
		if show(d) != show(c) {
			t.Errorf("At %d: %s, not %s", at, show(d), show(c))
		}
		takes(t, d, sealed(asleep(t, first(1, 4), 1, 9), asleep(t, first(1, 4), 2, 9)))
		takes(t, d, begun(5))
		if next, _, _, _ := chart.Apply(first(1, 4), merge(1)); !same(d.Chart(), next) {
			t.Errorf("At %d: %v", at, d.Chart())
		}
	}
}

// Promises 17.2 and 17.3: a chief that is down says so ahead of all else.
func TestDown(t *testing.T) {
	for i := range 2 {
		s, c := fresh(t)
		if i == 1 {
			changes(t, c, shift(1, 1))
		}
		x, busy := c.Chart(), c.Busy()
		s.Fail(api.Loss{Torn: -1})
		if !c.Down() || c.Tick() != nil {
			t.Errorf("%s", show(c))
		}
		for _, y := range []api.Change{{}, shift(1, 1), shift(9, 1), merge(1)} {
			if e := c.Change(y); e != api.ErrDown {
				t.Errorf("Change of %v: %v", y, e)
			}
		}
		for kind := range 15 {
			if e := c.Take(api.Note{Kind: kind}); e != api.ErrDown {
				t.Errorf("Take of kind %d: %v", kind, e)
			}
		}
		if !same(c.Chart(), x) || c.Busy() != busy || len(c.Heirs()) > 0 {
			t.Errorf("%s", show(c))
		}
		s.Wake()
		if e := c.Change(shift(1, 1)); e != api.ErrDown || !c.Down() || c.Tick() != nil {
			t.Errorf("its slab is up again: %v, %s", e, show(c))
		}
		if d := open(t, s, first(1, 1)); !same(d.Chart(), x) || d.Busy() != busy || d.Down() {
			t.Errorf("opened again: %s", show(d))
		}
	}
}

// Promises 17.2 and 17.3: a chief whose slab goes down on the way has not changed, and goes on no more.
func TestTrip(t *testing.T) {
	x := first(1, 4)
	for step, call := range []func(c *chief.Chief) api.Errno{
		func(c *chief.Chief) api.Errno { return c.Change(merge(1)) },
		func(c *chief.Chief) api.Errno { return c.Take(sealed(asleep(t, x, 1, 7), asleep(t, x, 2, 9))) },
		func(c *chief.Chief) api.Errno { return c.Take(begun(5)) },
	} {
		for _, l := range []api.Loss{{Torn: -1}, {Torn: -1, Keep: []int{50, 51, 52, 53, 54}}} {
			for n := 1; ; n++ {
				s, c := side(t)
				if step > 0 {
					changes(t, c, merge(1))
				}
				if step > 1 {
					takes(t, c, sealed(asleep(t, x, 1, 7), asleep(t, x, 2, 9)))
				}
				was := fmt.Sprint(c.Chart(), c.Busy(), c.Heirs())
				s.Trip(n, l)
				if e := call(c); e == api.OK && n == 3 {
					break
				} else if e != api.ErrDown {
					t.Fatalf("step %d, trip %d: %v", step, n, e)
				}
				s.Wake()
				if now := fmt.Sprint(c.Chart(), c.Busy(), c.Heirs()); now != was || !c.Down() || c.Tick() != nil {
					t.Errorf("step %d, trip %d: %s becomes %s", step, n, was, show(c))
				}
				if e := c.Change(merge(1)); e != api.ErrDown {
					t.Errorf("step %d, trip %d: %v", step, n, e)
				}
				if now := open(t, s, x); (fmt.Sprint(now.Chart(), now.Busy(), now.Heirs()) == was) != (len(l.Keep) == 0) {
					t.Errorf("step %d, trip %d, keeping %v: %s becomes %s", step, n, l.Keep, was, show(now))
				}
			}
		}
	}
}

// Promise 17.3: the cores of the old shards, in order, are the heirs' fathers; these are stored.
func TestSealed(t *testing.T) {
	x := first(1, 4)
	for _, c := range []struct {
		x     api.Change
		old   []int
		clock []int
	}{
		{split(2, 1100), []int{2}, []int{9}}, {shift(4, 3), []int{4}, []int{1}}, {merge(2), []int{2, 3}, []int{9, 5}}, {merge(1), []int{1, 2}, []int{5, 9}},
	} {
		s, d := side(t)
		changes(t, d, c.x)
		var l []api.Core
		for i, id := range c.old {
			l = append(l, asleep(t, x, id, c.clock[i]))
		}
		_, _, fresh, _ := chart.Apply(x, c.x)
		want := heirs(t, l, fresh...)
		takes(t, d, sealed(l...))
		if !same(d.Heirs(), want) || !d.Busy() || !same(d.Chart(), x) {
			t.Errorf("%v: %s, not %v", c.x, show(d), want)
		}
		holds(t, s, idle(x), doing(x, c.x), doing(x, c.x, want...))
		l[0].Clock += 3
		leaves(t, s, d, "once more", api.OK, func() api.Errno { return d.Take(sealed(l...)) })
		if e := open(t, s, first(1, 1)); show(e) != show(d) {
			t.Errorf("%v: opened again: %s, not %s", c.x, show(e), show(d))
		}
	}
}

// Promise 17.3: other cores than those, and cores that can't have heirs, make none.
func TestSealedOthers(t *testing.T) {
	x := first(1, 4)
	a, b, z := asleep(t, x, 2, 7), asleep(t, x, 3, 9), asleep(t, x, 4, 9)
	with := func(c api.Core, do func(c *api.Core)) api.Core {
		do(&c)
		return c
	}
	awake := with(b, func(c *api.Core) { c.Sealed = false })
	apart := with(b, func(c *api.Core) { c.Keys, c.Base, c.Log = span(3000, 3072), nil, nil })
	wrong := with(b, func(c *api.Core) { c.Clock = -1 })
	short := with(b, func(c *api.Core) { c.Keys, c.Base, c.Log = span(2048, 3000), nil, nil })
	full := with(b, func(c *api.Core) {
		c.Log, c.Known = nil, nil
		for i := range api.MaxList {
			c.Known = append(c.Known, api.Known{Client: 9, Seq: i + 1})
		}
	})
	s, c := side(t)
	leaves(t, s, c, "no change", api.OK, func() api.Errno { return c.Take(sealed(a, b)) })
	changes(t, c, merge(2))
	for i, n := range []api.Note{
		sealed(), sealed(a), sealed(b), sealed(b, a), sealed(a, a), sealed(a, b, b), sealed(a, b, z), sealed(a, z), sealed(z, b), sealed(a, b, api.Core{}),
		sealed(a, awake), sealed(a, apart), sealed(a, wrong), sealed(a, short), sealed(a, full), sealed(api.Core{}, api.Core{}),
		{Kind: api.NoteSealed, From: 2, To: 3}, begun(5), begun(2), begun(0),
	} {
		leaves(t, s, c, i, api.OK, func() api.Errno { return c.Take(n) })
	}
	takes(t, c, api.Note{Kind: api.NoteSealed, From: 77, To: 9, Client: 4, Time: 3, Cores: []api.Core{a, b}})
	if len(c.Heirs()) != 1 || c.Heirs()[0].Clock != 9 {
		t.Errorf("%s", show(c))
	}
}

// Promise 17.3: the old shards are known by their numbers alone: if their keys are others, but all of the change, there are heirs.
func TestSealedKeys(t *testing.T) {
	x := first(1, 4)
	_, c := side(t)
	changes(t, c, merge(1))
	a, b := asleep(t, x, 1, 7), asleep(t, x, 2, 9)
	a.Keys, b.Keys, a.Base, a.Log, b.Base, b.Log = span(0, 100), span(100, 2048), nil, nil, nil, nil
	takes(t, c, sealed(a, b))
	if len(c.Heirs()) != 1 || c.Heirs()[0].Keys != span(0, 2048) {
		t.Errorf("%s", show(c))
	}
}

// Promise 17.3: the change is there when all fresh shards have begun, and that is stored; what was begun is not.
func TestBegun(t *testing.T) {
	x := first(1, 4)
	s, c := side(t)
	changes(t, c, split(2, 1100))
	a := asleep(t, x, 2, 7)
	next, _, fresh, _ := chart.Apply(x, split(2, 1100))
	leaves(t, s, c, "no heirs yet", api.OK, func() api.Errno { return c.Take(begun(5)) })
	takes(t, c, sealed(a))
	for _, id := range []int{6, 6, 2, 4, 7, 0, -1, math.MaxInt} {
		leaves(t, s, c, id, api.OK, func() api.Errno { return c.Take(begun(id)) })
	}
	d := open(t, s, first(1, 1))
	if show(d) != show(c) {
		t.Errorf("opened again: %s, not %s", show(d), show(c))
	}
	leaves(t, s, d, "6 had begun before", api.OK, func() api.Errno { return d.Take(begun(5)) })
	takes(t, d, begun(6))
	if d.Busy() || len(d.Heirs()) > 0 || !same(d.Chart(), next) {
		t.Errorf("%s", show(d))
	}
	holds(t, s, idle(x), doing(x, split(2, 1100)), doing(x, split(2, 1100), heirs(t, []api.Core{a}, fresh...)...), idle(next))
	for _, n := range []api.Note{begun(5), begun(6), begun(2), sealed(a)} {
		leaves(t, s, d, "all is done", api.OK, func() api.Errno { return d.Take(n) })
	}
	if e := open(t, s, first(1, 1)); show(e) != show(d) {
		t.Errorf("opened again: %s, not %s", show(e), show(d))
	}
	changes(t, d, merge(5))
}

// Promise 17.3: what began in one change has not begun in the next.
func TestBegunAnew(t *testing.T) {
	_, c := side(t)
	for i, x := range []api.Change{split(1, 500), merge(5), split(7, 600), shift(8, 4), shift(9, 3), merge(2)} {
		was := c.Chart()
		changes(t, c, x)
		next, old, fresh, _ := chart.Apply(was, x)
		var l []api.Core
		for _, s := range old {
			l = append(l, asleep(t, was, s.ID, 10+i))
		}
		takes(t, c, sealed(l...))
		for j, s := range fresh {
			if !c.Busy() || !same(c.Chart(), was) {
				t.Fatalf("%d of %d have begun: %s", j, len(fresh), show(c))
			}
			takes(t, c, begun(s.ID))
		}
		if c.Busy() || !same(c.Chart(), next) || c.Chart().Epoch != i+2 {
			t.Fatalf("%v: %s, not %v", x, show(c), next)
		}
	}
}

// Promise 17.3: other notes.
func TestOtherKinds(t *testing.T) {
	s, c := fresh(t)
	for i := range 3 {
		for _, kind := range []int{api.NotePush, api.NoteProp, api.NoteFinal, api.NoteAck, api.NotePull, api.NotePage, api.NoteState, api.NoteChart,
			api.NoteFreeze, api.NoteSeal, api.NoteShard, 0, 14, -1, math.MinInt, math.MaxInt} {
			n := api.Note{Kind: kind, From: 5, To: 1, Cores: []api.Core{asleep(t, first(2, 4), 1, 7)}, Chart: first(3, 3)}
			leaves(t, s, c, n, api.ErrArg, func() api.Errno { return c.Take(n) })
		}
		if i == 0 {
			changes(t, c, shift(1, 4))
		} else {
			takes(t, c, sealed(asleep(t, first(2, 4), 1, 7)))
		}
	}
}

// charts are the posts of a chart to all nodes.
func charts(x api.Chart) (l []api.Post) {
	for node := range 5 {
		l = append(l, api.Post{Node: node, N: api.Note{Kind: api.NoteChart, Chart: x}})
	}
	return l
}

// Promise 17.4: what is told, in order.
func TestTick(t *testing.T) {
	x := api.Chart{Epoch: 7, Next: 40, L: []api.Shard{{ID: 12, Keys: span(0, 10), Node: 3}, {ID: 9, Keys: span(10, 20), Node: 3}, {ID: 30, Keys: span(20, 4096), Node: 1}}}
	freeze := func(node, id int) api.Post {
		return api.Post{Node: node, N: api.Note{Kind: api.NoteFreeze, To: id}}
	}
	seal := func(node, id, other int) api.Post {
		return api.Post{Node: node, N: api.Note{Kind: api.NoteSeal, To: id, N: other}}
	}
	for _, c := range []struct {
		x     api.Change
		old   []int
		posts []api.Post
		nodes []int
	}{
		{merge(12), []int{12, 9}, []api.Post{freeze(3, 12), freeze(3, 9), seal(3, 12, 9)}, []int{3}},
		{split(30, 25), []int{30}, []api.Post{freeze(1, 30), seal(1, 30, 0)}, []int{1, 1}},
		{shift(30, 4), []int{30}, []api.Post{freeze(1, 30), seal(1, 30, 0)}, []int{4}},
		{shift(9, 3), []int{9}, []api.Post{freeze(3, 9), seal(3, 9, 0)}, []int{3}},
	} {
		d := open(t, slab.New(100), x)
		if l := d.Tick(); !same(l, charts(x)) {
			t.Errorf("no change: %v", l)
		}
		changes(t, d, c.x)
		for range 2 {
			if l := d.Tick(); !same(l, append(c.posts, charts(x)...)) {
				t.Errorf("%v: %v, not %v", c.x, l, c.posts)
			}
		}
		var old []api.Core
		for _, id := range c.old {
			old = append(old, asleep(t, x, id, 5))
		}
		takes(t, d, sealed(old...))
		var want []api.Post
		for i, h := range d.Heirs() {
			want = append(want, api.Post{Node: c.nodes[i], N: api.Note{Kind: api.NoteShard, Cores: []api.Core{h}}})
		}
		if l := d.Tick(); !same(l, append(want, charts(x)...)) || len(want) != len(c.nodes) {
			t.Errorf("%v: %v, not %v", c.x, l, want)
		}
		takes(t, d, begun(40))
		next, _, _, _ := chart.Apply(x, c.x)
		if len(c.nodes) == 2 {
			if l := d.Tick(); !same(l, append(want, charts(x)...)) {
				t.Errorf("%v, and one has begun: %v, not %v", c.x, l, want)
			}
			takes(t, d, begun(41))
		}
		if l := d.Tick(); !same(l, charts(next)) {
			t.Errorf("%v is there: %v, not %v", c.x, l, charts(next))
		}
	}
}

// Promises 17.1 to 17.4: the chapter's example.
func TestExample(t *testing.T) {
	c := open(t, slab.New(100), first(2, 2))
	changes(t, c, split(1, 100))
	l := c.Tick()
	if len(l) != 7 || l[0].Node != 0 || l[0].N.Kind != api.NoteFreeze || l[0].N.To != 1 || l[1].Node != 0 || l[1].N.Kind != api.NoteSeal || l[1].N.To != 1 {
		t.Errorf("%v", l)
	}
}

// Promises 17.2 and 17.3: when there is no room for a record, the text takes the place of all records.
func TestKeep(t *testing.T) {
	s := slab.New(16) // 8 rows
	c := open(t, s, first(1, 4))
	var records []string
	text := idle(first(1, 4))
	store := func(now string) {
		t.Helper()
		if records = append(records, now); len(records) == 9 {
			text, records = now, nil
		}
		holds(t, s, text, records...)
	}
	x := first(1, 4)
	for i := range 20 {
		change := shift(x.L[0].ID, i%5)
		changes(t, c, change)
		store(doing(x, change))
		a := api.Core{ID: x.L[0].ID, Keys: x.L[0].Keys, Clock: i, Frozen: true, Sealed: true}
		next, _, fresh, _ := chart.Apply(x, change)
		takes(t, c, sealed(a))
		store(doing(x, change, heirs(t, []api.Core{a}, fresh...)...))
		takes(t, c, begun(fresh[0].ID))
		store(idle(next))
		x = next
		if d := open(t, s, first(1, 1)); show(d) != show(c) {
			t.Fatalf("opened again: %s, not %s", show(d), show(c))
		}
	}
}

// sized is a sealed core of the shard 1, with which the text of a chief of first(1, 2) that shifts it has so many bytes.
func sized(t *testing.T, bytes int) api.Core {
	t.Helper()
	x := first(1, 2)
	_, _, fresh, _ := chart.Apply(x, shift(1, 1))
	c := api.Core{ID: 1, Keys: x.L[0].Keys, Frozen: true, Sealed: true}
	for i := range 3 {
		c.Known = append(c.Known, api.Known{Client: 1, Seq: i + 1}) // whose times make up for some bytes
	}
	left := func() int {
		return bytes - len(doing(x, shift(1, 1), heirs(t, []api.Core{c}, fresh...)...))
	}
	for left() >= 15 {
		if key := len(c.Base); key < 2000 {
			c.Base = append(c.Base, api.Pair{Key: key, Val: 1 << 39})
		} else {
			c.Known = append(c.Known, api.Known{Client: 2, Seq: len(c.Known), Time: 1 << 35})
		}
	}
	for i := 0; left() > 0; i++ {
		c.Known[i%3].Time = max(1, c.Known[i%3].Time) << 7
	}
	if left() != 0 {
		t.Fatalf("no core for %d bytes", bytes)
	}
	return c
}

// Promise 17.3: heirs that there is no room for, neither behind the records nor in their place: nothing has changed, and others may come.
func TestFull(t *testing.T) {
	x := first(1, 2)
	for _, c := range []struct {
		blocks, bytes int
		want          api.Errno
	}{
		{16, 1400, api.OK}, {16, 1401, api.ErrFull}, {17, 1600, api.OK}, {16, 800, api.OK}, {16, 3000, api.ErrFull},
		{1000, 20000, api.OK}, {1000, 20001, api.ErrFull}, {4096, 25000, api.ErrFull},
	} {
		a := sized(t, c.bytes)
		s := slab.New(c.blocks)
		d := open(t, s, x)
		changes(t, d, shift(1, 1)) // one row
		if c.want == api.OK {
			takes(t, d, sealed(a))
		} else {
			leaves(t, s, d, c, c.want, func() api.Errno { return d.Take(sealed(a)) })
			a.Base = a.Base[:9]
			takes(t, d, sealed(a))
		}
		if len(d.Heirs()) != 1 || !same(d.Heirs()[0].Base, a.Base) || !same(d.Heirs()[0].Known, a.Known) {
			t.Errorf("%d bytes: %s", c.bytes, show(d))
		}
		if again := open(t, s, x); show(again) != show(d) {
			t.Errorf("%d bytes: opened again: %s", c.bytes, show(again))
		}
		takes(t, d, begun(3))
		if d.Busy() {
			t.Errorf("%d bytes: %s", c.bytes, show(d))
		}
	}
}

// Promises 17.2 and 17.3: a log whose rows have come to the end of their numbers has no room any more, also for what has begun.
func TestLate(t *testing.T) {
	x := first(1, 2)
	a := api.Core{ID: 1, Keys: x.L[0].Keys, Frozen: true, Sealed: true}
	next, _, _, _ := chart.Apply(x, shift(1, 1))
	calls := []func(c *chief.Chief) api.Errno{
		func(c *chief.Chief) api.Errno { return c.Change(shift(1, 1)) },
		func(c *chief.Chief) api.Errno { return c.Take(sealed(a)) },
		func(c *chief.Chief) api.Errno { return c.Take(begun(3)) },
	}
	for room := range 4 {
		s := slab.New(16)
		s.Write(0, block(1, 1<<40-room, idle(x)))
		s.Flush()
		c := open(t, s, x)
		for i, call := range calls {
			if i < room {
				if e := call(c); e != api.OK {
					t.Fatalf("%d of %d: %v", i, room, e)
				}
				continue
			}
			leaves(t, s, c, fmt.Sprint(i, " of ", room), api.ErrFull, func() api.Errno { return call(c) })
			leaves(t, s, c, fmt.Sprint(i, " of ", room), api.ErrFull, func() api.Errno { return call(c) })
			break
		}
		if room == 3 && !same(c.Chart(), next) {
			t.Errorf("%s", show(c))
		}
	}
}

// Promise 17.3: of two that begin, the last one can't be stored: it has not begun, and may begin again.
func TestLateBegun(t *testing.T) {
	x := first(1, 2)
	s := slab.New(16)
	s.Write(0, block(1, 1<<40-2, idle(x)))
	s.Flush()
	c := open(t, s, x)
	changes(t, c, split(1, 5))
	takes(t, c, sealed(api.Core{ID: 1, Keys: x.L[0].Keys, Frozen: true, Sealed: true}))
	takes(t, c, begun(4))
	for range 2 {
		leaves(t, s, c, "the last one", api.ErrFull, func() api.Errno { return c.Take(begun(3)) })
		leaves(t, s, c, "the first one", api.OK, func() api.Errno { return c.Take(begun(4)) })
	}
}

// Promise 17.1, for any text and any record: what is opened is what is stored.
func FuzzOpen(f *testing.F) {
	x := first(1, 2)
	a := api.Core{ID: 1, Keys: x.L[0].Keys, Clock: 7, Frozen: true, Sealed: true, Base: []api.Pair{{Key: 99, Val: 3}}, Known: []api.Known{{Client: 1, Seq: 1, Time: 3}}}
	for _, c := range []api.Change{split(1, 100), shift(1, 3)} {
		_, _, fresh, _ := chart.Apply(x, c)
		l, _ := core.Heirs([]api.Core{a}, fresh)
		f.Add(doing(x, c), doing(x, c, l...))
		f.Add(doing(x, c, l...), "")
	}
	f.Add("", "")
	f.Add("x", idle(x))
	f.Fuzz(func(t *testing.T, s, r string) {
		if len(s) > 2000 || len(r) > 2000 {
			return
		}
		records, last := []string{r}, r
		if r == "" {
			records, last = nil, s
		}
		disk := stored(t, 64, s, records...)
		c, e := chief.Open(disk, x)
		if e == api.ErrForm && c == nil && last != "" {
			return
		}
		if e != api.OK || c.Down() || len(c.Heirs()) > 0 && !c.Busy() || !chart.Check(c.Chart()) {
			t.Fatalf("%q, %q: %v, %v", s, r, c, e)
		}
		for _, h := range c.Heirs() {
			if !core.Check(h) || h.Frozen || len(h.Log) > 0 {
				t.Errorf("%v", h)
			}
		}
		if !c.Busy() && last != "" && last != idle(c.Chart()) {
			t.Errorf("%q is %v", last, c.Chart())
		}
		was := show(c)
		if again := open(t, disk, x); show(again) != was {
			t.Errorf("%s, not %s", show(again), was)
		}
	})
}
