package chief_test

import (
	"fmt"
	"math/rand"
	"slices"
	"testing"

	"splice/api"
	"splice/chart"
	"splice/chief"
	"splice/core"
	"splice/slab"
	"splice/wal"
)

// model does what chapter 17 says, word by word, with a log that is a text and a list.
type model struct {
	blocks int
	x      api.Chart
	change []api.Change // the one in progress
	next   api.Chart
	old    []api.Shard
	fresh  []api.Shard
	heirs  []api.Core
	begun  map[int]bool
	text   string
	recs   []string
}

func modelNew(blocks int, x api.Chart) *model {
	return &model{blocks: blocks, x: x, text: idle(x)}
}

func parts(s string) int {
	return max(1, (len(s)+199)/200)
}

// store is what storing a model answers.
func (m *model) store() api.Errno {
	s := text(m.x, m.change, m.heirs...)
	rows := m.blocks - m.blocks/4*2
	for _, r := range m.recs {
		rows -= parts(r)
	}
	switch {
	case len(s) > 20000:
		return api.ErrFull
	case parts(s) <= rows:
		m.recs = append(slices.Clone(m.recs), s)
	case parts(s) <= m.blocks/4:
		m.text, m.recs = s, nil
	default:
		return api.ErrFull
	}
	return api.OK
}

// stores is what a model becomes by a change of it; it stays what it is if that can't be stored.
func (m *model) stores(do func(m *model)) api.Errno {
	next := *m
	do(&next)
	e := next.store()
	if e == api.OK {
		*m = next
	}
	return e
}

func (m *model) begin(x api.Change) api.Errno {
	if len(m.change) > 0 {
		return api.ErrBusy
	}
	next, old, fresh, e := chart.Apply(m.x, x)
	if e != api.OK {
		return e
	}
	for _, s := range old {
		if s.Node != old[0].Node {
			return api.ErrArg
		}
	}
	return m.stores(func(m *model) {
		m.change, m.next, m.old, m.fresh, m.begun = []api.Change{x}, next, old, fresh, map[int]bool{}
	})
}

func (m *model) take(n api.Note) api.Errno {
	switch n.Kind {
	case api.NoteSealed:
		if len(m.change) == 0 || len(m.heirs) > 0 || len(n.Cores) != len(m.old) {
			return api.OK
		}
		for i, s := range m.old {
			if n.Cores[i].ID != s.ID {
				return api.OK
			}
		}
		heirs, e := core.Heirs(n.Cores, m.fresh)
		if e != api.OK {
			return api.OK
		}
		return m.stores(func(m *model) { m.heirs = heirs })
	case api.NoteBegun:
		if len(m.heirs) == 0 {
			return api.OK
		}
		all := true
		for _, s := range m.fresh {
			all = all && (m.begun[s.ID] || s.ID == n.From)
		}
		if all {
			return m.stores(func(m *model) { *m = model{blocks: m.blocks, x: m.next, text: m.text, recs: m.recs} })
		}
		m.begun[n.From] = true
		return api.OK
	}
	return api.ErrArg
}

func (m *model) tick() (l []api.Post) {
	if len(m.change) > 0 && len(m.heirs) == 0 {
		seal := api.Note{Kind: api.NoteSeal, To: m.old[0].ID}
		for i, s := range m.old {
			l = append(l, api.Post{Node: s.Node, N: api.Note{Kind: api.NoteFreeze, To: s.ID}})
			if i == 1 {
				seal.N = s.ID
			}
		}
		l = append(l, api.Post{Node: m.old[0].Node, N: seal})
	}
	for _, h := range m.heirs {
		s, _ := chart.Find(m.next, h.ID)
		l = append(l, api.Post{Node: s.Node, N: api.Note{Kind: api.NoteShard, Cores: []api.Core{h}}})
	}
	return append(l, charts(m.x)...)
}

// lost is a model that has forgotten what is not stored.
func (m *model) lost() *model {
	l := *m
	l.begun = map[int]bool{}
	return &l
}

func (m *model) show() string {
	return fmt.Sprint(m.x, len(m.change) > 0, m.heirs, m.tick(), false)
}

// maker makes things that are often near the edge, from numbers that it is handed.
type maker struct {
	n func(most int) int // from 0 on, below most
}

func (g maker) of(l ...int) int {
	return l[g.n(len(l))]
}

// id is the number of a shard, mostly.
func (g maker) id(l []api.Shard) int {
	if len(l) == 0 || g.n(10) == 0 {
		return g.n(20)
	}
	return l[g.n(len(l))].ID
}

func (g maker) change(x api.Chart) api.Change {
	c := api.Change{Kind: 1 + g.n(3), ID: g.id(x.L), At: g.of(0, 0, 1, 1, 2, 3, 4, 5, 1000, 2048, 3000)}
	if s, is := chart.Find(x, c.ID); is && g.n(2) == 0 && c.Kind == api.Split {
		c.At = (s.Keys.Lo + s.Keys.Hi) / 2
	}
	if g.n(20) == 0 {
		c.Kind = g.n(6) - 1
	}
	return c
}

// sealed is a core of a shard, as it may be when it is sealed; now and then it is otherwise.
func (g maker) sealed(s api.Shard) api.Core {
	c := api.Core{ID: s.ID, Keys: s.Keys, Clock: g.n(50), Frozen: true, Sealed: true}
	for i := range g.of(0, 1, 3, 3, 40, 200) {
		c.Known = append(c.Known, api.Known{Client: 1 + s.ID%3, Seq: i + 1, Time: g.n(3), Done: g.n(2) == 0})
	}
	for key := c.Keys.Lo; key < c.Keys.Hi && len(c.Base) < 4; key += 1 + g.n(40) {
		c.Base = append(c.Base, api.Pair{Key: key, Val: g.n(100) - 50})
	}
	switch g.n(25) {
	case 0:
		c.Sealed = false
	case 1:
		c.ID += g.of(-1, 1)
	case 2:
		c.Keys.Lo++
	case 3:
		c.Clock = -1
	}
	return c
}

// note is one for a chief, mostly of what it waits for.
func (g maker) note(m *model) api.Note {
	n := api.Note{Kind: g.of(api.NoteSealed, api.NoteBegun), From: g.id(m.fresh), To: g.n(3)}
	if n.Kind == api.NoteSealed {
		for _, s := range m.old {
			n.Cores = append(n.Cores, g.sealed(s))
		}
		switch k := g.n(20); {
		case k == 0 && len(n.Cores) > 0:
			n.Cores = n.Cores[1:]
		case k == 1:
			n.Cores = append(n.Cores, g.sealed(m.x.L[g.n(len(m.x.L))]))
		case k == 2:
			slices.Reverse(n.Cores)
		}
	}
	if g.n(15) == 0 {
		n.Kind = g.n(16) - 1
	}
	return n
}

// pair is a chief, its slab and a model of it.
type pair struct {
	s *slab.Slab
	c *chief.Chief
	m *model
	x api.Chart
}

func begin(t *testing.T, g maker) *pair {
	t.Helper()
	p := &pair{s: slab.New(g.of(16, 17, 19, 22, 30, 64, 200)), x: first(1+g.n(3), 1+g.n(4))}
	p.m = modelNew(p.s.Blocks(), p.x)
	p.open(t)
	return p
}

// open opens the chief once more.
func (p *pair) open(t *testing.T) {
	t.Helper()
	p.c, p.m = open(t, p.s, p.x), p.m.lost()
}

// agrees looks whether the chief has what its model has, and the log what it must have.
func (p *pair) agrees(t *testing.T, what any) {
	t.Helper()
	if got, want := show(p.c), p.m.show(); got != want {
		t.Fatalf("%v: %s, not\n%s", what, got, want)
	}
	_, s, l, e := wal.Open(p.s)
	if s != p.m.text || !slices.Equal(l, p.m.recs) || e != api.OK || len(p.s.Loose()) > 0 {
		t.Fatalf("%v: the log has %q, %q, not %q, %q", what, s, l, p.m.text, p.m.recs)
	}
}

// act is a call that may be made of a chief, and of its model.
func (g maker) act(m *model) (what any, call func(c *chief.Chief) api.Errno, same func(m *model) api.Errno) {
	if g.n(3) == 0 {
		x := g.change(m.x)
		return x, func(c *chief.Chief) api.Errno { return c.Change(x) }, func(m *model) api.Errno { return m.begin(x) }
	}
	n := g.note(m)
	return n, func(c *chief.Chief) api.Errno { return c.Take(n) }, func(m *model) api.Errno { return m.take(n) }
}

// some is one call, of the chief and of its model.
func (p *pair) some(t *testing.T, g maker) api.Errno {
	t.Helper()
	what, call, same := g.act(p.m)
	e := call(p.c)
	if f := same(p.m); e != f {
		t.Fatalf("%v: %v, not %v", what, e, f)
	}
	p.agrees(t, what)
	return e
}

// Promises 17.1 to 17.4: a chief answers, has and stores what the words of the chapter come to.
func TestModel(t *testing.T) {
	g := maker{rand.New(rand.NewSource(17)).Intn}
	found, epochs := map[api.Errno]int{}, 0
	for range 300 {
		p := begin(t, g)
		for range 80 {
			found[p.some(t, g)]++
			if g.n(20) == 0 {
				p.open(t)
				p.agrees(t, "Open")
			}
		}
		epochs += p.m.x.Epoch - 1
	}
	for _, e := range []api.Errno{api.OK, api.ErrArg, api.ErrNone, api.ErrFull, api.ErrBusy} {
		if found[e] < 50 {
			t.Errorf("the error %v was found %d times", e, found[e])
		}
	}
	if epochs < 1000 {
		t.Errorf("%d changes", epochs)
	}
}

// Promises 17.1 to 17.4, for any numbers.
func FuzzModel(f *testing.F) {
	f.Add("")
	f.Add("some numbers that are not in order: 3,1,4,1,5,9,2,6,5")
	f.Fuzz(func(t *testing.T, s string) {
		at := 0
		g := maker{func(most int) int {
			at++
			if at > len(s) {
				return 0
			}
			return int(s[at-1]) % most
		}}
		p := begin(t, g)
		for at < len(s) {
			p.some(t, g)
			if g.n(20) == 1 {
				p.open(t)
				p.agrees(t, "Open")
			}
		}
	})
}
