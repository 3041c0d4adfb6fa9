package view_test

import (
	"math/rand"
	"slices"
	"testing"

	"splice/api"
	"splice/chart"
	"splice/mut"
	"splice/span"
	"splice/table"
	"splice/view"
)

// model does what chapter 14 says, word by word, key by key.
type model struct {
	on      []api.Span
	mark    int
	base    map[int]int
	x       api.Chart
	sources []*shard
	seen    []api.Entry
}

// shard is a source of a model.
type shard struct {
	id, floor, got int
	keys           api.Span
	entries        []api.Entry
	pends          bool
	time           int
	pairs          []api.Pair
}

func modelNew(on []api.Span) *model {
	return &model{on: on, base: map[int]int{}}
}

// has tells whether the view follows a key that a source has.
func (m *model) has(s *shard, key int) bool {
	return span.Has(m.on, key) && s.keys.Lo <= key && key < s.keys.Hi
}

func (m *model) source(id int) *shard {
	for _, s := range m.sources {
		if s.id == id {
			return s
		}
	}
	return nil
}

func (m *model) learn(x api.Chart) api.Errno {
	if !chart.Check(x) {
		return api.ErrArg
	}
	if x.Epoch <= m.x.Epoch {
		return api.OK
	}
	m.x = x
	var l []*shard
	for _, id := range chart.Owners(x, m.on) {
		s := m.source(id)
		if s == nil {
			s = &shard{id: id, floor: -1, got: -1}
		}
		h, _ := chart.Find(x, id)
		s.keys = h.Keys
		l = append(l, s)
	}
	m.sources = l
	m.advance()
	return api.OK
}

func (m *model) page(n api.Note) api.Errno {
	if n.Kind != api.NotePage {
		return api.ErrArg
	}
	for _, e := range n.Entries {
		if !mut.Check(e.M) || e.Time < 0 || e.Time > api.MaxTime {
			return api.ErrArg
		}
	}
	s := m.source(n.From)
	if s == nil || s.got == -1 {
		return api.ErrNone
	}
	if n.N < 0 || n.N > s.got {
		return api.ErrForm
	}
	for i, e := range n.Entries {
		if n.N+i == s.got {
			s.entries = append(s.entries, e)
			s.got++
		}
	}
	if n.Time > s.floor {
		s.floor = n.Time
	}
	m.advance()
	return api.OK
}

func (m *model) state(n api.Note) api.Errno {
	if n.Kind != api.NoteState || !table.Check(n.Pairs) || n.Time < 0 || n.N < 0 {
		return api.ErrArg
	}
	s := m.source(n.From)
	if s == nil || s.got != -1 {
		return api.ErrNone
	}
	s.pends, s.pairs, s.time = true, n.Pairs, n.Time
	s.got, s.floor = n.N, n.Time
	m.advance()
	return api.OK
}

func (m *model) advance() {
	floors := []int{}
	pends, late := false, false
	for _, s := range m.sources {
		if s.got == -1 {
			return
		}
		floors = append(floors, s.floor)
		pends = pends || s.pends
	}
	next := slices.Min(floors)
	for _, s := range m.sources {
		late = late || s.pends && s.time > next
	}
	if next <= m.mark && !pends || late {
		return
	}
	for _, s := range m.sources {
		m.take(s, next)
	}
	m.mark = max(m.mark, next)
}

// take takes what pends of a source.
func (m *model) take(s *shard, next int) {
	for key := range api.MaxKey {
		if s.pends && m.has(s, key) {
			m.give(key, s.pairs)
		}
	}
	s.pends, s.pairs, s.time = false, nil, 0
	var still []api.Entry
	for _, e := range s.entries {
		if e.Time > next {
			still = append(still, e)
			continue
		}
		m.seen = append(m.seen, e)
		if e.Done {
			m.apply(s, e.M)
		}
	}
	s.entries = still
}

// give gives a key what it has in a table.
func (m *model) give(key int, l []api.Pair) {
	delete(m.base, key)
	if val, some := table.Get(l, key); some {
		m.base[key] = val
	}
}

// apply applies a mutation to all keys, and takes of it what a source has: a key's value hangs on no other key's.
func (m *model) apply(s *shard, x api.Mut) {
	all, _ := table.Apply(m.pairs(), x, spans(0, api.MaxKey))
	for _, t := range mut.Touch(x) {
		for key := t.Lo; key < t.Hi; key++ {
			if m.has(s, key) {
				m.give(key, all)
			}
		}
	}
}

func (m *model) pairs() (l []api.Pair) {
	for key, val := range m.base {
		l = append(l, api.Pair{Key: key, Val: val})
	}
	slices.SortFunc(l, func(a, b api.Pair) int { return a.Key - b.Key })
	return l
}

func (m *model) wants(client int) (l []api.Note) {
	time := max(0, m.mark)
	for _, s := range m.sources {
		time = max(time, s.floor)
	}
	for _, s := range m.sources {
		l = append(l, api.Note{Kind: api.NotePull, To: s.id, Client: client, N: s.got, Time: time})
	}
	return l
}

// maker makes things that are often near the edge, from numbers that it is handed.
type maker struct {
	n func(most int) int // from 0 on, below most
}

func (g maker) of(l ...int) int {
	return l[g.n(len(l))]
}

func (g maker) key() int {
	return g.of(0, 1, 2, 5, 9, 10, 1364, 1365, 1366, 2047, 2048, 2049, 2730, 3000, 4094, 4095)
}

// on is a set of keys, with some of them at least.
func (g maker) on() []api.Span {
	var l []api.Span
	for range 1 + g.n(4) {
		lo := g.key()
		l = append(l, api.Span{Lo: lo, Hi: min(lo+g.of(1, 2, 10, 2000), api.MaxKey)})
	}
	l, _ = span.Make(l)
	return l
}

func (g maker) mutation() api.Mut {
	m := api.Mut{Client: 1 + g.n(3), Seq: 1 + g.n(9), Kind: 1 + g.n(5)}
	k, l, val := g.key(), g.key(), g.n(6)-1
	switch m.Kind {
	case api.MutPut:
		m.Pairs = pairs(min(k, l), val)
		if k != l {
			m.Pairs = pairs(min(k, l), val, max(k, l), 5)
		}
	case api.MutDel:
		m.Over = api.Span{Lo: min(k, l), Hi: max(k, l)} // none, if the keys are the same
	case api.MutMove:
		m.Pairs = pairs(k, val, l, val) // none, if the keys are the same, or the value is below 0
	default:
		m.Pairs = pairs(k, val)
	}
	if m.Kind == api.MutCas {
		m.Old = g.of(api.Absent, 0, 1, 5)
	}
	return m
}

// chart follows a chart by a change, mostly; or it is an old one, or gives numbers to other keys, or may not be.
func (g maker) chart(x api.Chart) api.Chart {
	if x.Epoch == 0 || g.n(12) == 0 {
		x, _ = chart.First(1+g.n(3), 1+g.n(5))
	}
	y, _, _, e := chart.Apply(x, api.Change{Kind: 1 + g.n(3), ID: x.L[g.n(len(x.L))].ID, At: g.of(0, 1, 2, 5, 10, 1000, 3000)})
	switch {
	case e != api.OK:
		return x
	case g.n(15) == 0:
		y.Epoch += 5
	case g.n(12) == 0:
		y.L[0].ID, y.L[len(y.L)-1].ID = y.L[len(y.L)-1].ID, y.L[0].ID
	case g.n(20) == 0:
		y.L[0].Keys.Lo++
	}
	return y
}

// note is a page or a state of a shard of a chart, mostly.
func (g maker) note(m *model) api.Note {
	n := api.Note{From: g.n(9), Time: m.mark + g.n(9) - 2, N: g.n(5) - 1, Kind: api.NotePage}
	if l := m.sources; len(l) > 0 && g.n(10) > 0 {
		s := l[g.n(len(l))]
		n.From, n.N = s.id, s.got-g.of(0, 0, 0, 1, 2, -1)
		if s.got < 0 && g.n(10) > 0 {
			n.Kind, n.N = api.NoteState, g.n(4)-g.n(2)
		}
	}
	if n.Kind == api.NoteState || g.n(9) == 0 {
		n.Kind = api.NoteState
		for range g.n(5) {
			n.Pairs = append(n.Pairs, api.Pair{Key: g.key(), Val: g.n(5)})
		}
		slices.SortFunc(n.Pairs, func(a, b api.Pair) int { return a.Key - b.Key })
		if g.n(10) > 0 {
			n.Pairs = slices.CompactFunc(n.Pairs, func(a, b api.Pair) bool { return a.Key == b.Key })
		}
	}
	for range g.n(4) {
		e := api.Entry{M: g.mutation(), Time: m.mark + g.n(9) - 2, Done: g.n(5) > 0}
		if mut.Check(e.M) && e.Time >= 0 || g.n(20) == 0 {
			n.Entries = append(n.Entries, e)
		}
	}
	if g.n(40) == 0 {
		n.Kind = g.n(15) - 1
	}
	return n
}

// pair is a view and a model of it.
type pair struct {
	v *view.View
	m *model
}

func pairOf(g maker) *pair {
	on := g.on()
	return &pair{v: view.New(on), m: modelNew(on)}
}

// some is one call, of the view and of its model.
func (p *pair) some(t *testing.T, g maker) api.Errno {
	t.Helper()
	var what any
	var e, f api.Errno
	if g.n(9) == 0 || p.m.x.Epoch == 0 && g.n(3) > 0 {
		x := g.chart(p.m.x)
		what, e, f = x, p.v.Learn(x), p.m.learn(x)
	} else {
		n := g.note(p.m)
		what = n
		if n.Kind == api.NoteState || n.Kind != api.NotePage && g.n(2) == 0 {
			e, f = p.v.State(n), p.m.state(n)
		} else {
			e, f = p.v.Page(n), p.m.page(n)
		}
	}
	if e != f {
		t.Fatalf("%v: %v, not %v", what, e, f)
	}
	p.agrees(t, g, what)
	return e
}

// agrees looks whether a view has what its model has.
func (p *pair) agrees(t *testing.T, g maker, what any) {
	t.Helper()
	if p.v.Mark() != p.m.mark || !slices.Equal(p.v.Base(), p.m.pairs()) || !same(p.v.Chart(), p.m.x) || !slices.Equal(p.v.On(), p.m.on) {
		t.Fatalf("%v: mark %d, base %v, chart %v; not %d, %v, %v", what, p.v.Mark(), p.v.Base(), p.v.Chart(), p.m.mark, p.m.pairs(), p.m.x)
	}
	if l := p.v.Wants(3); !same(l, p.m.wants(3)) {
		t.Fatalf("%v: wants %v, not %v", what, l, p.m.wants(3))
	}
	if g.n(4) == 0 {
		if l := p.v.Seen(); !same(l, p.m.seen) {
			t.Fatalf("%v: saw %v, not %v", what, l, p.m.seen)
		}
		p.m.seen = nil
	}
}

// Promises 14.1 to 14.4: a view answers and has what the words of the chapter come to.
func TestModel(t *testing.T) {
	g := maker{rand.New(rand.NewSource(14)).Intn}
	found, marks, pairs := map[api.Errno]int{}, 0, 0
	for range 1500 {
		p := pairOf(g)
		for range 40 {
			found[p.some(t, g)]++
		}
		marks, pairs = marks+p.m.mark, pairs+len(p.m.base)
	}
	for _, e := range []api.Errno{api.OK, api.ErrArg, api.ErrNone, api.ErrForm} {
		if found[e] < 100 {
			t.Errorf("the error %v was found %d times", e, found[e])
		}
	}
	if marks < 5000 || pairs < 1000 {
		t.Errorf("%d in all marks, %d pairs in all bases", marks, pairs)
	}
}

// Promises 14.1 to 14.4, for any numbers.
func FuzzModel(f *testing.F) {
	f.Add("")
	f.Add("some numbers that are not in order: 3,1,4,1,5,9,2,6,5")
	f.Fuzz(func(t *testing.T, s string) {
		at := 0
		g := maker{func(most int) int {
			at++
			if at > len(s) {
				return 0
			}
			return int(s[at-1]) % most
		}}
		p := pairOf(g)
		for at < len(s) {
			p.some(t, g)
		}
	})
}
