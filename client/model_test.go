package client_test

import (
	"math/rand"
	"slices"
	"testing"

	"splice/api"
	"splice/chart"
	"splice/client"
	"splice/mut"
	"splice/span"
	"splice/table"
	"splice/view"
)

// model does what chapter 16 says, word by word, on a view of its own.
type model struct {
	id      int
	v       *view.View
	pending []api.Mut
	times   map[int]int // of the pending ones whose time is known
	next    int
	last    int
}

func modelNew(id int, on []api.Span, x api.Chart) *model {
	m := &model{id: id, v: view.New(on), times: map[int]int{}, next: 1}
	m.v.Learn(x)
	return m
}

func (m *model) issue(x api.Mut) (int, api.Errno) {
	if x.Client != 0 || x.Seq != 0 {
		return 0, api.ErrArg
	}
	x.Client, x.Seq = m.id, m.next
	if !mut.Check(x) {
		return 0, api.ErrArg
	}
	for _, s := range mut.Touch(x) {
		for key := s.Lo; key < s.Hi; key++ {
			if !span.Has(m.v.On(), key) {
				return 0, api.ErrArg
			}
		}
	}
	if len(m.pending) == 64 {
		return 0, api.ErrFull
	}
	m.pending = append(m.pending, x)
	m.next++
	return x.Seq, api.OK
}

func (m *model) take(n api.Note) (e api.Errno) {
	told := []api.Known{}
	switch n.Kind {
	case api.NoteAck:
		if n.Client != m.id || n.Time < 0 || n.Time > api.MaxTime {
			return api.ErrArg
		}
		told = append(told, api.Known{Client: n.Client, Seq: n.Seq, Time: n.Time})
	case api.NoteChart:
		e = m.v.Learn(n.Chart)
	case api.NotePage:
		e = m.v.Page(n)
		for _, x := range n.Entries {
			told = append(told, api.Known{Client: x.M.Client, Seq: x.M.Seq, Time: x.Time})
		}
	case api.NoteState:
		e = m.v.State(n)
		told = n.Known
	default:
		e = api.ErrArg
	}
	if e != api.OK {
		return e
	}
	for _, k := range told {
		if k.Client == m.id {
			m.learn(k.Seq, k.Time)
		}
	}
	for len(m.pending) > 0 {
		time, is := m.times[m.pending[0].Seq]
		if !is || time > m.v.Mark() {
			break
		}
		m.pending = m.pending[1:]
	}
	return api.OK
}

func (m *model) learn(seq, time int) {
	if _, is := m.times[seq]; is || !slices.ContainsFunc(m.pending, func(x api.Mut) bool { return x.Seq == seq }) {
		return
	}
	m.times[seq] = time
	m.last = max(m.last, time)
}

func (m *model) wants() (l []api.Note) {
	for _, x := range m.pending {
		if _, is := m.times[x.Seq]; !is {
			to := chart.Owners(m.v.Chart(), mut.Touch(x))[0]
			l = append(l, api.Note{Kind: api.NotePush, To: to, Client: m.id, Time: m.last, M: x})
			break
		}
	}
	return append(l, m.v.Wants(m.id)...)
}

func (m *model) now() []api.Pair {
	l := m.v.Base()
	for _, x := range m.pending {
		l, _ = table.Apply(l, x, m.v.On())
	}
	return l
}

// maker makes things that are often near the edge, from numbers that it is handed.
type maker struct {
	n func(most int) int // from 0 on, below most
}

func (g maker) of(l ...int) int {
	return l[g.n(len(l))]
}

func (g maker) key() int {
	return g.of(0, 1, 2, 5, 9, 10, 1364, 1365, 1366, 2047, 2048, 2049, 2730, 3000, 4094, 4095)
}

// on is a set of keys, with some of them at least.
func (g maker) on() []api.Span {
	l := spans(0, 3, 2040, 2050)
	for range 1 + g.n(4) {
		lo := g.key()
		l = append(l, api.Span{Lo: lo, Hi: min(lo+g.of(1, 2, 10, 2000), api.MaxKey)})
	}
	l, _ = span.Make(l)
	return l
}

// mutation is one that no client has issued; some may not be.
func (g maker) mutation() api.Mut {
	m := api.Mut{Kind: 1 + g.n(5)}
	k, l, val := g.key(), g.key(), g.n(6)-1
	switch m.Kind {
	case api.MutPut:
		m.Pairs = pairs(min(k, l), val)
		if k != l {
			m.Pairs = pairs(min(k, l), val, max(k, l), 5)
		}
	case api.MutDel:
		m.Over = api.Span{Lo: min(k, l), Hi: max(k, l)} // none, if the keys are the same
	case api.MutMove:
		m.Pairs = pairs(k, val, l, val) // none, if the keys are the same, or the value is below 0
	default:
		m.Pairs = pairs(k, val)
	}
	if m.Kind == api.MutCas {
		m.Old = g.of(api.Absent, 0, 1, 5)
	}
	if g.n(20) == 0 {
		m.Client, m.Seq = g.n(3)-1, g.n(3)-1
	}
	return m
}

// chart follows a chart by a change, mostly; or it is an old one, or gives numbers to other keys, or may not be.
func (g maker) chart(x api.Chart) api.Chart {
	if x.Epoch == 0 || g.n(12) == 0 {
		x, _ = chart.First(1+g.n(3), 1+g.n(4))
	}
	y, _, _, e := chart.Apply(x, api.Change{Kind: 1 + g.n(3), ID: x.L[g.n(len(x.L))].ID, At: g.of(0, 1, 2, 5, 10, 1000, 3000)})
	switch {
	case e != api.OK:
		return x
	case g.n(15) == 0:
		y.Epoch += 5
	case g.n(12) == 0:
		y.L[0].ID, y.L[len(y.L)-1].ID = y.L[len(y.L)-1].ID, y.L[0].ID
	case g.n(20) == 0:
		y.L[0].Keys.Lo++
	}
	return y
}

// seq is the number of one of a client's mutations, a pending one mostly.
func (g maker) seq(m *model) int {
	if len(m.pending) == 0 || g.n(6) == 0 {
		return m.next - 3 + g.n(4)
	}
	return m.pending[g.n(len(m.pending))].Seq
}

func (g maker) time(m *model) int {
	return max(m.v.Mark(), m.last) + g.n(7) - 3
}

// note is a note for a client, mostly.
func (g maker) note(m *model) api.Note {
	n := api.Note{Kind: g.of(api.NoteAck, api.NotePage, api.NotePage, api.NotePage), Client: m.id, Seq: g.seq(m), Time: g.time(m)}
	if n.Kind == api.NoteAck {
		n.Client += g.of(0, 0, 0, 0, 0, 1)
		return n
	}
	l := m.v.Wants(1)
	s := l[g.n(len(l))]
	n.From, n.N = s.To+g.of(0, 0, 0, 0, 0, 1), s.N-g.of(0, 0, 0, 1, 2, -1)
	if s.N < 0 || g.n(20) == 0 {
		n.Kind, n.N = api.NoteState, g.n(4)
		n.Pairs = g.pairs()
	}
	for range g.n(4) {
		x := by(m.id+g.of(0, 0, 1), max(g.seq(m), 1), put(g.key(), g.n(6)))
		time := g.time(m)
		n.Known = append(n.Known, api.Known{Client: x.Client, Seq: x.Seq, Time: time})
		if time >= 0 || g.n(20) == 0 {
			n.Entries = append(n.Entries, api.Entry{M: x, Time: time, Done: g.n(5) > 0})
		}
	}
	if g.n(30) == 0 {
		n.Kind = g.n(15) - 1
	}
	return n
}

// pairs are a table, mostly.
func (g maker) pairs() (l []api.Pair) {
	for range g.n(5) {
		l = append(l, api.Pair{Key: g.key(), Val: g.n(5)})
	}
	slices.SortFunc(l, func(a, b api.Pair) int { return a.Key - b.Key })
	if g.n(10) == 0 {
		return l
	}
	return slices.CompactFunc(l, func(a, b api.Pair) bool { return a.Key == b.Key })
}

// pair is a client and a model of it.
type pair struct {
	c *client.Client
	m *model
}

func pairOf(g maker) *pair {
	id, on := g.of(1, 2, api.MaxClient-1), g.on()
	x, _ := chart.First(1+g.n(3), 1+g.n(4))
	return &pair{c: client.New(id, on, x), m: modelNew(id, on, x)}
}

// some is one call, of the client and of its model.
func (p *pair) some(t *testing.T, g maker) api.Errno {
	t.Helper()
	var what any
	var e, f api.Errno
	switch k := g.n(12); {
	case k < 6:
		x := g.mutation()
		var seq, want int
		what = x
		seq, e = p.c.Issue(x)
		want, f = p.m.issue(x)
		if seq != want {
			t.Fatalf("%v: %d, not %d", x, seq, want)
		}
	case k == 6 && g.n(3) == 0:
		n := charts(g.chart(p.m.v.Chart()))
		what, e, f = n, p.c.Take(n), p.m.take(n)
	default:
		n := g.note(p.m)
		what, e, f = n, p.c.Take(n), p.m.take(n)
	}
	if e != f {
		t.Fatalf("%v: %v, not %v", what, e, f)
	}
	p.agrees(t, g, what)
	return e
}

// agrees looks whether a client has what its model has.
func (p *pair) agrees(t *testing.T, g maker, what any) {
	t.Helper()
	if p.c.ID() != p.m.id || p.c.Mark() != p.m.v.Mark() || p.c.Last() != p.m.last {
		t.Fatalf("%v: %d, mark %d, last %d; not %d, %d, %d", what, p.c.ID(), p.c.Mark(), p.c.Last(), p.m.id, p.m.v.Mark(), p.m.last)
	}
	if l := p.c.Pending(); !same(l, p.m.pending) {
		t.Fatalf("%v: pending %v, not %v", what, l, p.m.pending)
	}
	if l := p.c.Wants(); !same(l, p.m.wants()) {
		t.Fatalf("%v: wants %v, not %v", what, l, p.m.wants())
	}
	now := p.m.now()
	if l := p.c.Now(); !slices.Equal(l, now) {
		t.Fatalf("%v: reads %v, not %v", what, l, now)
	}
	key := g.key() + g.n(3) - 1
	want, is := table.Get(now, key)
	val, some, e := p.c.Read(key)
	if val != want || some != is || (e == api.OK) != span.Has(p.m.v.On(), key) || e != api.OK && e != api.ErrArg {
		t.Fatalf("%v: Read of %d: %d, %v, %v, not %d, %v", what, key, val, some, e, want, is)
	}
	v, w := p.c.View(), p.m.v
	if !same(v.Base(), w.Base()) || !same(v.Chart(), w.Chart()) || !same(v.On(), w.On()) || !same(v.Seen(), w.Seen()) {
		t.Fatalf("%v: the view has %v, %v, not %v, %v", what, v.Base(), v.Chart(), w.Base(), w.Chart())
	}
}

// Promises 16.1 to 16.3: a client answers and has what the words of the chapter come to.
func TestModel(t *testing.T) {
	g := maker{rand.New(rand.NewSource(16)).Intn}
	found, issued, settled := map[api.Errno]int{}, 0, 0
	for range 400 {
		p := pairOf(g)
		for range 120 {
			found[p.some(t, g)]++
		}
		issued, settled = issued+p.m.next-1, settled+p.m.next-1-len(p.m.pending)
	}
	for _, e := range []api.Errno{api.OK, api.ErrArg, api.ErrNone, api.ErrForm} {
		if found[e] < 500 {
			t.Errorf("the error %v was found %d times", e, found[e])
		}
	}
	if issued < 5000 || settled < 2500 || settled > issued-500 {
		t.Errorf("%d were issued, of them %d are not pending any more", issued, settled)
	}
}

// Promises 16.1 to 16.3, for any numbers.
func FuzzModel(f *testing.F) {
	f.Add("")
	f.Add("some numbers that are not in order: 3,1,4,1,5,9,2,6,5")
	f.Fuzz(func(t *testing.T, s string) {
		at := 0
		g := maker{func(most int) int {
			at++
			if at > len(s) {
				return 0
			}
			return int(s[at-1]) % most
		}}
		p := pairOf(g)
		for at < len(s) {
			p.some(t, g)
		}
	})
}
