package host_test

import (
	"fmt"
	"math/rand"
	"slices"
	"testing"

	"splice/api"
	"splice/chart"
	"splice/core"
	"splice/host"
	"splice/mut"
	"splice/rec"
	"splice/slab"
	"splice/table"
	"splice/wal"
)

// model does what chapter 13 says, word by word, with a log that is two lists.
type model struct {
	blocks int
	x      api.Chart
	cores  map[int]api.Core
	text   string
	recs   []string
	made   []api.Rec // by the call that is under way
}

func modelNew(blocks, node int, x api.Chart) *model {
	m := &model{blocks: blocks, x: x, cores: map[int]api.Core{}}
	for _, s := range x.L {
		if s.Node == node {
			m.cores[s.ID] = api.Core{ID: s.ID, Keys: s.Keys}
		}
	}
	m.text = text(m.x, m.list()...)
	return m
}

// list are the cores by their numbers.
func (m *model) list() (l []api.Core) {
	for id := range api.MaxShard + 1 {
		if c, is := m.cores[id]; is {
			l = append(l, c)
		}
		if len(l) == len(m.cores) {
			break
		}
	}
	return l
}

func parts(s string) int {
	return max(1, (len(s)+199)/200)
}

func (m *model) rows() int {
	return m.blocks - m.blocks/4*2
}

func (m *model) left() int {
	n := m.rows()
	for _, r := range m.recs {
		n -= parts(r)
	}
	return n
}

// store is what storing records answers.
func (m *model) store(l ...api.Rec) api.Errno {
	var texts []string
	need := 0
	for _, r := range l {
		if r.Core.ID > 0 {
			r.Core = bare([]api.Core{r.Core})[0]
		}
		s := rec.Record(r)
		if len(s) > 20000 {
			return api.ErrFull
		}
		texts = append(texts, s)
		need += parts(s)
	}
	if need > m.rows() {
		return api.ErrFull
	}
	if need > m.left() {
		s := text(m.x, m.list()...)
		if parts(s) > m.blocks/4 {
			return api.ErrFull
		}
		m.text, m.recs = s, nil
	}
	m.recs = append(m.recs, texts...)
	m.made = append(m.made, l...)
	return api.OK
}

func (m *model) told(to, client int) []api.Note {
	return []api.Note{{Kind: api.NoteChart, To: to, Client: client, Chart: m.x}}
}

func (m *model) step(id int, in api.In) ([]api.Note, api.Errno) {
	o := core.Step(m.cores[id], m.x, in)
	if o.E != api.OK {
		return nil, o.E
	}
	if e := m.store(o.Recs...); e != api.OK {
		return nil, e
	}
	m.cores[id] = o.C
	return o.Notes, api.OK
}

func (m *model) serve(n api.Note, in api.In) ([]api.Note, api.Errno) {
	var l []api.Note
	e := api.ErrGone
	if _, is := m.cores[n.To]; is {
		l, e = m.step(n.To, in)
	}
	if e == api.ErrGone && n.Kind == api.NotePush {
		return m.told(0, n.M.Client), api.OK
	}
	if e == api.ErrGone {
		return m.told(n.From, 0), api.OK
	}
	return l, e
}

func (m *model) pull(n api.Note) ([]api.Note, api.Errno) {
	if _, is := m.cores[n.To]; is {
		if _, e := m.step(n.To, api.In{Kind: api.InClock, Time: max(0, n.Time)}); e == api.ErrFull {
			return nil, e
		}
	}
	c, is := m.cores[n.To]
	if !is || c.Sealed {
		return m.told(0, n.Client), api.OK
	}
	floor := core.Floor(c)
	if 0 <= n.N && n.N <= len(c.Log) {
		return []api.Note{{Kind: api.NotePage, From: c.ID, Client: n.Client, N: n.N, Time: floor, Entries: c.Log[n.N:]}}, api.OK
	}
	r := api.Note{Kind: api.NoteState, From: c.ID, Client: n.Client, Time: floor, Pairs: c.Base}
	for _, e := range c.Log {
		if e.Time <= floor {
			r.N++
			if e.Done {
				r.Pairs, _ = table.Apply(r.Pairs, e.M, []api.Span{c.Keys})
			}
		}
	}
	for _, k := range c.Known {
		if k.Client == n.Client {
			r.Known = append(r.Known, k)
		}
	}
	return []api.Note{r}, api.OK
}

func (m *model) seal(n api.Note) ([]api.Note, api.Errno) {
	ids := []int{n.To}
	if n.N > 0 && n.N != n.To {
		ids = append(ids, n.N)
	}
	for _, id := range ids {
		if _, is := m.cores[id]; !is {
			return nil, api.ErrNone
		}
	}
	var left []int
	for _, id := range ids {
		c := m.cores[id]
		if !c.Sealed && (!c.Frozen || len(c.Held) > 0) {
			return nil, api.ErrBusy
		}
		if !c.Sealed {
			left = append(left, id)
		}
	}
	if len(left) > 0 {
		r := api.Rec{Kind: api.RecSeal, Shard: left[0]}
		if len(left) > 1 {
			r.Seq = left[1]
		}
		if e := m.store(r); e != api.OK {
			return nil, e
		}
	}
	r := api.Note{Kind: api.NoteSealed, From: n.To}
	for _, id := range ids {
		c := m.cores[id]
		c.Sealed = true
		m.cores[id] = c
		r.Cores = append(r.Cores, c)
	}
	return []api.Note{r}, api.OK
}

func (m *model) shards(l []api.Core) ([]api.Note, api.Errno) {
	for _, c := range l {
		if !core.Check(c) || c.Sealed || c.Frozen {
			return nil, api.ErrArg
		}
	}
	var fresh []api.Core
	var recs []api.Rec
	var notes []api.Note
	for _, c := range l {
		_, is := m.cores[c.ID]
		if !is && !slices.ContainsFunc(fresh, func(d api.Core) bool { return d.ID == c.ID }) {
			fresh = append(fresh, c)
			recs = append(recs, api.Rec{Kind: api.RecShard, Core: c})
		}
		notes = append(notes, api.Note{Kind: api.NoteBegun, From: c.ID})
	}
	if len(recs) > 0 {
		if e := m.store(recs...); e != api.OK {
			return nil, e
		}
	}
	for _, c := range fresh {
		m.cores[c.ID] = c
	}
	return notes, api.OK
}

func (m *model) take(n api.Note) ([]api.Note, api.Errno) {
	m.made = nil
	switch n.Kind {
	case api.NotePush:
		return m.serve(n, api.In{Kind: api.InPush, M: n.M, Time: max(0, n.Time)})
	case api.NoteProp:
		return m.serve(n, api.In{Kind: api.InProp, From: n.From, M: n.M, Time: n.Time, Ask: n.Ask})
	case api.NoteFinal:
		return m.serve(n, api.In{Kind: api.InFinal, Client: n.Client, Seq: n.Seq, Time: n.Time})
	case api.NotePull:
		return m.pull(n)
	case api.NoteChart:
		if !chart.Check(n.Chart) {
			return nil, api.ErrArg
		}
		if n.Chart.Epoch > m.x.Epoch {
			if e := m.store(api.Rec{Kind: api.RecChart, Chart: n.Chart}); e != api.OK {
				return nil, e
			}
			m.x = n.Chart
		}
		return nil, api.OK
	case api.NoteFreeze:
		if _, is := m.cores[n.To]; !is {
			return nil, api.ErrNone
		}
		return m.step(n.To, api.In{Kind: api.InFreeze})
	case api.NoteSeal:
		return m.seal(n)
	case api.NoteShard:
		return m.shards(n.Cores)
	}
	return nil, api.ErrArg
}

func (m *model) tick() (notes []api.Note, e api.Errno) {
	m.made = nil
	for _, c := range m.list() {
		if !c.Sealed {
			l, f := m.step(c.ID, api.In{Kind: api.InTick})
			notes = append(notes, l...)
			if e == api.OK {
				e = f
			}
		}
	}
	return notes, e
}

// redo is what a record makes of a model.
func (m *model) redo(r api.Rec) {
	switch r.Kind {
	case api.RecChart:
		m.x = r.Chart
	case api.RecShard:
		m.cores[r.Core.ID] = bare([]api.Core{r.Core})[0]
	default:
		m.redoAt(r.Shard, r)
		if r.Kind == api.RecSeal && r.Seq > 0 {
			m.redoAt(r.Seq, r)
		}
	}
}

func (m *model) redoAt(id int, r api.Rec) {
	r.Shard = id
	c, e := core.Redo(m.cores[id], r)
	if e != api.OK {
		panic(fmt.Sprint(r, e))
	}
	m.cores[id] = c
}

// lost is a model whose peers' times are lost.
func (m *model) lost() *model {
	l := *m
	l.cores, l.recs, l.made = map[int]api.Core{}, slices.Clone(m.recs), nil
	for id, c := range m.cores {
		l.cores[id] = bare([]api.Core{c})[0]
	}
	return &l
}

// show is what a model has.
func (m *model) show() string {
	return fmt.Sprint(m.x, m.list())
}

func show(h *host.Host) string {
	return fmt.Sprint(h.Chart(), h.Cores())
}

// maker makes things that are often near the edge, from numbers that it is handed.
type maker struct {
	n func(most int) int // from 0 on, below most
}

func (g maker) of(l ...int) int {
	return l[g.n(len(l))]
}

func (g maker) mutation() api.Mut {
	client, seq := 1+g.n(3), 1+g.n(9)
	k, l := g.of(0, 5, 1023, 1024, 2047, 2048, 3000, 4095), g.of(0, 6, 1023, 1024, 2047, 2048, 3001, 4095)
	switch g.n(6) {
	case 0, 1:
		return add(client, seq, k, g.n(9)-4)
	case 2:
		return put(client, seq, api.Pair{Key: k, Val: g.n(5)})
	case 3:
		return api.Mut{Client: client, Seq: seq, Kind: api.MutDel, Over: api.Span{Lo: min(k, l), Hi: max(k, l)}} // none, if the keys are the same
	}
	return move(client, seq, k, l, g.n(3))
}

// chart is one that follows a chart by a change, or is the first one again, or none.
func (g maker) chart(x api.Chart) api.Chart {
	y, _, _, e := chart.Apply(x, api.Change{Kind: 1 + g.n(3), ID: x.L[g.n(len(x.L))].ID, At: g.of(0, 1, 1, 1000, 2048, 3000)})
	switch {
	case g.n(20) == 0:
		y.Next = 0
	case e != api.OK:
		return first(1+g.n(3), 1+g.n(4))
	}
	return y
}

// core is one that may be, mostly: of a shard of a chart, with some that is held and known.
func (g maker) core(x api.Chart) api.Core {
	s := x.L[g.n(len(x.L))]
	c := api.Core{ID: s.ID, Keys: s.Keys, Clock: 20}
	if g.n(3) == 0 {
		c.ID = 1 + g.n(8)
	}
	for seq := range 4 {
		m := g.mutation()
		m.Client, m.Seq = 4, seq+1
		if !mut.Check(m) {
			continue
		}
		w := api.Wait{M: m, Time: 1 + g.n(20)}
		if g.n(3) == 0 {
			w.Peers = []api.Peer{{Shard: 1 + g.n(5), Time: g.of(1, 9, 30, 30, api.MaxTime+1)}}
		}
		if g.n(2) == 0 {
			c.Known = append(c.Known, api.Known{Client: 4, Seq: seq + 1, Time: 3})
		} else if o := core.Step(c, x, api.In{Kind: api.InPush, M: m}); o.E == api.OK && len(o.C.Held) > len(c.Held) || g.n(30) == 0 {
			c.Held = append(c.Held, w)
		}
	}
	for i := range g.of(0, 0, 3, 40, 200) {
		c.Known = append(c.Known, api.Known{Client: 5, Seq: i + 1, Time: 1000000})
	}
	for key := range g.n(4) {
		c.Base = append(c.Base, api.Pair{Key: c.Keys.Lo + key, Val: g.n(9)}) // none, if the keys are too few
	}
	c.Frozen = g.n(30) == 0
	return c
}

// note is one of any kind, mostly about what a host has.
func (g maker) note(x api.Chart, l []api.Core) api.Note {
	n := api.Note{
		Kind: g.of(1, 1, 1, 1, 2, 2, 2, 2, 3, 3, 5, 5, 5, 8, 9, 10, 10, 12, g.n(16)-1), From: g.of(1, 2, 3, 4, 5, 6, 7, 8, 0),
		To: g.of(1, 2, 3, 4, 5, 6, 7, 8, 0), Client: g.n(5), Seq: g.n(10), Time: g.n(60) - 2, N: g.n(9) - 1, Ask: g.n(2) == 0, M: g.mutation(),
	}
	if len(l) > 0 && g.n(4) > 0 {
		c := l[g.n(len(l))]
		n.To = c.ID
		n.Time = c.Clock + g.n(20) - 12
		if k := len(c.Held); k > 0 && g.n(2) == 0 {
			w := c.Held[g.n(k)]
			n.M, n.Client, n.Seq, n.Time = w.M, w.M.Client, w.M.Seq, w.Time+g.n(4)-1
			if parts := chart.Owners(x, mut.Touch(w.M)); len(parts) > 0 {
				n.From = parts[g.n(len(parts))]
			}
		}
		if n.Kind == api.NoteSeal && g.n(3) == 0 {
			n.N = l[g.n(len(l))].ID
		}
	}
	if g.n(40) == 0 {
		n.Time = g.of(-1, api.MaxTime, api.MaxTime+1)
	}
	switch n.Kind {
	case api.NoteChart:
		n.Chart = g.chart(x)
	case api.NoteShard:
		for range g.n(3) {
			n.Cores = append(n.Cores, g.core(x))
		}
	}
	return n
}

// pair is a host, its slab and a model of it.
type pair struct {
	s    *slab.Slab
	h    *host.Host
	m    *model
	node int
	x    api.Chart
}

func begin(t *testing.T, g maker) *pair {
	t.Helper()
	p := &pair{s: slab.New(g.of(16, 17, 19, 22, 30, 64, 200)), node: g.n(2), x: first(1+g.n(2), 1+g.n(4))}
	p.m = modelNew(p.s.Blocks(), p.node, p.x)
	p.open(t)
	return p
}

// open opens the host once more.
func (p *pair) open(t *testing.T) {
	t.Helper()
	h, e := host.Open(p.s, p.node, p.x)
	if e != api.OK {
		t.Fatalf("Open: %v", e)
	}
	p.h, p.m = h, p.m.lost()
}

// agrees looks whether the host has what its model has, and the log what it must have.
func (p *pair) agrees(t *testing.T, what any) {
	t.Helper()
	if got, want := show(p.h), p.m.show(); got != want || p.h.Rows() != p.m.left() || p.h.Down() || p.h.Node() != p.node {
		t.Fatalf("%v: %s, not\n%s; %d rows, not %d", what, got, want, p.h.Rows(), p.m.left())
	}
	_, s, l, e := wal.Open(p.s)
	if s != p.m.text || !slices.Equal(l, p.m.recs) || e != api.OK || len(p.s.Loose()) > 0 {
		t.Fatalf("%v: the log has %q, %q, not %q, %q", what, s, l, p.m.text, p.m.recs)
	}
}

// some is one call, of the host and of its model.
func (p *pair) some(t *testing.T, g maker) api.Errno {
	t.Helper()
	if g.n(12) == 0 {
		l, e := p.h.Tick()
		if want, f := p.m.tick(); !same(l, want) || e != f {
			t.Fatalf("Tick: %v, %v, not\n%v, %v", l, e, want, f)
		}
		p.agrees(t, "Tick")
		return e
	}
	n := g.note(p.m.x, p.m.list())
	l, e := p.h.Take(n)
	if want, f := p.m.take(n); !same(l, want) || e != f {
		t.Fatalf("Take of %v: %v, %v, not\n%v, %v", n, l, e, want, f)
	}
	p.agrees(t, n)
	return e
}

// Promises 13.1, 13.2 and 13.3: a host answers, has and stores what the words of the chapter come to.
func TestModel(t *testing.T) {
	r := rand.New(rand.NewSource(13))
	g := maker{r.Intn}
	found := map[api.Errno]int{}
	for range 300 {
		p := begin(t, g)
		for range 60 {
			found[p.some(t, g)]++
			if g.n(20) == 0 {
				p.open(t)
				p.agrees(t, "Open")
			}
		}
	}
	for _, e := range []api.Errno{api.OK, api.ErrArg, api.ErrNone, api.ErrLong, api.ErrFull, api.ErrBusy} {
		if found[e] < 5 {
			t.Errorf("the error %v was found %d times", e, found[e])
		}
	}
}

// Promises 13.1, 13.2 and 13.3, for any numbers.
func FuzzModel(f *testing.F) {
	f.Add("")
	f.Add("some numbers that are not in order: 3,1,4,1,5,9,2,6,5")
	f.Fuzz(func(t *testing.T, s string) {
		at := 0
		g := maker{func(most int) int {
			at++
			if at > len(s) {
				return 0
			}
			return int(s[at-1]) % most
		}}
		p := begin(t, g)
		for at < len(s) {
			p.some(t, g)
			if g.n(20) == 1 {
				p.open(t)
				p.agrees(t, "Open")
			}
		}
	})
}
