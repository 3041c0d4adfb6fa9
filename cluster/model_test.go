package cluster_test

import (
	"fmt"
	"math/rand"
	"slices"
	"testing"

	"splice/api"
	"splice/chart"
	"splice/chief"
	"splice/client"
	"splice/cluster"
	"splice/host"
	"splice/rec"
	"splice/slab"
	"splice/span"
)

// letter is a mail of a model.
type letter struct {
	from, to int
	text     string
}

// model does what chapter 18 says, word by word.
type model struct {
	first   api.Chart
	slabs   map[int]*slab.Slab // the nodes' and the chief's, by their addresses
	hosts   []*host.Host
	chief   *chief.Chief
	clients []*client.Client
	mails   []letter // by their numbers
	apart   map[[2]int]bool
}

func modelNew(nodes, shards int, on [][]api.Span) *model {
	m := &model{slabs: map[int]*slab.Slab{}, apart: map[[2]int]bool{}}
	m.first, _ = chart.First(nodes, shards)
	m.hosts = make([]*host.Host, nodes)
	for i := range nodes {
		m.slabs[i] = slab.New(2000)
		m.wake(i)
	}
	m.slabs[9] = slab.New(2000)
	m.wake(9)
	for i, keys := range on {
		m.clients = append(m.clients, client.New(i+1, keys, m.first))
	}
	return m
}

func (m *model) wake(who int) (e api.Errno) {
	m.slabs[who].Wake()
	if who == 9 {
		m.chief, e = chief.Open(m.slabs[9], m.first)
	} else {
		m.hosts[who], e = host.Open(m.slabs[who], who, m.first)
	}
	return e
}

func (m *model) post(from, to int, n api.Note) {
	if len(m.mails) < 400 {
		m.mails = append(m.mails, letter{from, to, rec.Note(n)})
	}
}

// byChart sends a note to the node of a shard.
func (m *model) byChart(from int, x api.Chart, n api.Note) {
	for _, s := range x.L {
		if s.ID == n.To && s.Node < len(m.hosts) {
			m.post(from, s.Node, n)
		}
	}
}

func (m *model) byHost(i int, l []api.Note) {
	for _, n := range l {
		forClient := n.Kind == api.NoteAck || n.Kind == api.NotePage || n.Kind == api.NoteState
		switch {
		case forClient, n.Kind == api.NoteChart && n.Client > 0:
			if n.Client >= 1 && n.Client <= len(m.clients) {
				m.post(i, 16+n.Client, n)
			}
		case n.Kind == api.NoteSealed, n.Kind == api.NoteBegun:
			m.post(i, 9, n)
		default:
			m.byChart(i, m.hosts[i].Chart(), n)
		}
	}
}

func (m *model) byClient(i int) {
	k := m.clients[i-1]
	for _, n := range k.Wants() {
		m.byChart(16+i, k.View().Chart(), n)
	}
}

func (m *model) arrives(l letter) {
	n, e := rec.ReadNote(l.text)
	switch {
	case e != api.OK:
		panic("no note")
	case l.to == 9 && !m.slabs[9].Down():
		m.chief.Take(n)
	case l.to > 16:
		m.clients[l.to-17].Take(n)
	case l.to != 9 && !m.slabs[l.to].Down():
		notes, _ := m.hosts[l.to].Take(n)
		m.byHost(l.to, notes)
	}
}

func (m *model) tick(who int) api.Errno {
	if who == 9 {
		for _, p := range m.chief.Tick() {
			if p.Node < len(m.hosts) {
				m.post(9, p.Node, p.N)
			}
		}
		return api.OK
	}
	l, e := m.hosts[who].Tick()
	m.byHost(who, l)
	return e
}

// do answers the error of a deed.
func (m *model) do(d api.Deed) api.Errno {
	switch d.Kind {
	case api.DeedIssue, api.DeedTell:
		if d.Who < 1 || d.Who > len(m.clients) {
			return api.ErrNone
		}
		if d.Kind == api.DeedTell {
			m.byClient(d.Who)
			return api.OK
		}
		_, e := m.clients[d.Who-1].Issue(d.M)
		return e
	case api.DeedMail, api.DeedTwice, api.DeedLose:
		return m.mail(d)
	case api.DeedApart:
		if d.Who < 0 || d.Who > 63 || d.N < 0 || d.N > 63 || d.Who == d.N {
			return api.ErrArg
		}
		m.apart[[2]int{d.Who, d.N}], m.apart[[2]int{d.N, d.Who}] = d.On, d.On
		return api.OK
	case api.DeedTick, api.DeedFail, api.DeedWake, api.DeedTrip:
		return m.member(d)
	case api.DeedChange:
		if m.slabs[9].Down() {
			return api.ErrDown
		}
		if d.X.Kind == api.Shift && (d.X.At < 0 || d.X.At >= len(m.hosts)) {
			return api.ErrArg
		}
		return m.chief.Change(d.X)
	}
	return api.ErrArg
}

func (m *model) mail(d api.Deed) api.Errno {
	var ready []int
	for i, l := range m.mails {
		if !m.apart[[2]int{l.from, l.to}] {
			ready = append(ready, i)
		}
	}
	if len(ready) == 0 {
		return api.ErrNone
	}
	if d.N < 0 {
		return api.ErrArg
	}
	at := ready[d.N%len(ready)]
	l := m.mails[at]
	if d.Kind == api.DeedTwice {
		if len(m.mails) == 400 {
			return api.ErrFull
		}
		m.mails = append(m.mails, l)
		return api.OK
	}
	m.mails = slices.Delete(m.mails, at, at+1)
	if d.Kind == api.DeedMail {
		m.arrives(l)
	}
	return api.OK
}

func (m *model) member(d api.Deed) api.Errno {
	s := m.slabs[d.Who]
	switch {
	case s == nil:
		return api.ErrNone
	case d.Kind == api.DeedWake && !s.Down():
		return api.ErrThere
	case d.Kind == api.DeedWake:
		return m.wake(d.Who)
	case s.Down():
		return api.ErrDown
	case d.Kind == api.DeedTick:
		return m.tick(d.Who)
	case d.Kind == api.DeedFail:
		s.Fail(d.Loss)
	case d.Kind == api.DeedTrip:
		s.Trip(d.N, d.Loss)
	}
	return api.OK
}

// left is how many mutations are pending, and how many are held.
func (m *model) left() (pending, held int) {
	for _, k := range m.clients {
		pending += len(k.Pending())
	}
	for _, h := range m.hosts {
		for _, c := range h.Cores() {
			held += len(c.Held)
		}
	}
	return pending, held
}

func (m *model) calm() (int, bool) {
	for who, s := range m.slabs {
		if s.Down() {
			m.wake(who)
		}
		s.Trip(0, api.Loss{})
	}
	m.apart, m.mails = map[[2]int]bool{}, nil
	pending, held := m.left()
	most, quiet := 60+10*pending+10*held+10*len(m.chief.Chart().L), 0
	for round := 1; round <= most; round++ {
		for i := range m.hosts {
			m.tick(i)
		}
		m.tick(9)
		for i := range m.clients {
			m.byClient(i + 1)
		}
		for n := 0; n < 3000 && len(m.mails) > 0; n++ {
			l := m.mails[0]
			m.mails = m.mails[1:]
			m.arrives(l)
		}
		quiet++
		if p, h := m.left(); p+h > 0 || m.chief.Busy() {
			quiet = 0
		}
		if quiet == 4 {
			return round, true
		}
	}
	return most, false
}

// agrees looks whether a cluster is what its model is.
func (m *model) agrees(t *testing.T, what any, c *cluster.Cluster) {
	t.Helper()
	var cores []api.Core
	for i, h := range m.hosts {
		cores = append(cores, h.Cores()...)
		if c.Up(i) == m.slabs[i].Down() {
			t.Fatalf("%v: %d is up: %v", what, i, c.Up(i))
		}
	}
	slices.SortFunc(cores, func(a, b api.Core) int { return a.ID - b.ID })
	if is := c.Cores(); !same(is, cores) {
		t.Fatalf("%v: the cores are %v, not %v", what, is, cores)
	}
	if is := c.Chart(); !same(is, m.chief.Chart()) || c.Up(api.AddrChief) == m.slabs[9].Down() {
		t.Fatalf("%v: the chart is %v, not %v; the chief is up: %v", what, is, m.chief.Chart(), c.Up(api.AddrChief))
	}
	if c.Mails() != len(m.mails) || c.Nodes() != len(m.hosts) {
		t.Fatalf("%v: %d mails, not %d; %d nodes", what, c.Mails(), len(m.mails), c.Nodes())
	}
	for i, k := range m.clients {
		if is, want := looks(c.Client(i+1)), looks(k); is != want {
			t.Fatalf("%v: the client %d is %s, not %s", what, i+1, is, want)
		}
	}
}

// looks is all that is asked of a client.
func looks(k *client.Client) string {
	return fmt.Sprint(k.ID(), k.Pending(), k.Mark(), k.Last(), k.Now(), k.Wants(), k.View().Chart())
}

// same tells whether two things are told alike: lists that are nil and empty ones are.
func same(a, b any) bool {
	return fmt.Sprint(a) == fmt.Sprint(b)
}

// maker makes what may come.
type maker struct {
	n func(most int) int // from 0 up to most, without it
}

func (g maker) of(l ...int) int {
	return l[g.n(len(l))]
}

// keys are those that come most.
func keys() []int {
	return []int{0, 1, 2, 5, 700, 1365, 2000, 2047, 2048, 3000, 4095}
}

func (g maker) key() int {
	return g.of(append(keys(), g.n(api.MaxKey))...)
}

func (g maker) span() api.Span {
	lo := g.key()
	return api.Span{Lo: lo, Hi: min(lo+g.of(1, 2, 10, 1000, 4096), api.MaxKey)}
}

// on is a set of keys that a client follows: the first one follows all.
func (g maker) on(i int) []api.Span {
	if i == 0 {
		return []api.Span{{Lo: 0, Hi: api.MaxKey}}
	}
	var l []api.Span
	for range 1 + g.n(4) {
		l = append(l, g.span())
	}
	set, _ := span.Make(l)
	return set
}

func (g maker) mutation() api.Mut {
	val := g.n(20)
	switch g.n(6) {
	case 0:
		return api.Mut{Kind: api.MutDel, Over: g.span()}
	case 1:
		return api.Mut{Kind: api.MutAdd, Pairs: []api.Pair{{Key: g.key(), Val: val - 8}}}
	case 2:
		return api.Mut{Kind: api.MutCas, Old: g.of(api.Absent, 1, 2), Pairs: []api.Pair{{Key: g.key(), Val: val}}}
	case 3:
		from, to := g.key(), g.key()
		return api.Mut{Kind: api.MutMove, Pairs: []api.Pair{{Key: from, Val: val}, {Key: to, Val: val}}}
	}
	m := api.Mut{Kind: api.MutPut}
	for key := g.key(); key < api.MaxKey && len(m.Pairs) < 1+g.n(8); key += 1 + g.n(1500) {
		m.Pairs = append(m.Pairs, api.Pair{Key: key, Val: val})
	}
	return m
}

// address is one of those that there are, mostly.
func (g maker) address() int {
	return g.of(0, 1, 2, 3, 4, api.AddrChief, api.AddrClient+1, api.AddrClient+2, g.n(api.MaxAddr+1))
}

// loss leaves any part of what was not flushed.
func (g maker) loss() api.Loss {
	l := api.Loss{Torn: g.n(60) - 1, At: g.n(256)}
	most := g.n(3)
	for i := range cluster.Blocks {
		if g.n(2) < most {
			l.Keep = append(l.Keep, i)
		}
	}
	return l
}

func (g maker) change(x api.Chart) api.Change {
	s := x.L[g.n(len(x.L))]
	c := api.Change{Kind: 1 + g.n(3), ID: s.ID, At: g.n(4)}
	switch {
	case c.Kind == api.Split && len(x.L) > 8: // enough of them
		c.Kind = api.Merge
	case c.Kind == api.Split:
		c.At = s.Keys.Lo + 1 + g.n(s.Keys.Hi-s.Keys.Lo)
	}
	return c
}

// deed is one that may be of use.
func (g maker) deed(c *cluster.Cluster) api.Deed {
	who := g.of(0, 1, 2, api.AddrChief, g.n(api.MaxNodes))
	switch k := g.n(40); {
	case k < 4:
		return api.Deed{Kind: api.DeedIssue, Who: 1 + g.n(4), M: g.mutation()}
	case k < 8:
		return api.Deed{Kind: api.DeedTell, Who: 1 + g.n(4)}
	case k < 14:
		return api.Deed{Kind: api.DeedTick, Who: who}
	case k < 28:
		return api.Deed{Kind: api.DeedMail, N: g.n(50)}
	case k == 28:
		return api.Deed{Kind: api.DeedTwice, N: g.n(50)}
	case k == 29:
		return api.Deed{Kind: api.DeedLose, N: g.n(50)}
	case k == 30:
		return api.Deed{Kind: api.DeedApart, Who: g.address(), N: g.address(), On: g.n(2) == 0}
	case k == 31 && g.n(2) == 0:
		return api.Deed{Kind: api.DeedFail, Who: who, Loss: g.loss()}
	case k < 35:
		return api.Deed{Kind: api.DeedWake, Who: who}
	case k == 35:
		return api.Deed{Kind: api.DeedTrip, Who: who, N: 1 + g.n(4), Loss: g.loss()}
	case k < 38:
		return api.Deed{Kind: api.DeedChange, X: g.change(c.Chart())}
	}
	return api.Deed{Kind: api.DeedMail}
}

// wild is a deed that may be of no use.
func (g maker) wild(c *cluster.Cluster) api.Deed {
	d := g.deed(c)
	switch g.n(12) {
	case 0:
		d.Who = g.of(-1, 0, 1, 2, 3, 4, 5, 6, 8, 9, 10, 16, 17, 63, 64)
	case 1:
		d.N = g.of(-1, 0, 1, 2, 63, 64, 1<<62)
	case 2:
		d.M = api.Mut{Kind: g.n(7), Client: g.n(2), Pairs: []api.Pair{{Key: g.key()}}}
	case 3:
		d.Kind = g.n(16) - 1
	case 4:
		d.X = api.Change{Kind: g.n(5), ID: g.n(6), At: g.n(8) - 1}
	case 5:
		d.N, d.Who = g.address(), g.address()
	}
	return d
}

// agree does some deeds to a cluster and its model. It answers how many of them went well.
func agree(t *testing.T, g maker, deeds int) (did map[int]int, rounds int) {
	t.Helper()
	var on [][]api.Span
	for i := range g.n(api.MaxClients + 1) {
		on = append(on, g.on(i))
	}
	nodes, shards := 1+g.n(api.MaxNodes), 1+g.n(6)
	c, m := cluster.New(nodes, shards, on), modelNew(nodes, shards, on)
	m.agrees(t, "new", c)
	did = map[int]int{}
	for range deeds {
		d := g.wild(c)
		e := c.Do(d)
		if want := m.do(d); e != want {
			t.Fatalf("%v: %v, not %v", d, e, want)
		}
		m.agrees(t, d, c)
		if e == api.OK {
			did[d.Kind]++
		}
	}
	n, done := c.Calm()
	if k, want := m.calm(); n != k || done != want {
		t.Fatalf("Calm: %d, %v, not %d, %v", n, done, k, want)
	}
	m.agrees(t, "Calm", c)
	return did, n
}

// Promises 18.1 to 18.3: a cluster is what chapter 18 makes of any deeds, word by word.
func TestModel(t *testing.T) {
	g := maker{rand.New(rand.NewSource(181)).Intn}
	did, rounds := map[int]int{}, 0
	for range 60 {
		some, n := agree(t, g, 200)
		for k, n := range some {
			did[k] += n
		}
		rounds += n
	}
	for k := api.DeedIssue; k <= api.DeedChange; k++ {
		if did[k] < 40 {
			t.Errorf("%d deeds of the kind %d", did[k], k)
		}
	}
	if rounds < 400 {
		t.Errorf("%d rounds", rounds)
	}
}

func FuzzModel(f *testing.F) {
	f.Add([]byte("some deeds, and some more of them"))
	f.Fuzz(func(t *testing.T, b []byte) {
		g := maker{func(most int) int {
			if len(b) == 0 || most < 2 {
				return 0
			}
			n := int(b[0])
			b = b[1:]
			if most > 256 && len(b) > 0 {
				n, b = n<<8|int(b[0]), b[1:]
			}
			return n % most
		}}
		agree(t, g, min(len(b)/4, 100))
	})
}

// show is all that is asked of a cluster.
func show(c *cluster.Cluster) string {
	var l []any
	for _, who := range []int{0, 1, 2, 3, 4, 9} {
		l = append(l, c.Up(who))
	}
	for i := 1; c.Client(i) != nil; i++ {
		l = append(l, looks(c.Client(i)))
	}
	return fmt.Sprint(append(l, c.Cores(), c.Chart(), c.Mails(), c.Nodes())...)
}
