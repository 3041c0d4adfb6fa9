package desk_test

import (
	"fmt"
	"math/rand"
	"slices"
	"testing"

	"splice/api"
	"splice/chart"
	"splice/client"
	"splice/delta"
	"splice/desk"
	"splice/host"
	"splice/mut"
	"splice/scan"
	"splice/slab"
	"splice/span"
	"splice/table"
)

// model does what chapter 27 says, word by word, on a client that it shares with the desk.
type model struct {
	c     *client.Client
	on    []api.Span
	draft []api.Mut // nil: there is none
	was   []api.Pair
}

// shown is what the desk shows.
func (m *model) shown() []api.Pair {
	l := m.c.Now()
	for _, x := range m.draft {
		l, _ = table.Apply(l, x, m.on)
	}
	return l
}

func (m *model) do(x api.Mut) (bool, api.Errno) {
	if m.draft == nil {
		return false, api.ErrNone
	}
	y := by(1, len(m.draft)+1, x)
	if x.Client != 0 || x.Seq != 0 || !mut.Check(y) {
		return false, api.ErrArg
	}
	for _, s := range mut.Touch(y) {
		for key := s.Lo; key < s.Hi; key++ {
			if !span.Has(m.on, key) {
				return false, api.ErrArg
			}
		}
	}
	if len(m.draft) == 16 || len(m.c.Pending())+len(m.draft) == 64 {
		return false, api.ErrFull
	}
	_, done := table.Apply(m.shown(), y, m.on)
	m.draft = append(m.draft, y)
	return done, api.OK
}

// commit is what a commit answers, if the client's next number is known.
func (m *model) commit(next int) (from, to int, e api.Errno) {
	n := len(m.draft)
	switch {
	case m.draft == nil:
		return 0, 0, api.ErrNone
	case n == 0:
		return 0, 0, api.ErrArg
	case len(m.c.Pending())+n > 64:
		return 0, 0, api.ErrFull
	}
	return next, next + n - 1, api.OK
}

// maker makes things that are often near the edge, from numbers that it is handed.
type maker struct {
	n func(most int) int // from 0 on, below most
}

func (g maker) of(l ...int) int {
	return l[g.n(len(l))]
}

func (g maker) key() int {
	return g.of(0, 1, 2, 5, 9, 10, 1023, 1024, 2047, 2048, 3000, 4094, 4095)
}

// on is a set of keys, with some of them at least.
func (g maker) on() []api.Span {
	l := spans(0, 3, 2040, 2050)
	for range 1 + g.n(4) {
		lo := g.key()
		l = append(l, api.Span{Lo: lo, Hi: min(lo+g.of(1, 2, 10, 2000), api.MaxKey)})
	}
	l, _ = span.Make(l)
	return l
}

// some is a set of keys, or none, within a set or not.
func (g maker) some(on []api.Span) []api.Span {
	lo := g.key()
	l := spans(lo, lo+g.of(0, 1, 2, 10, 2000))
	if g.n(4) > 0 {
		l, _ = span.Meet(l, on)
	}
	return l
}

// mutation is one that no client has issued; some may not be.
func (g maker) mutation() api.Mut {
	k, l, val := g.key(), g.key(), g.n(6)-1
	m := add(k, val)
	switch g.n(7) {
	case 0:
		m = put(k, val)
	case 1:
		m = put(min(k, l), val, max(k, l), 5) // none, if the keys are the same
	case 2:
		m = del(min(k, l), max(k, l)) // none, if the keys are the same
	case 3:
		m = move(k, l, val) // none, if the keys are the same, or the value is below 0
	case 4:
		m = cas(k, g.of(api.Absent, 0, 1, 5), val)
	}
	if g.n(20) == 0 {
		m.Client, m.Seq = g.n(3)-1, g.n(3)-1
	}
	return m
}

// pair is a desk and a model of it, and a host with all shards.
type pair struct {
	c    *client.Client
	d    *desk.Desk
	m    *model
	h    *host.Host
	told []api.Note // for the client
	next int        // the client's next number
	seq  int        // another client's next number
	sum  []api.Turn // of all watches
}

func pairOf(t *testing.T, g maker) *pair {
	t.Helper()
	on := g.on()
	x, _ := chart.First(1, 1+g.n(4))
	h, e := host.Open(slab.New(api.MaxBlocks), 0, x)
	c := client.New(3, on, x)
	if e != api.OK || c == nil {
		t.Fatalf("no client of %v: %v", on, e)
	}
	return &pair{c: c, d: desk.New(c), m: &model{c: c, on: on}, h: h, next: 1, seq: 1}
}

// around lets something happen to the client that the desk has no part in.
func (p *pair) around(g maker) {
	switch g.n(4) {
	case 0:
		if _, e := p.c.Issue(g.mutation()); e == api.OK {
			p.next++
		}
	case 1:
		m := by(7, p.seq, g.mutation())
		if mut.Check(m) {
			p.seq++
			p.send(api.Note{Kind: api.NotePush, To: chart.Owners(p.h.Chart(), mut.Touch(m))[0], M: m})
		}
	case 2:
		for _, n := range p.c.Wants() {
			p.send(n)
		}
	case 3:
		for _, n := range p.told {
			p.c.Take(n)
		}
		p.told = nil
	}
}

// send lets a note come to the host, and what its shards tell one another, too.
func (p *pair) send(n api.Note) {
	l, _ := p.h.Take(n)
	for _, n := range l {
		if n.Client == p.c.ID() {
			p.told = append(p.told, n)
		} else if n.Kind == api.NoteProp || n.Kind == api.NoteFinal {
			p.send(n)
		}
	}
}

// some is one call, of the desk and of its model.
func (p *pair) some(t *testing.T, g maker) api.Errno {
	t.Helper()
	var e, f api.Errno
	shown := p.d.Show()
	switch k := g.n(40); {
	case k < 3:
		f = api.OK
		if p.m.draft != nil {
			f = api.ErrThere
		} else {
			p.m.draft = []api.Mut{}
		}
		e = p.d.Begin()
	case k < 30:
		m := g.mutation()
		var done, want bool
		want, f = p.m.do(m)
		if done, e = p.d.Do(m); done != want {
			t.Fatalf("Do of %v: %v, not %v", m, done, want)
		}
	case k == 30:
		if p.m.draft == nil {
			f = api.ErrNone
		}
		p.m.draft = nil
		e = p.d.Abort()
	case k == 31:
		var a, b, from, to int
		a, b, f = p.m.commit(p.next)
		if from, to, e = p.d.Commit(); from != a || to != b {
			t.Fatalf("Commit: %d, %d, not %d, %d", from, to, a, b)
		}
		if e == api.OK {
			p.m.draft, p.next = nil, to+1
			if now := p.c.Now(); !slices.Equal(now, shown) {
				t.Fatalf("%v is read, and %v was shown", now, shown)
			}
		}
	default:
		p.around(g)
	}
	if e != f {
		t.Fatalf("%v, not %v", e, f)
	}
	p.agrees(t, g)
	return e
}

// agrees looks whether a desk has what its model has.
func (p *pair) agrees(t *testing.T, g maker) {
	t.Helper()
	open := len(p.m.draft)
	if p.m.draft == nil {
		open = -1
	}
	shown := p.m.shown()
	if p.d.Open() != open || !slices.Equal(p.d.Show(), shown) {
		t.Fatalf("%d are drafted, %v is shown; not %d, %v", p.d.Open(), p.d.Show(), open, shown)
	}
	after, limit := g.key()+g.n(2)-1, g.of(1, 2, 500, 501, 0)
	out, more, e := p.d.Page(after, limit)
	if a, _, b, f := scan.Page(shown, api.Cursor{On: p.m.on, After: after, Limit: limit}); !slices.Equal(out, a) || more != b || e != f {
		t.Fatalf("Page: %v, %v, %v, not %v, %v, %v", out, more, e, a, b, f)
	}
	on, width := g.some(p.m.on), g.of(1, 10, 1000, 0)
	total, a := p.d.Total(on)
	groups, b := p.d.Groups(on, width)
	if !span.Within(on, p.m.on) {
		if total != (api.Group{}) || groups != nil || a != api.ErrArg || b != api.ErrArg {
			t.Fatalf("Total on %v: %v, %v; Groups: %v, %v", on, total, a, groups, b)
		}
	} else if l, f := scan.Groups(shown, on, width); total != scan.Total(shown, on) || a != api.OK || !slices.Equal(groups, l) || b != f {
		t.Fatalf("Total on %v: %v, %v; Groups: %v, %v", on, total, a, groups, b)
	}
	if l, _ := delta.Between(p.c.Now(), shown); !slices.Equal(p.d.Preview(), l) {
		t.Fatalf("Preview: %v, not %v", p.d.Preview(), l)
	}
	if g.n(3) > 0 {
		return
	}
	turns := p.d.Watch()
	if l, _ := delta.Between(p.m.was, shown); !slices.Equal(turns, l) {
		t.Fatalf("Watch: %v, not %v", turns, l)
	}
	p.m.was = shown
	p.sum, e = delta.Then(p.sum, turns)
	if now, f := delta.Make(nil, p.sum); e != api.OK || f != api.OK || !slices.Equal(now, shown) {
		t.Fatalf("all turns lead to %v, and %v is shown", now, shown)
	}
}

// Promises 27.1 to 27.4: a desk answers and has what the words of the chapter come to, while its client goes on.
func TestModel(t *testing.T) {
	g := maker{rand.New(rand.NewSource(27)).Intn}
	found, issued, settled := map[api.Errno]int{}, 0, 0
	for range 200 {
		p := pairOf(t, g)
		for range 150 {
			found[p.some(t, g)]++
		}
		issued, settled = issued+p.next-1, settled+p.next-1-len(p.c.Pending())
	}
	for _, e := range []api.Errno{api.OK, api.ErrArg, api.ErrNone, api.ErrThere, api.ErrFull} {
		if found[e] < 100 {
			t.Errorf("the error %v was found %d times", e, found[e])
		}
	}
	if issued < 2000 || settled < 200 {
		t.Errorf("%d were issued, of them %d are not pending any more", issued, settled)
	}
}

// Promises 27.1 to 27.4, for any numbers.
func FuzzModel(f *testing.F) {
	f.Add("")
	f.Add("some numbers that are not in order: 3,1,4,1,5,9,2,6,5")
	f.Fuzz(func(t *testing.T, s string) {
		at := 0
		g := maker{func(most int) int {
			at++
			if at > len(s) {
				return 0
			}
			return int(s[at-1]) % most
		}}
		p := pairOf(t, g)
		for at < len(s) {
			p.some(t, g)
		}
	})
}

// Rule 3: what is answered has its own memory, and what is handed in stays as it is and is not kept.
func TestApart(t *testing.T) {
	g := maker{rand.New(rand.NewSource(273)).Intn}
	for range 100 {
		p := pairOf(t, g)
		p.around(g)
		p.d.Begin()
		p.m.draft = []api.Mut{}
		for range 30 {
			m := g.mutation()
			twin := m
			twin.Pairs = slices.Clone(m.Pairs)
			p.m.do(twin)
			was := fmt.Sprint(m)
			p.d.Do(m)
			if now := fmt.Sprint(m); now != was {
				t.Fatalf("%s becomes %s", was, now)
			}
			spoilPairs(m.Pairs)
			p.spoil(t, g)
			p.agrees(t, g)
		}
		var draft []api.Mut
		for i, m := range p.m.draft {
			draft = append(draft, by(3, p.next+i, m))
		}
		has := append(p.c.Pending(), draft...)
		if _, _, e := p.d.Commit(); e == api.OK && fmt.Sprint(p.c.Pending()) != fmt.Sprint(has) {
			t.Fatalf("%v is pending, not %v", p.c.Pending(), has)
		}
	}
}

// spoil writes over what a desk answers, and looks whether it is what it was, and whether all answers have their own memory.
func (p *pair) spoil(t *testing.T, g maker) {
	t.Helper()
	on := g.some(p.m.on)
	given := fmt.Sprint(on)
	has := all(p.c, p.d)
	for range 2 {
		page, _, _ := p.d.Page(-1, 500)
		groups, _ := p.d.Groups(on, 10)
		p.d.Total(on)
		spoilPairs(p.d.Show())
		spoilPairs(page)
		for _, l := range [][]api.Turn{p.d.Preview(), p.d.Watch()} {
			for i := range l[:cap(l)] {
				l[:cap(l)][i].Is.Val += 77777
			}
		}
		for i := range groups[:cap(groups)] {
			groups[:cap(groups)][i].Sum += 77777
		}
	}
	p.m.was = p.m.shown()
	if now := all(p.c, p.d); now != has || fmt.Sprint(on) != given {
		t.Fatalf("%s becomes %s; %s becomes %v", has, now, given, on)
	}
	if l := p.d.Watch(); len(l) > 0 {
		t.Fatalf("Watch: %v", l)
	}
	p.sum, _ = delta.Between(nil, p.m.was)
}

// spoilPairs writes over all that a list of pairs has.
func spoilPairs(l []api.Pair) {
	l = l[:cap(l)]
	for i := range l {
		l[i].Key, l[i].Val = l[i].Key+77777, l[i].Val+77777
	}
}
