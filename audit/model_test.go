package audit_test

import (
	"fmt"
	"math"
	"math/rand"
	"reflect"
	"slices"
	"testing"

	"splice/api"
	"splice/audit"
	"splice/judge"
	"splice/mut"
	"splice/span"
	"splice/table"
)

func all() []api.Span {
	return spans(0, api.MaxKey)
}

// get is what a key has in a table.
func get(l []api.Pair, key int) api.Cell {
	val, some := table.Get(l, key)
	return api.Cell{Val: val, Some: some}
}

// model does what chapter 24 says, word by word.
type model struct {
	order []api.Entry
	story []api.Event
	whys  []int // of the events so far
}

// issued are the mutations that a client issued ahead of a place.
func (m *model) issued(at, client int) (l []api.Mut) {
	for i, ev := range m.story[:at] {
		if ev.Kind == api.EvIssue && ev.Client == client && m.whys[i] == api.WhyNone {
			l = append(l, ev.M)
		}
	}
	return l
}

// pending are a client's pending mutations at a place, if the mark there is this one.
func (m *model) pending(at, client, mark int) (l []api.Mut) {
	for _, x := range m.issued(at, client) {
		if !slices.ContainsFunc(m.order, func(e api.Entry) bool {
			return e.M.Client == x.Client && e.M.Seq == x.Seq && e.Time <= mark
		}) {
			l = append(l, x)
		}
	}
	return l
}

// sees is what a client must read.
func (m *model) sees(at, client, key, mark int) api.Cell {
	return get(judge.Onto(judge.Fold(m.order, all(), mark), m.pending(at, client, mark), all()), key)
}

func formed(ev api.Event) bool {
	switch ev.Kind {
	case api.EvIssue:
		return mut.Check(ev.M) && ev.M.Client == ev.Client && same(ev, api.Event{Kind: 1, Client: ev.Client, M: ev.M})
	case api.EvRead:
		return same(ev, api.Event{Kind: 2, Client: ev.Client, Key: ev.Key, Mark: ev.Mark, Cell: ev.Cell}) && ev.Client >= 1 && ev.Client <= api.MaxClient &&
			ev.Key >= 0 && ev.Key < api.MaxKey && ev.Mark >= 0 && (ev.Cell == none() || ev.Cell.Some && ev.Cell.Val >= -api.MaxVal && ev.Cell.Val <= api.MaxVal)
	}
	return false
}

// why is why the event at a place is wrong.
func (m *model) why(at int) int {
	ev := m.story[at]
	switch {
	case !formed(ev):
		return api.WhyForm
	case ev.Kind == api.EvIssue && ev.M.Seq != len(m.issued(at, ev.Client))+1:
		return api.WhySeq
	case ev.Kind == api.EvIssue:
		return api.WhyNone
	}
	for i, other := range m.story[:at] {
		if other.Kind == api.EvRead && other.Client == ev.Client && m.whys[i] != api.WhyForm && other.Mark > ev.Mark {
			return api.WhyMark
		}
	}
	if ev.Cell != m.sees(at, ev.Client, ev.Key, ev.Mark) {
		return api.WhyRead
	}
	return api.WhyNone
}

func (m *model) check() (l []api.Finding) {
	m.whys = nil
	for i := range m.story {
		why := m.why(i)
		m.whys = append(m.whys, why)
		if why != api.WhyNone {
			l = append(l, api.Finding{At: i, Why: why})
		}
	}
	return l
}

func (m *model) steps(key int) (l []api.Step) {
	for i, e := range m.order {
		if e.Done && span.Has(mut.Touch(e.M), key) {
			was, is := judge.Fold(m.order[:i], all(), math.MaxInt), judge.Fold(m.order[:i+1], all(), math.MaxInt)
			l = append(l, api.Step{E: e, Was: get(was, key), Is: get(is, key)})
		}
	}
	return l
}

func (m *model) blame(on []api.Span, mark int) (l []api.Entry) {
	now := judge.Fold(m.order, all(), mark)
	for key := range api.MaxKey {
		if !span.Has(on, key) || !get(now, key).Some {
			continue
		}
		for _, e := range slices.Backward(m.order) {
			if e.Done && e.Time <= mark && span.Has(mut.Touch(e.M), key) {
				l = append(l, e)
				break
			}
		}
	}
	return l
}

// maker makes things that are often near the edge, from numbers that it is handed.
type maker struct {
	n func(most int) int // from 0 on, below most
}

func (g maker) of(l ...int) int {
	return l[g.n(len(l))]
}

func (g maker) key() int {
	return g.of(0, 1, 2, 3, 5, 9, 2047, 2048, 4095)
}

// mutation is one that may be, without a client and a number.
func (g maker) mutation() api.Mut {
	m := api.Mut{Kind: 1 + g.n(5)}
	k, val := g.key(), g.n(6)-1
	l := (k + 1 + g.n(3)) % api.MaxKey
	switch m.Kind {
	case api.MutPut:
		m.Pairs = pairs(k, val)
		if k < l {
			m.Pairs = pairs(k, val, l, 5)
		}
	case api.MutDel:
		m.Over = api.Span{Lo: k, Hi: max(l, k+1)}
	case api.MutMove:
		m.Pairs = pairs(k, max(val, 0), l, max(val, 0))
	default:
		m.Pairs = pairs(k, val)
	}
	if m.Kind == api.MutCas {
		m.Old = g.of(api.Absent, 0, 1, 5)
	}
	return m
}

// tale makes a story of clients that read what is right, and the order of what they issued, at any times; some of it never comes.
func (g maker) tale(most int) *model {
	m := &model{}
	seqs, marks := make([]int, 4), make([]int, 4)
	var l []api.Mut
	for range g.n(most + 1) {
		client := 1 + g.n(3)
		if g.n(2) == 0 {
			x := g.mutation()
			seqs[client]++
			x.Client, x.Seq = client, seqs[client]
			m.story = append(m.story, issued(x))
			l = append(l, x)
		} else {
			marks[client] += g.n(4)
			m.story = append(m.story, read(client, g.key(), marks[client], none()))
		}
	}
	for _, x := range l {
		if g.n(5) > 0 {
			m.order = append(m.order, api.Entry{M: x, Time: 1 + g.n(30), Done: g.n(5) > 0})
		}
	}
	slices.SortFunc(m.order, func(a, b api.Entry) int { return mut.Compare(mut.Stamp(a.Time, a.M), mut.Stamp(b.Time, b.M)) })
	m.whys = make([]int, len(m.story))
	for i, ev := range m.story {
		if ev.Kind == api.EvRead {
			m.story[i].Cell = m.sees(i, ev.Client, ev.Key, ev.Mark)
		}
	}
	return m
}

// spoil makes some of a story wrong, perhaps.
func (g maker) spoil(l []api.Event) []api.Event {
	for range g.n(4) {
		if len(l) == 0 {
			break
		}
		i := g.n(len(l))
		ev := &l[i]
		switch g.n(10) {
		case 0:
			ev.Kind = g.n(5) - 1
		case 1:
			ev.Client = g.of(0, 1, 2, 3, 4, api.MaxClient+1)
		case 2:
			ev.M.Seq += g.of(-1, 1)
		case 3:
			ev.Mark = g.of(-1, 0, 5, 20, 40)
		case 4:
			ev.Key = g.of(-1, 0, 5, 4096)
		case 5:
			ev.Cell = api.Cell{Val: g.n(4), Some: g.n(2) == 0}
		case 6:
			l = slices.Delete(l, i, i+1)
		case 7:
			l = slices.Insert(l, g.n(len(l)), *ev)
		default:
			j := g.n(len(l))
			l[i], l[j] = l[j], l[i]
		}
	}
	return l
}

// audited looks whether what is answered of a story is what the words of the chapter come to.
func audited(t *testing.T, g maker) []api.Finding {
	t.Helper()
	m := g.tale(30)
	m.story = g.spoil(m.story)
	want := m.check()
	if got, e := audit.Check(m.order, m.story); e != api.OK || !slices.Equal(got, want) {
		t.Fatalf("Check by %v of %v: %v, %v, not %v", m.order, m.story, got, e, want)
	}
	at, client, mark := g.n(34)-2, g.n(5), g.n(33)-1
	if got, want := audit.Pending(m.order, m.story, at, client, mark), m.pending(min(max(at, 0), len(m.story)), client, mark); !same(got, want) {
		t.Fatalf("at %d of %v, of %d, up to %d: %v are pending, not %v", at, m.story, client, mark, got, want)
	}
	key := g.key()
	if got, e := audit.Steps(m.order, key); e != api.OK || !same(got, m.steps(key)) {
		t.Fatalf("Steps by %v of %d: %v, %v, not %v", m.order, key, got, e, m.steps(key))
	}
	on, _ := span.Make(spans(g.key(), 4096, 0, 1+g.key()))
	if g.n(2) == 0 {
		on = spans(0, 2, 3, 9, 2047, 2048)
	}
	if got, e := audit.Blame(m.order, on, mark); e != api.OK || !same(got, m.blame(on, mark)) {
		t.Fatalf("Blame by %v on %v up to %d: %v, %v, not %v", m.order, on, mark, got, e, m.blame(on, mark))
	}
	n := 0
	for _, e := range m.order {
		if e.Time > mark && span.Touch(mut.Touch(e.M), on) {
			n++
		}
	}
	if got := audit.Lag(m.order, on, mark); got != n || !audit.Order(m.order) {
		t.Fatalf("Lag by %v on %v from %d: %d, not %d", m.order, on, mark, got, n)
	}
	return want
}

// Promises 24.1 to 24.3: what the words of the chapter come to.
func TestModel(t *testing.T) {
	g := maker{rand.New(rand.NewSource(24)).Intn}
	found := map[int]int{}
	for range 3000 {
		l := audited(t, g)
		if len(l) == 0 {
			found[api.WhyNone]++
		}
		for _, f := range l {
			found[f.Why]++
		}
	}
	for why := range 5 {
		if found[why] < 200 {
			t.Errorf("the reason %d was found %d times", why, found[why])
		}
	}
}

// Promises 24.1 to 24.3, for any numbers.
func FuzzModel(f *testing.F) {
	f.Add("")
	f.Add("some numbers that are not in order: 3,1,4,1,5,9,2,6,5")
	f.Fuzz(func(t *testing.T, s string) {
		at := 0
		audited(t, maker{func(most int) int {
			at++
			if at > len(s) {
				return at % most
			}
			return int(s[at-1]) % most
		}})
	})
}

// Promise 24.4: a story of right reads has no findings; with one read that is otherwise it has one.
func TestRight(t *testing.T) {
	g := maker{rand.New(rand.NewSource(244)).Intn}
	reads := 0
	for range 1000 {
		m := g.tale(60)
		finds(t, m.order, m.story)
		for i, ev := range m.story {
			if ev.Kind != api.EvRead || g.n(5) > 0 {
				continue
			}
			reads++
			other := slices.Clone(m.story)
			if other[i].Cell = some(ev.Cell.Val + 1); g.n(2) == 0 && ev.Cell.Some {
				other[i].Cell = none()
			}
			finds(t, m.order, other, i, api.WhyRead)
		}
	}
	if reads < 1000 {
		t.Errorf("%d reads were looked at", reads)
	}
}

// Promise 24.4: what is blamed touches its key, and steps follow one on the other up to what the key has.
func TestSame(t *testing.T) {
	g := maker{rand.New(rand.NewSource(245)).Intn}
	for range 500 {
		m := g.tale(60)
		now := judge.Fold(m.order, all(), math.MaxInt)
		l, e := audit.Blame(m.order, all(), math.MaxInt)
		if e != api.OK || len(l) != len(now) {
			t.Fatalf("%v: %v, %v", now, l, e)
		}
		for i, p := range now {
			if !span.Has(mut.Touch(l[i].M), p.Key) {
				t.Fatalf("%v is blamed for %d", l[i], p.Key)
			}
		}
		for key := range 12 {
			last := none()
			l, e := audit.Steps(m.order, key)
			for _, s := range l {
				if s.Was != last || e != api.OK {
					t.Fatalf("Steps of %d: %v", key, l)
				}
				last = s.Is
			}
			if last != get(now, key) {
				t.Fatalf("Steps of %d: %v, but it has %v", key, l, get(now, key))
			}
		}
	}
}

// scribble writes over all that can be written of what a value has.
func scribble(v reflect.Value) {
	switch v.Kind() {
	case reflect.Struct:
		for i := range v.NumField() {
			scribble(v.Field(i))
		}
	case reflect.Slice:
		whole := v.Slice(0, v.Cap())
		for i := range whole.Len() {
			scribble(whole.Index(i))
		}
	case reflect.Int:
		if v.CanSet() {
			v.SetInt(v.Int() + 77777)
		}
	case reflect.Bool:
		if v.CanSet() {
			v.SetBool(!v.Bool())
		}
	}
}

// places are the addresses of all that can be written of what a value has.
func places(v reflect.Value, found map[uintptr]int) {
	switch v.Kind() {
	case reflect.Struct:
		for i := range v.NumField() {
			places(v.Field(i), found)
		}
	case reflect.Slice:
		whole := v.Slice(0, v.Cap())
		for i := range whole.Len() {
			found[whole.Index(i).Addr().Pointer()]++
		}
		for i := range v.Len() {
			places(v.Index(i), found)
		}
	}
}

// Rule 3: what is answered has its own memory, and what is handed in stays as it is.
func TestApart(t *testing.T) {
	g := maker{rand.New(rand.NewSource(25)).Intn}
	for range 300 {
		m := g.tale(40)
		on := spans(0, 2, 3, 4096)
		in := struct {
			Order []api.Entry
			Story []api.Event
			On    []api.Span
		}{m.order, m.story, on}
		was := fmt.Sprint(in)
		mine := map[uintptr]int{}
		places(reflect.ValueOf(in), mine)
		for at := range mine {
			mine[at] = 1 // an entry may have the memory of its event here
		}
		findings, _ := audit.Check(m.order, m.story)
		steps, _ := audit.Steps(m.order, 5)
		blame, _ := audit.Blame(m.order, on, 20)
		audit.Lag(m.order, on, 3)
		for _, x := range []any{findings, steps, blame, audit.Pending(m.order, m.story, 30, 1, 10), audit.Marks(m.story, 1)} {
			places(reflect.ValueOf(x), mine)
			scribble(reflect.ValueOf(x))
		}
		for _, n := range mine {
			if n > 1 {
				t.Fatalf("%s: memory is shared", was)
			}
		}
		if now := fmt.Sprint(in); now != was {
			t.Fatalf("%s becomes %s", was, now)
		}
	}
}

// A long story is looked at in little time: a mutation that is not pending any more is not asked for again.
func TestLong(t *testing.T) {
	var order []api.Entry
	var story []api.Event
	for i := range 3000 {
		m := put(1, i+1, i%5, i)
		order = append(order, at(i+1, m))
		story = append(story, issued(m), read(1, i%5, i, some(i)), read(2, i%5, i+1, some(i)))
	}
	finds(t, order, story)
}
