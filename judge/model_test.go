package judge_test

import (
	"fmt"
	"math/rand"
	"reflect"
	"slices"
	"testing"

	"splice/api"
	"splice/core"
	"splice/judge"
	"splice/mut"
	"splice/span"
	"splice/table"
)

// maker makes things that are often near the edge, from numbers that it is handed.
type maker struct {
	n func(most int) int // from 0 on, below most
}

func (g maker) of(l ...int) int {
	return l[g.n(len(l))]
}

func (g maker) key() int {
	return g.of(0, 1, 2, 3, 5, 9, 2047, 2048, 2049, 4095)
}

func (g maker) mutation() api.Mut {
	m := api.Mut{Client: 1 + g.n(3), Seq: 1 + g.n(9), Kind: 1 + g.n(5)}
	k, l, val := g.key(), g.key(), g.n(6)-1
	switch m.Kind {
	case api.MutPut:
		m.Pairs = pairs(k, val, l, 5) // none, if the keys do not rise
	case api.MutDel:
		m.Over = api.Span{Lo: min(k, l), Hi: max(k, l)} // none, if the keys are the same
	case api.MutMove:
		m.Pairs = pairs(k, val, l, val) // none, if the keys are the same, or the value is below 0
	default:
		m.Pairs = pairs(k, val)
	}
	if m.Kind == api.MutCas {
		m.Old = g.of(api.Absent, 0, 1, 5)
	}
	return m
}

// valid is a mutation that may be.
func (g maker) valid() api.Mut {
	if m := g.mutation(); mut.Check(m) {
		return m
	}
	return put(1+g.n(3), 1+g.n(9), g.key(), g.n(5))
}

// history is entries with rising stamps, each mutation once.
func (g maker) history(most int) (l []api.Entry) {
	found := map[api.Stamp]bool{}
	time := 1
	for range g.n(most + 1) {
		m := g.valid()
		n := mut.Stamp(0, m)
		e := api.Entry{M: m, Time: time, Done: g.n(5) > 0}
		time += g.n(3)
		if !found[n] && (len(l) == 0 || mut.Compare(mut.Stamp(l[len(l)-1].Time, l[len(l)-1].M), mut.Stamp(e.Time, m)) < 0) {
			found[n] = true
			l = append(l, e)
		}
	}
	return l
}

// some are cores that know of a history what concerns them, mostly, and may be sealed, hold back or differ.
func (g maker) some(history []api.Entry) (l []api.Core) {
	for range g.n(5) {
		lo := g.key()
		keys := api.Span{Lo: lo, Hi: min(lo+g.of(1, 2, 100, 4096), api.MaxKey)}
		c := shard(1+g.n(9), keys.Lo, keys.Hi, 0)
		for _, e := range history {
			if span.Touch(mut.Touch(e.M), []api.Span{keys}) && g.n(6) > 0 {
				c.Clock = max(c.Clock, e.Time)
				if g.n(60) == 0 {
					e.Done = !e.Done
				}
				c.Log = append(c.Log, e)
			}
		}
		c.Known = shard(1, 0, 1, 0, c.Log...).Known
		if c.Clock += g.n(3); g.n(15) == 0 {
			c.Clock = 0 // it may not be, if it has entries
		}
		if g.n(4) == 0 {
			c.Frozen, c.Sealed = true, true
		} else if m := g.valid(); g.n(3) == 0 {
			c.Held = []api.Wait{{M: m, Time: c.Clock}}
		}
		if core.Check(c) || g.n(8) == 0 {
			l = append(l, c)
		}
	}
	return l
}

// order does what chapter 15 says, word by word: the least entry that is not there, again and again.
func order(l []api.Core) (all []api.Entry, e api.Errno) {
	for _, c := range l {
		if !core.Check(c) {
			return nil, api.ErrArg
		}
	}
	for _, c := range l {
		for _, d := range l {
			for _, a := range c.Log {
				for _, b := range d.Log {
					if a.M.Client == b.M.Client && a.M.Seq == b.M.Seq && !same(a, b) {
						return nil, api.ErrForm
					}
				}
			}
		}
	}
	for {
		var next *api.Entry
		for _, c := range l {
			for _, e := range c.Log {
				there := slices.ContainsFunc(all, func(a api.Entry) bool { return a.M.Client == e.M.Client && a.M.Seq == e.M.Seq })
				if !there && (next == nil || mut.Compare(mut.Stamp(e.Time, e.M), mut.Stamp(next.Time, next.M)) < 0) {
					next = &e
				}
			}
		}
		if next == nil {
			return all, api.OK
		}
		all = append(all, *next)
	}
}

// missing does what chapter 15 says, word by word.
func missing(l []api.Core) (n int) {
	all, e := order(l)
	if e != api.OK {
		return -1
	}
	for _, c := range l {
		for _, e := range all {
			known := slices.ContainsFunc(c.Known, func(k api.Known) bool { return k.Client == e.M.Client && k.Seq == e.M.Seq })
			if !c.Sealed && e.Time <= core.Floor(c) && span.Touch(mut.Touch(e.M), []api.Span{c.Keys}) && !known {
				n++
			}
		}
	}
	return n
}

// fold does what chapter 15 says, word by word.
func fold(l []api.Entry, on []api.Span, mark int) (now []api.Pair) {
	for _, e := range l {
		if e.Time <= mark && e.Done {
			now, _ = table.Apply(now, e.M, on)
		}
	}
	return now
}

// clients does what chapter 15 says, word by word.
func clients(l []api.Entry) bool {
	for i, e := range l {
		for _, f := range l[:i] {
			if f.M.Client == e.M.Client && f.M.Seq >= e.M.Seq {
				return false
			}
		}
	}
	return true
}

// judged looks whether what is answered of some cores is what the words of the chapter come to.
func judged(t *testing.T, g maker) api.Errno {
	t.Helper()
	l := g.some(g.history(40))
	got, e := judge.Order(l)
	want, f := order(l)
	if !same(got, want) || e != f || e != api.OK && got != nil {
		t.Fatalf("Order of %v: %v, %v, not %v, %v", l, got, e, want, f)
	}
	if n := judge.Missing(l); n != missing(l) {
		t.Fatalf("%v: %d are missing, not %d", l, n, missing(l))
	}
	entries := g.history(20)
	for i := range entries {
		if g.n(20) == 0 {
			j := g.n(len(entries))
			entries[i], entries[j] = entries[j], entries[i]
		}
	}
	if judge.Clients(entries) != clients(entries) {
		t.Fatalf("Clients of %v: %v", entries, !clients(entries))
	}
	on, mark := spans(g.key(), 4096), g.n(40)
	if !span.Check(on) {
		on = nil
	}
	if got, want := judge.Fold(entries, on, mark), fold(entries, on, mark); !slices.Equal(got, want) {
		t.Fatalf("Fold of %v on %v up to %d: %v, not %v", entries, on, mark, got, want)
	}
	return e
}

// Promises 15.1 to 15.3: what the words of the chapter come to.
func TestModel(t *testing.T) {
	g := maker{rand.New(rand.NewSource(15)).Intn}
	found := map[api.Errno]int{}
	for range 3000 {
		found[judged(t, g)]++
	}
	for _, e := range []api.Errno{api.OK, api.ErrArg, api.ErrForm} {
		if found[e] < 100 {
			t.Errorf("the error %v was found %d times", e, found[e])
		}
	}
}

// Promises 15.1 to 15.3, for any numbers.
func FuzzModel(f *testing.F) {
	f.Add("")
	f.Add("some numbers that are not in order: 3,1,4,1,5,9,2,6,5")
	f.Fuzz(func(t *testing.T, s string) {
		at := 0
		judged(t, maker{func(most int) int {
			at++
			if at > len(s) {
				return at % most
			}
			return int(s[at-1]) % most
		}})
	})
}

// Promise 15.4: a fold goes on to a greater mark by the entries in between; the folds on two sets are one on both.
func TestFoldParts(t *testing.T) {
	g := maker{rand.New(rand.NewSource(154)).Intn}
	all := spans(0, 4096)
	for range 2000 {
		l := g.history(40)
		mark := g.n(40)
		more := mark + g.n(20)
		var between []api.Mut
		for _, e := range l {
			if e.Done && mark < e.Time && e.Time <= more {
				between = append(between, e.M)
			}
		}
		on, e := span.Make(spans(g.key(), 4096, 0, 1+g.key()))
		if e != api.OK || g.n(2) == 0 {
			on = spans(0, 3, 5, 6, 2048, 3000)
		}
		if got, want := judge.Onto(judge.Fold(l, on, mark), between, on), judge.Fold(l, on, more); !slices.Equal(got, want) {
			t.Fatalf("%v on %v from %d up to %d: %v, not %v", l, on, mark, more, got, want)
		}
		other, _ := span.Less(all, on)
		both, e := table.Join(judge.Fold(l, on, mark), judge.Fold(l, other, mark))
		if want := judge.Fold(l, all, mark); e != api.OK || !slices.Equal(both, want) {
			t.Fatalf("%v on %v and %v: %v, not %v", l, on, other, both, want)
		}
	}
}

// scribble writes over all that can be written of what a value has.
func scribble(v reflect.Value) {
	switch v.Kind() {
	case reflect.Struct:
		for i := range v.NumField() {
			scribble(v.Field(i))
		}
	case reflect.Slice:
		whole := v.Slice(0, v.Cap())
		for i := range whole.Len() {
			scribble(whole.Index(i))
		}
	case reflect.Int:
		if v.CanSet() {
			v.SetInt(v.Int() + 77777)
		}
	case reflect.Bool:
		if v.CanSet() {
			v.SetBool(!v.Bool())
		}
	}
}

// places are the addresses of all that can be written of what a value has.
func places(v reflect.Value, found map[uintptr]int) {
	switch v.Kind() {
	case reflect.Struct:
		for i := range v.NumField() {
			places(v.Field(i), found)
		}
	case reflect.Slice:
		whole := v.Slice(0, v.Cap())
		for i := range whole.Len() {
			found[whole.Index(i).Addr().Pointer()]++
		}
		for i := range v.Len() {
			places(v.Index(i), found)
		}
	}
}

// apart looks whether an answer has no place twice, none of an argument's, and can be written over without a change to the argument.
func apart(t *testing.T, argument, answer any, was string) {
	t.Helper()
	found, own := map[uintptr]int{}, map[uintptr]int{}
	places(reflect.ValueOf(argument), found)
	places(reflect.ValueOf(answer), own)
	for at, n := range own {
		if n > 1 || found[at] > 0 {
			t.Fatalf("%s: memory is shared", was)
		}
	}
	scribble(reflect.ValueOf(answer))
	if now := fmt.Sprint(argument); now != was {
		t.Fatalf("%s becomes %s", was, now)
	}
}

// Rule 3: what is answered has its own memory, and what is handed in stays as it is.
func TestApart(t *testing.T) {
	g := maker{rand.New(rand.NewSource(16)).Intn}
	for range 500 {
		l := g.some(g.history(40))
		was := fmt.Sprint(l)
		entries, _ := judge.Order(l)
		judge.Missing(l)
		apart(t, l, entries, was)
		h := g.history(30)
		was = fmt.Sprint(h)
		judge.Clients(h)
		apart(t, h, judge.Fold(h, spans(0, 4096), 20), was)
		in := struct {
			Base []api.Pair
			L    []api.Mut
		}{pairs(1, 1, 5, 5, 9, 9), []api.Mut{g.valid(), g.valid()}[:g.n(3)]}
		was = fmt.Sprint(in)
		apart(t, in, judge.Onto(in.Base, in.L, spans(0, 6)), was)
	}
}
