package client_test

import (
	"fmt"
	"math/rand"
	"reflect"
	"slices"
	"testing"

	"splice/api"
	"splice/chart"
	"splice/client"
)

// scribble writes over all that can be written of what a value has.
func scribble(v reflect.Value) {
	switch v.Kind() {
	case reflect.Struct:
		for i := range v.NumField() {
			scribble(v.Field(i))
		}
	case reflect.Slice:
		whole := v.Slice(0, v.Cap())
		for i := range whole.Len() {
			scribble(whole.Index(i))
		}
	case reflect.Int:
		if v.CanSet() {
			v.SetInt(v.Int() + 77777)
		}
	case reflect.Bool:
		if v.CanSet() {
			v.SetBool(!v.Bool())
		}
	}
}

// places are the addresses of all that can be written of what a value has.
func places(v reflect.Value, found map[uintptr]int) {
	switch v.Kind() {
	case reflect.Struct:
		for i := range v.NumField() {
			places(v.Field(i), found)
		}
	case reflect.Slice:
		whole := v.Slice(0, v.Cap())
		for i := range whole.Len() {
			found[whole.Index(i).Addr().Pointer()]++
		}
		for i := range v.Len() {
			places(v.Index(i), found)
		}
	}
}

// apart tells what is wrong if two of these have memory in common.
func apart(t *testing.T, what any, l ...any) {
	t.Helper()
	found := map[uintptr]int{}
	for _, v := range l {
		places(reflect.ValueOf(v), found)
	}
	for _, n := range found {
		if n > 1 {
			t.Fatalf("%v: memory is shared", what)
		}
	}
}

// twin is a note that is the same, in other memory.
func twin(n api.Note) api.Note {
	n.Entries, n.Pairs, n.Known, n.Chart.L = slices.Clone(n.Entries), slices.Clone(n.Pairs), slices.Clone(n.Known), slices.Clone(n.Chart.L)
	for i, e := range n.Entries {
		n.Entries[i].M.Pairs = slices.Clone(e.M.Pairs)
	}
	return n
}

// spoil writes over what a client was handed and has answered, and looks whether it is what it was.
func spoil(t *testing.T, c *client.Client, was string, in any) {
	t.Helper()
	if now := fmt.Sprint(in); now != was {
		t.Fatalf("%s becomes %s", was, now)
	}
	has := show(c)
	l := []any{in, c.Wants(), c.Now(), c.Pending(), c.Wants(), c.Now(), c.Pending()}
	apart(t, was, l...)
	for _, x := range l {
		scribble(reflect.ValueOf(x))
	}
	if now := show(c); now != has {
		t.Fatalf("%s: %s becomes %s", was, has, now)
	}
}

// Rule 3: what is answered has its own memory, and what is handed in stays as it is and is not kept.
func TestApart(t *testing.T) {
	g := maker{rand.New(rand.NewSource(163)).Intn}
	for range 200 {
		on := g.on()
		x, _ := chart.First(1+g.n(3), 1+g.n(4))
		in := struct {
			On []api.Span
			X  api.Chart
		}{slices.Clone(on), twin(charts(x)).Chart}
		was := fmt.Sprint(in)
		p := &pair{c: client.New(3, in.On, in.X), m: modelNew(3, on, x)}
		spoil(t, p.c, was, in)
		for range 40 {
			m := g.mutation()
			n := twin(g.note(p.m))
			if g.n(12) == 0 {
				n = twin(charts(g.chart(p.m.v.Chart())))
			}
			own := m
			own.Pairs = slices.Clone(m.Pairs)
			p.m.issue(m)
			p.c.Issue(own)
			spoil(t, p.c, fmt.Sprint(m), own)
			p.m.take(twin(n))
			was = fmt.Sprint(n)
			p.c.Take(n)
			spoil(t, p.c, was, n)
			p.agrees(t, g, was)
		}
	}
}

// Rule 3: a mutation that is issued twice from one memory has a memory each time.
func TestSharedPairs(t *testing.T) {
	c := begin(t, 1, 0, 10)
	m := put(5, 7)
	issues(t, c, m, m)
	apart(t, "Pending", c.Pending(), m)
	m.Pairs[0].Val = 8
	reads(t, c, 5, 7)
	c.Pending()[0].Pairs[0].Val = 9
	c.Wants()[0].M.Pairs[0].Val = 9
	reads(t, c, 5, 7)
}
