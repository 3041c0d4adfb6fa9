package chief_test

import (
	"fmt"
	"math/rand"
	"reflect"
	"testing"

	"splice/chief"
	"splice/slab"
)

// scribble writes over all that can be written of what a value has.
func scribble(v reflect.Value) {
	switch v.Kind() {
	case reflect.Struct:
		for i := range v.NumField() {
			scribble(v.Field(i))
		}
	case reflect.Slice:
		whole := v.Slice(0, v.Cap())
		for i := range whole.Len() {
			scribble(whole.Index(i))
		}
	case reflect.Int:
		if v.CanSet() {
			v.SetInt(v.Int() + 77777)
		}
	case reflect.Bool:
		if v.CanSet() {
			v.SetBool(!v.Bool())
		}
	}
}

// places are the addresses of all that can be written of what a value has.
func places(v reflect.Value, found map[uintptr]int) {
	switch v.Kind() {
	case reflect.Struct:
		for i := range v.NumField() {
			places(v.Field(i), found)
		}
	case reflect.Slice:
		whole := v.Slice(0, v.Cap())
		for i := range whole.Len() {
			found[whole.Index(i).Addr().Pointer()]++
		}
		for i := range v.Len() {
			places(v.Index(i), found)
		}
	}
}

// apart tells what is wrong if two of these have memory in common.
func apart(t *testing.T, what any, l ...any) {
	t.Helper()
	found := map[uintptr]int{}
	for _, v := range l {
		places(reflect.ValueOf(v), found)
	}
	for _, n := range found {
		if n > 1 {
			t.Fatalf("%v: memory is shared", what)
		}
	}
}

// spoil writes over what a chief was handed and has answered, and looks whether it is what it was.
func spoil(t *testing.T, c *chief.Chief, was string, in any) {
	t.Helper()
	if now := fmt.Sprint(in); now != was {
		t.Fatalf("%s becomes %s", was, now)
	}
	has := show(c)
	l := []any{in, c.Chart(), c.Heirs(), c.Tick(), c.Chart(), c.Heirs(), c.Tick()}
	apart(t, was, l...)
	for _, x := range l {
		scribble(reflect.ValueOf(x))
	}
	if now := show(c); now != has {
		t.Fatalf("%s: %s becomes %s", was, has, now)
	}
}

// Rule 3: what is answered has its own memory, and what is handed in stays as it is and is not kept.
func TestApart(t *testing.T) {
	g := maker{rand.New(rand.NewSource(173)).Intn}
	heirs := 0
	for range 200 {
		nodes, shards := 1+g.n(3), 1+g.n(4)
		p := &pair{s: slab.New(64), m: modelNew(64, first(nodes, shards))}
		x := first(nodes, shards)
		p.c = open(t, p.s, x)
		spoil(t, p.c, fmt.Sprint(p.m.x), x)
		for range 40 {
			if g.n(3) == 0 {
				y := g.change(p.m.x)
				p.m.begin(y)
				p.c.Change(y)
			} else {
				n := g.note(p.m)
				was := fmt.Sprint(n)
				p.m.take(n) // whose heirs have their own memory
				p.c.Take(n)
				spoil(t, p.c, was, n)
			}
			heirs += len(p.c.Heirs())
			p.agrees(t, "what is left")
		}
		was := show(p.c)
		x = first(nodes, shards)
		p.c, p.m = open(t, p.s, x), p.m.lost()
		spoil(t, p.c, fmt.Sprint(first(nodes, shards)), x)
		if now := show(p.c); now != was {
			t.Fatalf("opened again: %s becomes %s", was, now)
		}
	}
	if heirs < 500 {
		t.Errorf("%d heirs", heirs)
	}
}
