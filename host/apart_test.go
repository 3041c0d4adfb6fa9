package host_test

import (
	"fmt"
	"math/rand"
	"reflect"
	"testing"

	"splice/api"
	"splice/host"
)

// scribble writes over all that can be written of what a value has.
func scribble(v reflect.Value) {
	switch v.Kind() {
	case reflect.Struct:
		for i := range v.NumField() {
			scribble(v.Field(i))
		}
	case reflect.Slice:
		whole := v.Slice(0, v.Cap())
		for i := range whole.Len() {
			scribble(whole.Index(i))
		}
	case reflect.Int:
		if v.CanSet() {
			v.SetInt(v.Int() + 77777)
		}
	case reflect.Bool:
		if v.CanSet() {
			v.SetBool(!v.Bool())
		}
	}
}

// places are the addresses of all that can be written of what a value has.
func places(v reflect.Value, found map[uintptr]int) {
	switch v.Kind() {
	case reflect.Struct:
		for i := range v.NumField() {
			places(v.Field(i), found)
		}
	case reflect.Slice:
		whole := v.Slice(0, v.Cap())
		for i := range whole.Len() {
			found[whole.Index(i).Addr().Pointer()]++
		}
		for i := range v.Len() {
			places(v.Index(i), found)
		}
	}
}

// apart tells what is wrong if two lists of these have memory in common.
func apart(t *testing.T, what any, l ...any) {
	t.Helper()
	found := map[uintptr]int{}
	for _, v := range l {
		places(reflect.ValueOf(v), found)
	}
	for _, n := range found {
		if n > 1 {
			t.Fatalf("%v: memory is shared", what)
		}
	}
}

// spoil writes over what a call was handed and answered, and looks whether the host is what it was.
func (p *pair) spoil(t *testing.T, what string, n api.Note, l []api.Note) {
	t.Helper()
	has, cores, x := show(p.h), p.h.Cores(), p.h.Chart()
	apart(t, what, n, l, cores, x, p.h.Cores(), p.h.Chart())
	for _, v := range []any{n, l, cores, x} {
		scribble(reflect.ValueOf(v))
	}
	if now := show(p.h); now != has {
		t.Fatalf("%s: %s becomes %s", what, has, now)
	}
}

// Rule 3: what is answered has its own memory, and what is handed in stays as it is and is not kept.
func TestApart(t *testing.T) {
	g := maker{rand.New(rand.NewSource(17)).Intn}
	for range 300 {
		p := begin(t, g)
		for range 60 {
			n := g.note(p.h.Chart(), p.h.Cores())
			was := fmt.Sprint(n)
			l, _ := p.h.Take(n)
			if now := fmt.Sprint(n); now != was {
				t.Fatalf("%s becomes %s", was, now)
			}
			p.spoil(t, was, n, l)
			if g.n(10) == 0 {
				l, _ = p.h.Tick()
				p.spoil(t, "Tick", n, l)
			}
		}
		was := fmt.Sprint(p.h.Chart(), bare(p.h.Cores()))
		if now := show(open(t, p.s, first(1, 1))); now != was {
			t.Fatalf("opened again: %s, not %s", now, was)
		}
	}
}

// Rule 3: a first chart is not kept, nor what a host stored.
func TestOpenApart(t *testing.T) {
	g := maker{rand.New(rand.NewSource(18)).Intn}
	p := begin(t, g)
	x := first(1, 2)
	h, e := host.Open(p.s, 1, x)
	if e != api.OK {
		t.Fatal(e)
	}
	apart(t, "Open", x, p.x, h.Chart(), h.Cores())
	x = first(2, 4)
	h = open(t, stored(t, 64, ""), x)
	was := show(h)
	scribble(reflect.ValueOf(x))
	if now := show(h); now != was {
		t.Errorf("%s, not %s", now, was)
	}
}
