package view_test

import (
	"fmt"
	"math/rand"
	"reflect"
	"slices"
	"testing"

	"splice/api"
	"splice/view"
)

// scribble writes over all that can be written of what a value has.
func scribble(v reflect.Value) {
	switch v.Kind() {
	case reflect.Struct:
		for i := range v.NumField() {
			scribble(v.Field(i))
		}
	case reflect.Slice:
		whole := v.Slice(0, v.Cap())
		for i := range whole.Len() {
			scribble(whole.Index(i))
		}
	case reflect.Int:
		if v.CanSet() {
			v.SetInt(v.Int() + 77777)
		}
	case reflect.Bool:
		if v.CanSet() {
			v.SetBool(!v.Bool())
		}
	}
}

// places are the addresses of all that can be written of what a value has.
func places(v reflect.Value, found map[uintptr]int) {
	switch v.Kind() {
	case reflect.Struct:
		for i := range v.NumField() {
			places(v.Field(i), found)
		}
	case reflect.Slice:
		whole := v.Slice(0, v.Cap())
		for i := range whole.Len() {
			found[whole.Index(i).Addr().Pointer()]++
		}
		for i := range v.Len() {
			places(v.Index(i), found)
		}
	}
}

// apart tells what is wrong if two lists of these have memory in common.
func apart(t *testing.T, what any, l ...any) {
	t.Helper()
	found := map[uintptr]int{}
	for _, v := range l {
		places(reflect.ValueOf(v), found)
	}
	for _, n := range found {
		if n > 1 {
			t.Fatalf("%v: memory is shared", what)
		}
	}
}

func show(v *view.View) string {
	return fmt.Sprint(v.Mark(), v.Base(), v.Chart(), v.On(), v.Wants(1))
}

// twin is a note that is the same, in other memory.
func twin(n api.Note) api.Note {
	n.Entries, n.Pairs, n.Chart.L = slices.Clone(n.Entries), slices.Clone(n.Pairs), slices.Clone(n.Chart.L)
	for i, e := range n.Entries {
		n.Entries[i].M.Pairs = slices.Clone(e.M.Pairs)
	}
	return n
}

// spoil writes over what a view was handed and has answered, and looks whether it is what it was.
func spoil(t *testing.T, v *view.View, n api.Note, was string, seen []api.Entry) {
	t.Helper()
	if now := fmt.Sprint(n); now != was {
		t.Fatalf("%s becomes %s", was, now)
	}
	has := show(v)
	l := []any{n, seen, v.Base(), v.Chart(), v.On(), v.Wants(1), v.Base(), v.Chart(), v.On(), v.Wants(1)}
	apart(t, was, l...)
	for _, x := range l {
		scribble(reflect.ValueOf(x))
	}
	if now := show(v); now != has {
		t.Fatalf("%s: %s becomes %s", was, has, now)
	}
}

// Rule 3: what is answered has its own memory, and what is handed in stays as it is and is not kept.
func TestApart(t *testing.T) {
	g := maker{rand.New(rand.NewSource(17)).Intn}
	seen := 0
	for range 500 {
		on := g.on()
		p := &pair{v: view.New(on), m: modelNew(slices.Clone(on))}
		scribble(reflect.ValueOf(on))
		for range 40 {
			n := twin(g.note(p.m))
			n.Chart = twin(api.Note{Chart: g.chart(p.m.x)}).Chart
			m, was := twin(n), fmt.Sprint(n)
			switch {
			case p.m.x.Epoch == 0 || g.n(9) == 0:
				p.v.Learn(n.Chart)
				p.m.learn(m.Chart)
			case n.Kind == api.NoteState:
				p.v.State(n)
				p.m.state(m)
			default:
				p.v.Page(n)
				p.m.page(m)
			}
			var l []api.Entry
			if g.n(3) == 0 {
				l = p.v.Seen()
				if !same(l, p.m.seen) {
					t.Fatalf("%s: saw %v, not %v", was, l, p.m.seen)
				}
				p.m.seen = nil
			}
			seen += len(l)
			spoil(t, p.v, n, was, l)
			p.agrees(t, maker{func(int) int { return 1 }}, was)
		}
	}
	if seen < 500 {
		t.Errorf("%d entries were seen", seen)
	}
}

// Rule 3: entries that were handed in with one memory are told with a memory for each.
func TestSharedEntries(t *testing.T) {
	v := begin(t, 1, 0, 10)
	e := put(1, 1, 1)
	hears(t, v, state(1, 0, 0), page(1, 0, 1, e, e, e))
	l := v.Seen()
	apart(t, "Seen", l)
	if len(l) != 3 {
		t.Errorf("Seen: %v", l)
	}
	apart(t, "Seen", l, e.M.Pairs)
}
