package cluster_test

import (
	"fmt"
	"math/rand"
	"reflect"
	"testing"

	"splice/api"
	"splice/cluster"
)

// scribble writes over all that can be written of what a value has.
func scribble(v reflect.Value) {
	switch v.Kind() {
	case reflect.Struct:
		for i := range v.NumField() {
			scribble(v.Field(i))
		}
	case reflect.Slice:
		whole := v.Slice(0, v.Cap())
		for i := range whole.Len() {
			scribble(whole.Index(i))
		}
	case reflect.Int:
		if v.CanSet() {
			v.SetInt(v.Int() + 77777)
		}
	case reflect.Bool:
		if v.CanSet() {
			v.SetBool(!v.Bool())
		}
	}
}

// places are the addresses of all that can be written of what a value has.
func places(v reflect.Value, found map[uintptr]int) {
	switch v.Kind() {
	case reflect.Struct:
		for i := range v.NumField() {
			places(v.Field(i), found)
		}
	case reflect.Slice:
		whole := v.Slice(0, v.Cap())
		for i := range whole.Len() {
			found[whole.Index(i).Addr().Pointer()]++
		}
		for i := range v.Len() {
			places(v.Index(i), found)
		}
	}
}

// spoil writes over what a cluster was handed and has answered, and looks whether it is what it was.
func spoil(t *testing.T, c *cluster.Cluster, was string, in any) {
	t.Helper()
	if now := fmt.Sprint(in); now != was {
		t.Fatalf("%s becomes %s", was, now)
	}
	has := show(c)
	l := []any{in, c.Cores(), c.Chart(), c.Cores(), c.Chart()}
	found := map[uintptr]int{}
	for _, x := range l {
		places(reflect.ValueOf(x), found)
	}
	for _, n := range found {
		if n > 1 {
			t.Fatalf("%s: memory is shared", was)
		}
	}
	for _, x := range l {
		scribble(reflect.ValueOf(x))
	}
	if now := show(c); now != has {
		t.Fatalf("%s: %s becomes %s", was, has, now)
	}
}

// Rule 3: what is answered has its own memory, and what is handed in stays as it is and is not kept.
func TestApart(t *testing.T) {
	g := maker{rand.New(rand.NewSource(183)).Intn}
	for range 20 {
		on := [][]api.Span{g.on(0), g.on(1)}
		c, m := cluster.New(3, 3, on), modelNew(3, 3, on)
		spoil(t, c, fmt.Sprint(on), on)
		m.agrees(t, "what is left", c)
		for range 100 {
			d := g.deed(c)
			was := fmt.Sprint(d)
			m.do(copied(d))
			c.Do(d)
			spoil(t, c, was, d)
			m.agrees(t, was, c)
		}
		c.Calm()
		spoil(t, c, "0", 0)
		m.calm()
		m.agrees(t, "what is left", c)
	}
}

// copied is a deed in its own memory.
func copied(d api.Deed) api.Deed {
	d.M.Pairs = append([]api.Pair(nil), d.M.Pairs...)
	d.Loss.Keep = append([]int(nil), d.Loss.Keep...)
	return d
}
