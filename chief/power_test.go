package chief_test

import (
	"fmt"
	"math/rand"
	"testing"

	"splice/api"
	"splice/chief"
	"splice/slab"
	"splice/wal"
)

// loss leaves any part of what was not flushed.
func (g maker) loss(blocks int) api.Loss {
	l := api.Loss{Torn: g.n(blocks+1) - 1, At: g.n(256)}
	most := g.n(3)
	for i := range blocks {
		if g.n(2) < most {
			l.Keep = append(l.Keep, i)
		}
	}
	return l
}

// risk is one call at which the power may fail. It answers whether it did, and whether the call was stored then.
func (p *pair) risk(t *testing.T, g maker) (failed, stored bool) {
	t.Helper()
	was := *p.m
	what, call, same := g.act(p.m)
	f := same(p.m)
	p.s.Trip(1+g.n(6), g.loss(p.s.Blocks()))
	e := call(p.c)
	if e != api.ErrDown {
		p.s.Trip(0, api.Loss{})
		if e != f {
			t.Fatalf("%v: %v, not %v", what, e, f)
		}
		p.agrees(t, what)
		return false, false
	}
	told := fmt.Sprint(p.c.Chart(), p.c.Busy(), p.c.Heirs())
	p.s.Wake()
	if told != fmt.Sprint(was.x, len(was.change) > 0, was.heirs) || !p.c.Down() || p.c.Tick() != nil || p.c.Change(api.Change{}) != api.ErrDown {
		t.Fatalf("%v: it is %s; %s was", what, told, was.show())
	}
	epoch := p.c.Chart().Epoch
	p.c = open(t, p.s, p.x)
	switch is := show(p.c); is {
	case p.m.lost().show():
		p.m, stored = p.m.lost(), true
	case was.lost().show():
		p.m = was.lost()
	default:
		t.Fatalf("%v: %s was, and %s is", what, was.show(), is)
	}
	if p.c.Chart().Epoch < epoch {
		t.Fatalf("the epoch %d becomes %d", epoch, p.c.Chart().Epoch)
	}
	_, p.m.text, p.m.recs, _ = wal.Open(p.s)
	return true, stored
}

// Promise 17.5: whatever a loss of power leaves, a chief is again what it was, or the result of the call that was interrupted.
func TestPower(t *testing.T) {
	g := maker{rand.New(rand.NewSource(175)).Intn}
	fails, kept := 0, 0
	for range 200 {
		p := begin(t, g)
		for range 90 {
			failed, stored := p.risk(t, g)
			if failed {
				fails++
			}
			if stored {
				kept++
			}
		}
	}
	if fails < 1000 || kept < 200 || kept > fails-200 {
		t.Errorf("%d failures, of which %d had stored the call", fails, kept)
	}
}

// Promise 17.5: a new chief that goes down when it is opened is a new one when it is opened again.
func TestOpenPower(t *testing.T) {
	g := maker{rand.New(rand.NewSource(176)).Intn}
	for range 300 {
		s := slab.New(16)
		x := first(1+g.n(5), 1+g.n(24))
		s.Trip(1+g.n(2), g.loss(16))
		if c, e := chief.Open(s, x); c != nil || e != api.ErrDown {
			t.Fatalf("Open: %v, %v", c, e)
		}
		s.Wake()
		y := first(1, 1)
		if c := open(t, s, y); !same(c.Chart(), x) && !same(c.Chart(), y) || c.Busy() {
			t.Fatalf("%s", show(c))
		}
	}
}
