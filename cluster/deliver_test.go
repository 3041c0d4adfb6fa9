package cluster

import (
	"testing"

	"splice/api"
)

// Promise 18.2: so many mails arrive in a round, with those that are sent meanwhile, and no more: the others wait.
// Clients and hosts hardly ever tell as much, so that this is looked at from inside.
func TestDeliver(t *testing.T) {
	if arrivals != 3000 {
		t.Errorf("%d", arrivals)
	}
	c := New(1, 1, [][]api.Span{{{Lo: 0, Hi: 10}}})
	for range 5 {
		c.Do(api.Deed{Kind: api.DeedTell, Who: 1}) // a pull, which is answered
	}
	for _, x := range []struct{ most, left int }{{0, 5}, {3, 5}, {3, 4}, {1, 3}, {0, 3}, {4, 0}, {4, 0}} {
		c.deliver(x.most)
		if n := c.Mails(); n != x.left {
			t.Fatalf("%d mails are left, not %d", n, x.left)
		}
	}
}
