package tale

import (
	"testing"

	"splice/api"
	"splice/cluster"
)

// Promise 19.2: a Calm that does not come to its end is told as that, with its rounds. It takes more mutations than a
// tale has lines to bring a cluster there, so that this is looked at from inside.
func TestNotCalm(t *testing.T) {
	all := []api.Span{{Lo: 0, Hi: api.MaxKey}}
	c := cluster.New(1, 1, [][]api.Span{all, all, all, all})
	put := api.Mut{Kind: api.MutPut, Pairs: []api.Pair{{Key: 5, Val: 1}}}
	for i := range api.MaxList + 1 {
		if s := do(c, api.Deed{Kind: api.DeedIssue, Who: 1 + i%4, M: put}); s != "ok" {
			t.Fatalf("%d: %s", i, s)
		}
		if i%200 == 199 {
			if _, done := c.Calm(); !done {
				t.Fatalf("not calm after %d", i)
			}
		}
	}
	if s := do(c, api.Deed{Kind: api.DeedCalm}); s != "not 80" { // 60, and 10 for the mutation and 10 for the shard
		t.Error(s)
	}
	if s := end(c); s != "cores 1 order 1000 missing 0 pending 1 epoch 1" {
		t.Error(s)
	}
}
