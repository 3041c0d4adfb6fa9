package keeper

import (
	"testing"

	"splice/api"
	"splice/client"
	"splice/cluster"
)

// Promise 28.1: the lag is 0 if the cores have no order. Those of a cluster always have one, so that this is looked at from inside.
func TestNoOrder(t *testing.T) {
	c := cluster.New(1, 1, [][]api.Span{{{Lo: 0, Hi: 10}}, {{Lo: 5, Hi: 6}}})
	m := api.Mut{Client: 3, Seq: 1, Kind: api.MutPut, Pairs: []api.Pair{{Key: 5, Val: 1}}}
	k := api.Core{ID: 1, Keys: api.Span{Lo: 0, Hi: 10}, Clock: 3, Log: []api.Entry{{M: m, Time: 3, Done: true}}, Known: []api.Known{{Client: 3, Seq: 1, Time: 3, Done: true}}}
	other := k
	other.ID, other.Clock = 2, 4
	for _, x := range []struct {
		cores []api.Core
		want  int
	}{{nil, 0}, {[]api.Core{k}, 1}, {[]api.Core{k, other}, 1}} {
		if n := greatestLag(clients(c), x.cores); n != x.want {
			t.Errorf("%v: %d", x.cores, n)
		}
	}
	other.Log, other.Known = []api.Entry{{M: m, Time: 4, Done: true}}, []api.Known{{Client: 3, Seq: 1, Time: 4, Done: true}}
	for _, l := range [][]api.Core{{k, other}, {k, {}}} {
		if n := greatestLag(clients(c), l); n != 0 {
			t.Errorf("%v: %d", l, n)
		}
	}
	if n := greatestLag([]*client.Client(nil), []api.Core{k}); n != 0 {
		t.Errorf("without clients: %d", n)
	}
}
