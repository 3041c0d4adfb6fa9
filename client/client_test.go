package client_test

import (
	"fmt"
	"math"
	"slices"
	"testing"

	"splice/api"
	"splice/chart"
	"splice/client"
	"splice/mut"
	"splice/span"
)

// spans are the spans from one key up to another that stand two by two.
func spans(l ...int) (out []api.Span) {
	for i := 0; i+1 < len(l); i += 2 {
		out = append(out, api.Span{Lo: l[i], Hi: l[i+1]})
	}
	return out
}

// pairs are the pairs of keys and values that stand two by two.
func pairs(l ...int) (out []api.Pair) {
	for i := 0; i+1 < len(l); i += 2 {
		out = append(out, api.Pair{Key: l[i], Val: l[i+1]})
	}
	return out
}

// fresh is a mutation that no client has issued.
func fresh(kind int, l ...int) api.Mut {
	return api.Mut{Kind: kind, Pairs: pairs(l...)}
}

func put(l ...int) api.Mut {
	return fresh(api.MutPut, l...)
}

func add(key, val int) api.Mut {
	return fresh(api.MutAdd, key, val)
}

func move(from, to, val int) api.Mut {
	return fresh(api.MutMove, from, val, to, val)
}

func del(lo, hi int) api.Mut {
	return api.Mut{Kind: api.MutDel, Over: api.Span{Lo: lo, Hi: hi}}
}

// by is a mutation as a client's seq-th one.
func by(client, seq int, m api.Mut) api.Mut {
	m.Client, m.Seq = client, seq
	return m
}

// entry is a mutation that was committed and did not fail.
func entry(time int, m api.Mut) api.Entry {
	return api.Entry{M: m, Time: time, Done: true}
}

// ack is an acknowledgement for the client 3.
func ack(seq, time int) api.Note {
	return api.Note{Kind: api.NoteAck, Client: 3, Seq: seq, Time: time, Done: true}
}

// page is a note of a shard's entries from the n-th one on.
func page(from, n, time int, l ...api.Entry) api.Note {
	return api.Note{Kind: api.NotePage, From: from, N: n, Time: time, Entries: l}
}

// state is a note of what a shard has at a time, without entries.
func state(from, time int, has []api.Pair, l ...api.Known) api.Note {
	return api.Note{Kind: api.NoteState, From: from, Time: time, Pairs: has, Known: l}
}

func known(client, seq, time int) api.Known {
	return api.Known{Client: client, Seq: seq, Time: time, Done: true}
}

func charts(x api.Chart) api.Note {
	return api.Note{Kind: api.NoteChart, Chart: x}
}

// charted is the first chart of some shards, after some changes.
func charted(t *testing.T, shards int, l ...api.Change) api.Chart {
	t.Helper()
	x, e := chart.First(3, shards)
	for _, c := range l {
		if e == api.OK {
			x, _, _, e = chart.Apply(x, c)
		}
	}
	if e != api.OK {
		t.Fatalf("the chart: %v", e)
	}
	return x
}

// begin is the client 3, which follows keys and knows the first chart of some shards.
func begin(t *testing.T, shards int, on ...int) *client.Client {
	t.Helper()
	c := client.New(3, spans(on...), charted(t, shards))
	if c == nil {
		t.Fatalf("no client of %v", on)
	}
	return c
}

// issues issues mutations, which get the numbers that follow those of the pending ones, or of none.
func issues(t *testing.T, c *client.Client, l ...api.Mut) {
	t.Helper()
	for _, m := range l {
		was := c.Pending()
		seq, e := c.Issue(m)
		if e != api.OK || !same(c.Pending(), append(was, by(c.ID(), seq, m))) {
			t.Fatalf("Issue of %v: %d, %v; pending are %v", m, seq, e, c.Pending())
		}
	}
}

// hears lets notes come.
func hears(t *testing.T, c *client.Client, l ...api.Note) {
	t.Helper()
	for _, n := range l {
		if e := c.Take(n); e != api.OK {
			t.Fatalf("Take of %v: %v", n, e)
		}
	}
}

// refuses lets a note come that is an error, and changes nothing.
func refuses(t *testing.T, c *client.Client, n api.Note, want api.Errno) {
	t.Helper()
	was := show(c)
	if e := c.Take(n); e != want {
		t.Errorf("Take of %v: %v, not %v", n, e, want)
	}
	if now := show(c); now != was {
		t.Errorf("Take of %v: %s becomes %s", n, was, now)
	}
}

// show is all that is asked of a client, and of its view, but for what was seen.
func show(c *client.Client) string {
	v := c.View()
	return fmt.Sprint(c.ID(), c.Mark(), c.Last(), c.Pending(), c.Wants(), c.Now(), v.Mark(), v.Base(), v.Chart(), v.On())
}

// same tells whether two are the same; nil lists and empty ones are.
func same(a, b any) bool {
	return fmt.Sprint(a) == fmt.Sprint(b)
}

// pend looks which mutations are pending, by their numbers.
func pend(t *testing.T, c *client.Client, want ...int) {
	t.Helper()
	var got []int
	for _, m := range c.Pending() {
		got = append(got, m.Seq)
	}
	if !slices.Equal(got, want) {
		t.Fatalf("pending are %v, not %v", got, want)
	}
}

// pushes looks which mutation is pushed (0: none) to which shard, with which time.
func pushes(t *testing.T, c *client.Client, seq, to, time int) {
	t.Helper()
	want := c.View().Wants(c.ID())
	for _, m := range c.Pending() {
		if m.Seq == seq {
			want = append([]api.Note{{Kind: api.NotePush, To: to, Client: c.ID(), Time: time, M: m}}, want...)
		}
	}
	if l := c.Wants(); !same(l, want) {
		t.Fatalf("Wants: %v, not %v", l, want)
	}
}

// reads looks what a client reads.
func reads(t *testing.T, c *client.Client, l ...int) {
	t.Helper()
	if now := c.Now(); !slices.Equal(now, pairs(l...)) {
		t.Fatalf("Now: %v, not %v", now, pairs(l...))
	}
	for _, p := range pairs(l...) {
		if val, some, e := c.Read(p.Key); val != p.Val || !some || e != api.OK {
			t.Fatalf("Read of %d: %d, %v, %v, not %d", p.Key, val, some, e, p.Val)
		}
	}
}

// Promise 16.1: a new client has no mutations, and its view knows the chart.
func TestNew(t *testing.T) {
	x, on := charted(t, 2), spans(0, 10, 3000, 3001)
	for _, id := range []int{1, 2, api.MaxClient} {
		c := client.New(id, on, x)
		if c == nil || c.ID() != id || c.Mark() != 0 || c.Last() != 0 || len(c.Pending()) > 0 || len(c.Now()) > 0 {
			t.Fatalf("the client %d: %v", id, c)
		}
		if v := c.View(); !same(v.On(), on) || !same(v.Chart(), x) || v.Mark() != 0 || !same(c.Wants(), v.Wants(id)) || len(c.Wants()) != 2 {
			t.Errorf("the client %d wants %v; its view follows %v and knows %v", id, c.Wants(), v.On(), v.Chart())
		}
	}
}

// Promise 16.1: what there is no client of.
func TestNewNone(t *testing.T) {
	x, on := charted(t, 2), spans(0, 10)
	for _, id := range []int{0, -1, api.MaxClient + 1, math.MinInt, math.MaxInt} {
		if client.New(id, on, x) != nil {
			t.Errorf("there is a client %d", id)
		}
	}
	for _, on := range [][]api.Span{nil, {}, spans(0, 0), spans(0, api.MaxKey+1), spans(-1, 2), spans(5, 6, 1, 2), spans(1, 3, 3, 5)} {
		if client.New(1, on, x) != nil {
			t.Errorf("there is a client of %v", on)
		}
	}
	gap := charted(t, 2)
	gap.L[1].Keys.Lo++
	if client.New(1, on, api.Chart{}) != nil || client.New(1, on, gap) != nil || client.New(1, on, x) == nil {
		t.Error("a client knows a chart that may not be, or none that may be")
	}
}

// Promise 16.1: mutations get the client's number, and numbers from 1 on.
func TestIssue(t *testing.T) {
	c := begin(t, 1, 0, 10, 20, 30)
	l := []api.Mut{put(5, 7), add(0, -3), del(20, 30), move(9, 20, 4), {Kind: api.MutCas, Pairs: pairs(29, 1), Old: api.Absent}}
	for i, m := range l {
		if seq, e := c.Issue(m); seq != i+1 || e != api.OK {
			t.Fatalf("Issue of %v: %d, %v", m, seq, e)
		}
		l[i] = by(3, i+1, m)
		if !same(c.Pending(), l[:i+1]) {
			t.Fatalf("pending: %v, not %v", c.Pending(), l[:i+1])
		}
	}
}

// Promise 16.1: what is not issued takes no number.
func TestIssueWrong(t *testing.T) {
	c := begin(t, 1, 0, 10, 20, 30)
	issues(t, c, put(5, 7))
	for _, m := range []api.Mut{
		{},
		by(3, 0, put(5, 1)), by(0, 2, put(5, 1)), by(3, 2, put(5, 1)), by(-1, 0, put(5, 1)), by(0, -1, put(5, 1)),
		put(), put(5, api.MaxVal+1), put(5, 1, 5, 2), put(0, 1, 1, 1, 2, 1, 3, 1, 4, 1, 5, 1, 6, 1, 7, 1, 8, 1),
		fresh(0, 5, 1), fresh(6, 5, 1), fresh(api.MutAdd, 5, 1, 6, 1), move(5, 5, 1), move(5, 6, -1), del(5, 5), del(6, 5),
		{Kind: api.MutAdd, Pairs: pairs(5, 1), Old: 1}, {Kind: api.MutPut, Pairs: pairs(5, 1), Over: api.Span{Hi: 1}},
		add(10, 1), add(19, 1), add(30, 1), add(-1, 1), add(api.MaxKey, 1),
		put(5, 1, 10, 1), move(9, 10, 1), move(10, 9, 1), del(5, 11), del(9, 21), del(10, 20), del(19, 25), del(0, api.MaxKey),
	} {
		was := show(c)
		if seq, e := c.Issue(m); seq != 0 || e != api.ErrArg {
			t.Errorf("Issue of %v: %d, %v", m, seq, e)
		}
		if now := show(c); now != was {
			t.Errorf("Issue of %v: %s becomes %s", m, was, now)
		}
	}
	if seq, e := c.Issue(add(29, 1)); seq != 2 || e != api.OK {
		t.Errorf("Issue: %d, %v", seq, e)
	}
}

// Promise 16.1: 64 mutations are pending at most, and one that may not be is refused before that counts.
func TestIssueFull(t *testing.T) {
	c := begin(t, 1, 0, 10)
	if client.MaxPending != 64 {
		t.Fatalf("MaxPending: %d", client.MaxPending)
	}
	for i := range 64 {
		if seq, e := c.Issue(add(i%10, 1)); seq != i+1 || e != api.OK {
			t.Fatalf("Issue: %d, %v", seq, e)
		}
	}
	was := show(c)
	for _, m := range []api.Mut{add(10, 1), by(3, 0, add(1, 1)), by(0, 65, add(1, 1)), put()} {
		if seq, e := c.Issue(m); seq != 0 || e != api.ErrArg {
			t.Errorf("Issue of %v: %d, %v", m, seq, e)
		}
	}
	if seq, e := c.Issue(add(1, 1)); seq != 0 || e != api.ErrFull || show(c) != was {
		t.Errorf("Issue: %d, %v; %s becomes %s", seq, e, was, show(c))
	}
	hears(t, c, ack(1, 4))
	if seq, e := c.Issue(add(1, 1)); seq != 0 || e != api.ErrFull {
		t.Errorf("Issue: %d, %v", seq, e)
	}
	hears(t, c, state(1, 4, nil))
	if seq, e := c.Issue(add(1, 1)); seq != 65 || e != api.OK || len(c.Pending()) != 64 {
		t.Errorf("Issue: %d, %v", seq, e)
	}
	if seq, e := c.Issue(add(1, 1)); seq != 0 || e != api.ErrFull {
		t.Errorf("Issue: %d, %v", seq, e)
	}
}

// Promise 16.2: an acknowledgement tells the time of a mutation that is pending, once.
func TestAck(t *testing.T) {
	c := begin(t, 1, 0, 10)
	issues(t, c, add(5, 1), add(5, 2), add(5, 3))
	for _, n := range []api.Note{{Kind: api.NoteAck, Client: 4, Seq: 1, Time: 4}, {Kind: api.NoteAck, Seq: 1, Time: 4}, ack(1, -1), ack(1, api.MaxTime+1), ack(1, math.MinInt)} {
		refuses(t, c, n, api.ErrArg)
	}
	for _, n := range []api.Note{ack(0, 9), ack(4, 9), ack(-1, 9), ack(math.MaxInt, 9)} {
		was := show(c)
		hears(t, c, n)
		if show(c) != was {
			t.Errorf("%v: %s becomes %s", n, was, show(c))
		}
	}
	pushes(t, c, 1, 1, 0)
	hears(t, c, ack(1, 4))
	pushes(t, c, 2, 1, 4)
	hears(t, c, ack(1, 9), ack(1, 2))
	pushes(t, c, 2, 1, 4)
	hears(t, c, ack(3, api.MaxTime))
	pushes(t, c, 2, 1, api.MaxTime)
	hears(t, c, ack(2, 0))
	pushes(t, c, 0, 0, 0)
	pend(t, c, 1, 2, 3)
	if c.Last() != api.MaxTime {
		t.Errorf("Last: %d", c.Last())
	}
	hears(t, c, state(1, 4, nil))
	pend(t, c, 3)
	hears(t, c, ack(1, 7), ack(2, 7))
	pend(t, c, 3)
}

// Promise 16.2: what does not come to clients is no note for them, and what the view refuses is refused.
func TestTakeWrong(t *testing.T) {
	c := begin(t, 2, 0, 10)
	issues(t, c, add(5, 1), add(5, 2))
	own := entry(4, by(3, 1, add(5, 1)))
	refuses(t, c, page(1, 0, 4, own), api.ErrNone)
	hears(t, c, state(1, 1, nil))
	kinds := []int{0, -1, api.NotePush, api.NoteProp, api.NoteFinal, api.NotePull, api.NoteFreeze, api.NoteSeal, api.NoteSealed, api.NoteShard, api.NoteBegun, 14, math.MaxInt}
	for _, k := range kinds {
		refuses(t, c, api.Note{Kind: k, From: 1, Client: 3, Seq: 1, Time: 9, Entries: []api.Entry{own}, Known: []api.Known{known(3, 1, 4)}, Chart: charted(t, 1)}, api.ErrArg)
	}
	refuses(t, c, charts(api.Chart{}), api.ErrArg)
	refuses(t, c, page(2, 0, 4, own), api.ErrNone)
	refuses(t, c, page(1, 1, 4, own), api.ErrForm)
	refuses(t, c, page(1, -1, 4, own), api.ErrForm)
	refuses(t, c, page(1, 0, 4, own, entry(-1, by(3, 2, add(5, 2)))), api.ErrArg)
	refuses(t, c, page(1, 0, 4, own, entry(5, add(5, 2))), api.ErrArg)
	refuses(t, c, state(1, 9, nil, known(3, 1, 4)), api.ErrNone)
	refuses(t, c, state(2, 9, nil, known(3, 1, 4)), api.ErrNone)
	refuses(t, c, state(1, -1, nil, known(3, 1, 4)), api.ErrArg)
	refuses(t, c, state(1, 9, pairs(5, 1, 5, 1), known(3, 1, 4)), api.ErrArg)
	pend(t, c, 1, 2)
}

// Promise 16.2: a page tells the times of the client's own entries, also of those that the view has already, and of those that failed.
func TestPage(t *testing.T) {
	c := begin(t, 1, 0, 10)
	issues(t, c, add(5, 1), add(5, 2), add(5, -9), add(5, 4))
	hears(t, c, state(1, 1, pairs(5, 1)))
	hears(t, c, page(1, 0, 3, entry(2, by(4, 1, add(5, 1))), entry(3, by(2, 2, add(5, 1)))))
	pushes(t, c, 1, 1, 0)
	pend(t, c, 1, 2, 3, 4)
	reads(t, c, 5, 10)
	hears(t, c, page(1, 2, 5, entry(4, by(3, 1, add(5, 1))), entry(5, by(3, 2, add(5, 2)))))
	pushes(t, c, 3, 1, 5)
	pend(t, c, 3, 4)
	reads(t, c, 5, 10)
	failed := entry(6, by(3, 3, add(5, -9)))
	failed.Done = false
	hears(t, c, page(1, 4, 6, failed))
	pushes(t, c, 4, 1, 6)
	pend(t, c, 4)
	reads(t, c, 5, 10)
	hears(t, c, page(1, 5, 6, entry(9, by(3, 4, add(5, 4)))))
	pushes(t, c, 0, 0, 0)
	pend(t, c, 4)
	if c.Last() != 9 || c.Mark() != 6 {
		t.Errorf("Last %d, Mark %d", c.Last(), c.Mark())
	}
	hears(t, c, page(1, 6, 9))
	pend(t, c)
	reads(t, c, 5, 10)
}

// Promise 16.2: a page also tells times if the view takes none of its entries.
func TestPageAgain(t *testing.T) {
	c := begin(t, 1, 0, 10)
	issues(t, c, add(5, 1))
	n := state(1, 7, pairs(5, 9))
	n.N = 2
	hears(t, c, n, page(1, 0, 5, entry(4, by(3, 1, add(5, 1)))))
	pend(t, c)
	reads(t, c, 5, 9)
	if c.Last() != 4 || c.Mark() != 7 {
		t.Errorf("Last %d, Mark %d", c.Last(), c.Mark())
	}
}

// Promise 16.2: a state tells the times of what it knows of the client, the first of them for each mutation.
func TestState(t *testing.T) {
	c := begin(t, 2, 2040, 2056)
	issues(t, c, move(2040, 2050, 3), put(2041, 4), put(2042, 4))
	hears(t, c, state(2, 6, pairs(2050, 3), known(2, 2, 4), known(3, 1, 5), known(3, 1, 9), known(3, 4, 20), known(4, 3, 21)))
	pushes(t, c, 2, 1, 5)
	pend(t, c, 1, 2, 3)
	reads(t, c, 2040, -3, 2041, 4, 2042, 4, 2050, 3)
	hears(t, c, state(1, 4, nil, known(3, 1, 8), known(3, 2, 6)))
	pushes(t, c, 3, 1, 6)
	pend(t, c, 1, 2, 3) // the state of the one is of a later time than the other's floor
	hears(t, c, page(1, 0, 6, entry(5, by(3, 1, move(2040, 2050, 3))), entry(6, by(3, 2, put(2041, 4)))))
	pend(t, c, 3)
	reads(t, c, 2040, -3, 2041, 4, 2042, 4, 2050, 3)
	if c.Last() != 6 || c.Mark() != 6 {
		t.Errorf("Last %d, Mark %d", c.Last(), c.Mark())
	}
}

// Promise 16.2: a state is not asked for the times that it tells, which may be any; the greatest final time is 0 at least.
func TestStateTimes(t *testing.T) {
	c := begin(t, 1, 0, 10)
	issues(t, c, put(1, 1), put(2, 1), put(3, 1))
	hears(t, c, state(1, 0, nil, known(3, 1, -5), known(3, 3, math.MaxInt)))
	pend(t, c, 2, 3)
	pushes(t, c, 2, 1, math.MaxInt)
	hears(t, c, ack(2, 0))
	pend(t, c, 3)
	d := begin(t, 1, 0, 10)
	issues(t, d, put(1, 1), put(2, 1))
	hears(t, d, state(1, 0, nil, known(3, 1, math.MinInt)))
	pend(t, d, 2)
	pushes(t, d, 2, 1, 0)
}

// Promise 16.2: a mutation stays pending till all ahead of it are none any more, and its time is not above the mark.
func TestSettle(t *testing.T) {
	c := begin(t, 1, 0, 10)
	issues(t, c, put(1, 1), put(2, 1), put(3, 1), put(4, 1))
	hears(t, c, ack(2, 3), ack(3, 6), state(1, 5, nil))
	pend(t, c, 1, 2, 3, 4)
	pushes(t, c, 1, 1, 6)
	hears(t, c, ack(1, 5))
	pend(t, c, 3, 4)
	hears(t, c, page(1, 0, 5))
	pend(t, c, 3, 4)
	hears(t, c, page(1, 0, 6))
	pend(t, c, 4)
	hears(t, c, ack(4, 6))
	pend(t, c)
	issues(t, c, put(5, 1))
	pend(t, c, 5)
	pushes(t, c, 5, 1, 6)
}

// Promise 16.2: a chart is learned, and what the mark has reached by it is not pending any more.
func TestChart(t *testing.T) {
	c := begin(t, 2, 0, 10, 3000, 3010)
	issues(t, c, put(3000, 1), put(5, 1))
	pushes(t, c, 1, 2, 0)
	hears(t, c, state(1, 5, nil), ack(1, 4))
	pend(t, c, 1, 2)
	x := charted(t, 1)
	hears(t, c, charts(x)) // an old one
	pushes(t, c, 2, 1, 4)
	pend(t, c, 1, 2)
	x.Epoch = 2
	hears(t, c, charts(x))
	pend(t, c, 2)
	if !same(c.View().Chart(), x) || c.Mark() != 5 {
		t.Errorf("Mark %d, the chart %v", c.Mark(), c.View().Chart())
	}
	y, _, _, _ := chart.Apply(x, api.Change{Kind: api.Split, ID: 1, At: 5})
	hears(t, c, charts(y))
	pushes(t, c, 2, y.L[1].ID, 4)
	pend(t, c, 2)
}

// Promise 16.3: what is pushed goes to the first shard that has a key of it; then comes what the view wants.
func TestWants(t *testing.T) {
	c := begin(t, 3, 0, 4096)
	issues(t, c, move(4000, 1400, 1), move(1, 4000, 1), del(1364, 1366), del(1365, 4096), put(1400, 1, 4000, 1), put(4095, 1))
	for i, to := range []int{2, 1, 1, 2, 2, 3} {
		if l := c.Wants(); len(l) != 4 || l[0].Kind != api.NotePush || l[1].Kind != api.NotePull {
			t.Fatalf("Wants: %v", l)
		}
		pushes(t, c, i+1, to, i)
		pushes(t, c, i+1, to, i) // as long as it is not known
		hears(t, c, ack(i+1, i+1))
	}
	pushes(t, c, 0, 0, 0)
}

// Promise 16.3, the example: a push and a pull.
func TestWantsExample(t *testing.T) {
	c := begin(t, 1, 0, 10)
	issues(t, c, add(5, 2), add(5, 3))
	pull := api.Note{Kind: api.NotePull, To: 1, Client: 3, N: -1}
	push := api.Note{Kind: api.NotePush, To: 1, Client: 3, M: by(3, 1, add(5, 2))}
	if l := c.Wants(); !same(l, []api.Note{push, pull}) {
		t.Errorf("Wants: %v", l)
	}
	hears(t, c, ack(1, 4))
	push.M, push.Time = by(3, 2, add(5, 3)), 4
	if l := c.Wants(); !same(l, []api.Note{push, pull}) {
		t.Errorf("Wants: %v", l)
	}
}

// Promise 16.3: what is read are the pending mutations on top of the base.
func TestRead(t *testing.T) {
	c := begin(t, 1, 0, 10, 20, 30)
	reads(t, c)
	issues(t, c, put(5, 7))
	reads(t, c, 5, 7)
	issues(t, c, add(5, -8), add(5, 3), move(5, 20, 4), api.Mut{Kind: api.MutCas, Pairs: pairs(20, 6), Old: 4})
	reads(t, c, 5, 6, 20, 6)
	hears(t, c, state(1, 3, pairs(0, 1, 5, 2, 9, 3, 10, 4, 20, 5)))
	reads(t, c, 0, 1, 5, 6, 9, 3, 20, 9) // now the cas fails
	issues(t, c, del(0, 10))
	reads(t, c, 20, 9)
	if !slices.Equal(c.View().Base(), pairs(0, 1, 5, 2, 9, 3, 20, 5)) {
		t.Errorf("the base: %v", c.View().Base())
	}
	if val, some, e := c.Read(0); val != 0 || some || e != api.OK {
		t.Errorf("Read of 0: %d, %v, %v", val, some, e)
	}
	for _, key := range []int{-1, 10, 19, 30, api.MaxKey, math.MinInt, math.MaxInt} {
		if val, some, e := c.Read(key); val != 0 || some || e != api.ErrArg {
			t.Errorf("Read of %d: %d, %v, %v", key, val, some, e)
		}
	}
}

// Promise 16.3: the view is the client's own one.
func TestView(t *testing.T) {
	c := begin(t, 1, 0, 10)
	v := c.View()
	issues(t, c, put(5, 7))
	own := entry(4, by(3, 1, put(5, 7)))
	hears(t, c, state(1, 2, nil), page(1, 0, 6, own))
	if c.View() != v || v.Mark() != 6 || c.Mark() != 6 || !slices.Equal(v.Base(), pairs(5, 7)) || !same(v.Seen(), []api.Entry{own}) {
		t.Errorf("the view: mark %d, base %v", v.Mark(), v.Base())
	}
	if e := v.Page(page(1, 1, 8)); e != api.OK || c.Mark() != 8 {
		t.Errorf("Page: %v, mark %d", e, c.Mark())
	}
}

// Promises 16.1 to 16.3, for no client.
func TestNil(t *testing.T) {
	var c *client.Client
	if seq, e := c.Issue(put(5, 7)); seq != 0 || e != api.ErrArg {
		t.Errorf("Issue: %d, %v", seq, e)
	}
	for _, n := range []api.Note{{}, ack(1, 1), state(1, 1, nil), page(1, 0, 1), charts(charted(t, 1))} {
		if e := c.Take(n); e != api.ErrArg {
			t.Errorf("Take of %v: %v", n, e)
		}
	}
	if val, some, e := c.Read(5); val != 0 || some || e != api.ErrArg {
		t.Errorf("Read: %d, %v, %v", val, some, e)
	}
	if len(c.Wants()) > 0 || len(c.Now()) > 0 || len(c.Pending()) > 0 || c.Mark() != 0 || c.Last() != 0 || c.ID() != 0 || c.View() != nil {
		t.Error("no client has something")
	}
}

// Promise 16.4: what is read stays what it is when what was pending is committed as it was issued.
func TestSmooth(t *testing.T) {
	c := begin(t, 2, 2040, 2056)
	l := []api.Mut{put(2040, 9), move(2040, 2050, 3), add(2050, 5), del(2045, 2051), put(2050, 1)}
	issues(t, c, l...)
	now := c.Now()
	hears(t, c, state(1, 0, nil), state(2, 0, nil))
	n := []int{0, 0}
	for i, m := range c.Pending() {
		for j, on := range []api.Span{{Lo: 2040, Hi: 2048}, {Lo: 2048, Hi: 2056}} {
			if span.Touch(mut.Touch(m), []api.Span{on}) {
				hears(t, c, page(j+1, n[j], i+1, entry(i+1, m)))
				n[j]++
			} else {
				hears(t, c, page(j+1, n[j], i+1))
			}
			if !slices.Equal(c.Now(), now) {
				t.Fatalf("%v is read, not %v", c.Now(), now)
			}
		}
		if len(c.Pending()) != len(l)-i-1 || c.Mark() != i+1 || c.Last() != i+1 {
			t.Fatalf("pending %v, mark %d, last %d", c.Pending(), c.Mark(), c.Last())
		}
	}
}
