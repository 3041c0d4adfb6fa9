package hold_test

import (
	"math"
	"math/rand"
	"slices"
	"testing"

	"splice/api"
	"splice/hold"
	"splice/mut"
)

// del is a mutation of a client, its seq-th; each one is another one.
func del(client, seq int) api.Mut {
	return api.Mut{Client: client, Seq: seq, Kind: api.MutDel, Over: api.Span{Lo: seq % 100, Hi: 100 + client%1000}}
}

func put(client, seq int, pairs ...api.Pair) api.Mut {
	return api.Mut{Client: client, Seq: seq, Kind: api.MutPut, Pairs: pairs}
}

// open is a mutation whose time may still rise.
func open(client, seq, time int) api.Held {
	return api.Held{M: del(client, seq), Time: time}
}

// final is one whose time is final.
func final(client, seq, time int) api.Held {
	return api.Held{M: del(client, seq), Time: time, Final: true}
}

// queue is a queue to which these were added.
func queue(l ...api.Held) *hold.Queue {
	q := hold.New()
	for _, h := range l {
		q.Add(h)
	}
	return q
}

func same(a, b api.Held) bool {
	return mut.Same(a.M, b.M) && a.Time == b.Time && a.Final == b.Final
}

func isZero(h api.Held) bool {
	return same(h, api.Held{}) && len(h.M.Pairs) == 0
}

// holds tells what is wrong with a queue that ought to have these, in this order.
func holds(t *testing.T, q *hold.Queue, want ...api.Held) {
	t.Helper()
	if got := q.All(); !slices.EqualFunc(got, want, same) || q.Len() != len(want) {
		t.Errorf("the queue has %v (%d), not %v", got, q.Len(), want)
	}
	floor := 77
	if len(want) > 0 {
		floor = want[0].Time - 1
	}
	if got := q.Floor(77); got != floor {
		t.Errorf("Floor: %d, not %d", got, floor)
	}
	for _, h := range want {
		if got, there := q.Find(h.M.Client, h.M.Seq); !same(got, h) || !there {
			t.Errorf("Find(%d, %d): %v, %v, not %v", h.M.Client, h.M.Seq, got, there, h)
		}
	}
}

// pops tells what is wrong with a queue of which these ought to be popped, and nothing then.
func pops(t *testing.T, q *hold.Queue, want ...api.Held) {
	t.Helper()
	for _, h := range want {
		n := q.Len()
		if got, is := q.Pop(); !same(got, h) || !is || q.Len() != n-1 {
			t.Errorf("Pop: %v, %v, not %v", got, is, h)
		}
		if got, there := q.Find(h.M.Client, h.M.Seq); there || !isZero(got) {
			t.Errorf("%v was popped, and is there", h)
		}
	}
	popsNothing(t, q)
}

func popsNothing(t *testing.T, q *hold.Queue) {
	t.Helper()
	n := q.Len()
	if got, is := q.Pop(); is || !isZero(got) || q.Len() != n {
		t.Errorf("Pop: %v, %v, not nothing", got, is)
	}
}

func wants(t *testing.T, what string, got, want api.Errno) {
	t.Helper()
	if got != want {
		t.Errorf("%s: %v, not %v", what, got, want)
	}
}

// Promise 6.1: New.
func TestNew(t *testing.T) {
	q, other := hold.New(), hold.New()
	holds(t, q)
	popsNothing(t, q)
	wants(t, "Add", other.Add(open(1, 1, 5)), api.OK)
	holds(t, q)
	holds(t, other, open(1, 1, 5))
}

// Promise 6.1: Add, at the edges of what may be.
func TestAdd(t *testing.T) {
	q := hold.New()
	for _, h := range []api.Held{
		open(1, 1, 5), final(1, 2, 5), open(2, 1, 0), final(2, 2, 0), open(3, 1, api.MaxTime), final(3, 2, api.MaxTime),
		open(api.MaxClient, api.MaxSeq, 1), open(1, api.MaxSeq, 1), open(api.MaxClient, 1, 1),
		{M: put(4, 1, api.Pair{Key: 0, Val: -api.MaxVal}, api.Pair{Key: 4095, Val: api.MaxVal}), Time: 2},
		{M: api.Mut{Client: 4, Seq: 2, Kind: api.MutCas, Pairs: []api.Pair{{Key: 1, Val: 1}}, Old: api.Absent}, Time: 2, Final: true},
	} {
		n := q.Len()
		wants(t, "Add", q.Add(h), api.OK)
		if got, there := q.Find(h.M.Client, h.M.Seq); !same(got, h) || !there || q.Len() != n+1 {
			t.Errorf("Add(%v): %v, %v", h, got, there)
		}
	}
}

// Promise 6.1: the errors of Add, in their order; what is refused changes nothing.
func TestAddErrors(t *testing.T) {
	q := queue(open(1, 1, 5), final(2, 1, 3))
	bad := func(m api.Mut, time int) api.Held { return api.Held{M: m, Time: time} }
	for _, x := range []struct {
		h    api.Held
		want api.Errno
	}{
		{open(1, 1, 9), api.ErrThere},
		{open(1, 1, 5), api.ErrThere},
		{final(1, 1, 5), api.ErrThere},
		{open(2, 1, 0), api.ErrThere},
		{bad(put(1, 1, api.Pair{Key: 7, Val: 7}), 5), api.ErrThere}, // another mutation by the same name
		{open(3, 1, -1), api.ErrArg},
		{open(3, 1, api.MaxTime+1), api.ErrArg},
		{open(3, 1, math.MinInt), api.ErrArg},
		{final(3, 1, math.MaxInt), api.ErrArg},
		{final(3, 1, -1), api.ErrArg},
		{open(0, 1, 9), api.ErrArg},
		{open(-1, 1, 9), api.ErrArg},
		{open(3, 0, 9), api.ErrArg},
		{open(api.MaxClient+1, 1, 9), api.ErrArg},
		{open(3, api.MaxSeq+1, 9), api.ErrArg},
		{api.Held{}, api.ErrArg},
		{bad(put(3, 1), 5), api.ErrArg},
		{bad(put(3, 1, api.Pair{Key: 2}, api.Pair{Key: 1}), 5), api.ErrArg},
		{bad(api.Mut{Client: 3, Seq: 1, Kind: 6}, 5), api.ErrArg},
		{open(1, 1, -1), api.ErrArg}, // ahead of being there
		{open(1, 1, api.MaxTime+1), api.ErrArg},
		{bad(put(1, 1), 5), api.ErrArg},
	} {
		wants(t, "Add", q.Add(x.h), x.want)
		holds(t, q, final(2, 1, 3), open(1, 1, 5))
	}
}

// Promise 6.1: Final, and where it puts a mutation.
func TestFinal(t *testing.T) {
	q := queue(open(1, 1, 3), open(2, 1, 5), open(3, 1, 7))
	wants(t, "Final at its time", q.Final(2, 1, 5), api.OK)
	holds(t, q, open(1, 1, 3), final(2, 1, 5), open(3, 1, 7))
	wants(t, "Final behind another one", q.Final(1, 1, 6), api.OK)
	holds(t, q, final(2, 1, 5), final(1, 1, 6), open(3, 1, 7))
	wants(t, "Final at the end of time", q.Final(3, 1, api.MaxTime), api.OK)
	pops(t, q, final(2, 1, 5), final(1, 1, 6), final(3, 1, api.MaxTime))
	q = queue(open(1, 1, 0), open(1, 2, 0))
	wants(t, "Final at 0", q.Final(1, 2, 0), api.OK)
	wants(t, "Final at 0", q.Final(1, 1, 0), api.OK)
	pops(t, q, final(1, 1, 0), final(1, 2, 0))
}

// Promise 6.1: the errors of Final, in their order; what is refused changes nothing.
func TestFinalErrors(t *testing.T) {
	q := queue(open(1, 1, 3), final(2, 1, 4))
	for _, x := range []struct {
		client, seq, time int
		want              api.Errno
	}{
		{1, 1, 2, api.ErrArg},
		{1, 1, -1, api.ErrArg},
		{1, 1, math.MinInt, api.ErrArg},
		{1, 1, api.MaxTime + 1, api.ErrArg},
		{1, 1, math.MaxInt, api.ErrArg},
		{2, 1, 4, api.ErrThere},
		{2, 1, 6, api.ErrThere},
		{2, 1, 3, api.ErrThere}, // ahead of the time that may not be
		{2, 1, -1, api.ErrThere},
		{2, 1, api.MaxTime + 1, api.ErrThere},
		{1, 2, 6, api.ErrNone},
		{9, 1, 6, api.ErrNone},
		{9, 1, -1, api.ErrNone}, // ahead of the time that may not be
		{0, 0, math.MaxInt, api.ErrNone},
		{math.MinInt, math.MaxInt, 0, api.ErrNone},
	} {
		wants(t, "Final", q.Final(x.client, x.seq, x.time), x.want)
		holds(t, q, open(1, 1, 3), final(2, 1, 4))
	}
	wants(t, "Final", q.Final(1, 1, 5), api.OK)
	wants(t, "Final again", q.Final(1, 1, 6), api.ErrThere)
	holds(t, q, final(2, 1, 4), final(1, 1, 5))
}

// Promise 6.1: Drop of the head, of the last one, of one between, and of none.
func TestDrop(t *testing.T) {
	all := []api.Held{open(1, 1, 1), final(2, 1, 2), open(3, 1, 3), final(4, 1, 4), open(5, 1, 5)}
	for i, h := range all {
		q := queue(all...)
		wants(t, "Drop", q.Drop(h.M.Client, h.M.Seq), api.OK)
		holds(t, q, slices.Delete(slices.Clone(all), i, i+1)...)
		wants(t, "Drop again", q.Drop(h.M.Client, h.M.Seq), api.ErrNone)
		if got, there := q.Find(h.M.Client, h.M.Seq); there || !isZero(got) {
			t.Errorf("%v was dropped, and is there", h)
		}
		wants(t, "Add again", q.Add(h), api.OK)
		holds(t, q, all...)
	}
	q := queue(all...)
	for _, n := range [][2]int{{1, 2}, {9, 9}, {0, 0}, {-1, 1}, {math.MaxInt, math.MinInt}} {
		wants(t, "Drop", q.Drop(n[0], n[1]), api.ErrNone)
	}
	holds(t, q, all...)
	wants(t, "Drop of an empty queue", hold.New().Drop(1, 1), api.ErrNone)
}

// Promise 6.2: Pop and All, of mutations at equal times.
func TestPop(t *testing.T) {
	q := queue(final(2, 1, 5), open(1, 1, 5), final(1, 2, 5))
	holds(t, q, open(1, 1, 5), final(1, 2, 5), final(2, 1, 5))
	popsNothing(t, q)
	wants(t, "Final", q.Final(1, 1, 7), api.OK)
	pops(t, q, final(1, 2, 5), final(2, 1, 5), final(1, 1, 7))
	holds(t, q)
}

// Promise 6.2: Pop stops at a head that is not final.
func TestPopStops(t *testing.T) {
	q := queue(final(1, 1, 1), open(2, 1, 2), final(3, 1, 3))
	pops(t, q, final(1, 1, 1))
	wants(t, "Drop", q.Drop(2, 1), api.OK)
	pops(t, q, final(3, 1, 3))
	q = queue(open(1, 1, 5), open(2, 1, 3))
	if q.Floor(9) != 2 {
		t.Errorf("Floor: %d", q.Floor(9))
	}
	popsNothing(t, q)
	wants(t, "Final", q.Final(2, 1, 7), api.OK)
	if q.Floor(9) != 4 {
		t.Errorf("Floor: %d", q.Floor(9))
	}
	popsNothing(t, q)
	wants(t, "Final", q.Final(1, 1, 5), api.OK)
	pops(t, q, final(1, 1, 5), final(2, 1, 7))
}

// Promise 6.2: one that was popped may be added again, at any time.
func TestPopAndAdd(t *testing.T) {
	q := queue(final(1, 1, 5))
	pops(t, q, final(1, 1, 5))
	wants(t, "Final", q.Final(1, 1, 5), api.ErrNone)
	wants(t, "Drop", q.Drop(1, 1), api.ErrNone)
	wants(t, "Add", q.Add(open(1, 1, 2)), api.OK)
	holds(t, q, open(1, 1, 2))
}

// Promise 6.2: Find of what there is not.
func TestFindNone(t *testing.T) {
	q := queue(open(1, 2, 5), final(3, 4, 5))
	for _, n := range [][2]int{{2, 1}, {1, 4}, {3, 2}, {1, 1}, {0, 0}, {-1, 2}, {math.MinInt, math.MaxInt}} {
		if got, there := q.Find(n[0], n[1]); there || !isZero(got) {
			t.Errorf("Find(%v): %v, %v", n, got, there)
		}
	}
	if got, there := hold.New().Find(1, 1); there || !isZero(got) {
		t.Errorf("Find in an empty queue: %v, %v", got, there)
	}
}

// Promise 6.2: Floor, with heads and clocks at the edges.
func TestFloor(t *testing.T) {
	clocks := []int{0, 4, 9, api.MaxTime, -1, math.MinInt, math.MaxInt}
	for _, clock := range clocks {
		if got := hold.New().Floor(clock); got != clock {
			t.Errorf("Floor(%d) of an empty queue: %d", clock, got)
		}
		for _, time := range []int{0, 1, 5, api.MaxTime} {
			for _, h := range []api.Held{open(1, 1, time), final(1, 1, time)} {
				if got := queue(final(2, 1, api.MaxTime), h).Floor(clock); got != time-1 {
					t.Errorf("Floor(%d) with a head at %d: %d", clock, time, got)
				}
			}
		}
	}
	q := queue(final(1, 1, 5))
	q.Pop()
	if got := q.Floor(9); got != 9 {
		t.Errorf("Floor(9) of an emptied queue: %d", got)
	}
}

// Promises 6.1 to 6.3 and R1: a nil queue.
func TestNilQueue(t *testing.T) {
	var q *hold.Queue
	wants(t, "Add", q.Add(open(1, 1, 5)), api.ErrArg)
	wants(t, "Add", q.Add(api.Held{}), api.ErrArg)
	wants(t, "Final", q.Final(1, 1, 5), api.ErrArg)
	wants(t, "Final", q.Final(0, 0, -1), api.ErrArg)
	wants(t, "Drop", q.Drop(1, 1), api.ErrArg)
	popsNothing(t, q)
	if got, there := q.Find(1, 1); there || !isZero(got) {
		t.Errorf("Find: %v, %v", got, there)
	}
	if q.Len() != 0 || len(q.All()) != 0 {
		t.Errorf("%d, %v", q.Len(), q.All())
	}
	for _, clock := range []int{0, 9, api.MaxTime, -5, math.MinInt, math.MaxInt} {
		if q.Floor(clock) != clock {
			t.Errorf("Floor(%d): %d", clock, q.Floor(clock))
		}
	}
}

// model is a queue as the document has it: a list that is sorted whenever it is asked.
type model []api.Held

func (l model) index(client, seq int) int {
	return slices.IndexFunc(l, func(h api.Held) bool { return h.M.Client == client && h.M.Seq == seq })
}

func (l *model) sort() {
	slices.SortFunc(*l, func(a, b api.Held) int { return mut.Compare(mut.Stamp(a.Time, a.M), mut.Stamp(b.Time, b.M)) })
}

func (l *model) add(h api.Held) api.Errno {
	switch {
	case !mut.Check(h.M) || h.Time < 0 || h.Time > api.MaxTime:
		return api.ErrArg
	case l.index(h.M.Client, h.M.Seq) >= 0:
		return api.ErrThere
	}
	*l = append(*l, h)
	l.sort()
	return api.OK
}

func (l *model) final(client, seq, time int) api.Errno {
	i := l.index(client, seq)
	switch {
	case i < 0:
		return api.ErrNone
	case (*l)[i].Final:
		return api.ErrThere
	case time < (*l)[i].Time || time > api.MaxTime:
		return api.ErrArg
	}
	(*l)[i].Time, (*l)[i].Final = time, true
	l.sort()
	return api.OK
}

func (l *model) drop(client, seq int) api.Errno {
	i := l.index(client, seq)
	if i < 0 {
		return api.ErrNone
	}
	*l = slices.Delete(*l, i, i+1)
	return api.OK
}

func (l *model) pop() (api.Held, bool) {
	if len(*l) == 0 || !(*l)[0].Final {
		return api.Held{}, false
	}
	h := (*l)[0]
	*l = slices.Delete(*l, 0, 1)
	return h, true
}

// step does one thing to a queue and to its model, and tells whether both answered alike.
func step(q *hold.Queue, l *model, what, client, seq, time int) bool {
	switch what {
	case 0, 1:
		h := open(client, seq, time)
		h.Final = what == 1
		return q.Add(h) == l.add(h)
	case 2:
		return q.Final(client, seq, time) == l.final(client, seq, time)
	case 3:
		return q.Drop(client, seq) == l.drop(client, seq)
	}
	got, is := q.Pop()
	want, was := l.pop()
	return same(got, want) && is == was
}

// Promises 6.1 and 6.2: whatever is done, one thing after the other, the queue answers as its model.
func TestAny(t *testing.T) {
	for seed := range int64(40) {
		dice := rand.New(rand.NewSource(seed))
		q, l := hold.New(), model{}
		for i := range 400 {
			what, client, seq, time := dice.Intn(5), dice.Intn(8), 1+dice.Intn(8), dice.Intn(30)-1
			if !step(q, &l, what, client, seq, time) {
				t.Fatalf("%d: step %d: %d of (%d, %d) at %d, with %v", seed, i, what, client, seq, time, l)
			}
			holds(t, q, l...)
			if t.Failed() {
				t.FailNow()
			}
		}
	}
}

// Promise 6.2: many come out as they stand, however they came in.
func TestMany(t *testing.T) {
	dice := rand.New(rand.NewSource(2))
	q, n := hold.New(), 50000
	for _, i := range dice.Perm(n) {
		wants(t, "Add", q.Add(open(1+i%7, 1+i, dice.Intn(1000))), api.OK)
	}
	for _, i := range dice.Perm(n) {
		wants(t, "Final", q.Final(1+i%7, 1+i, 1000+dice.Intn(1000)), api.OK)
	}
	all := q.All()
	for i := range all {
		if i > 0 && mut.Compare(mut.Stamp(all[i-1].Time, all[i-1].M), mut.Stamp(all[i].Time, all[i].M)) >= 0 {
			t.Fatalf("%v ahead of %v", all[i-1], all[i])
		}
	}
	if len(all) != n {
		t.Fatalf("%d of %d", len(all), n)
	}
	pops(t, q, all...)
}

// Promise 6.3: what is popped has stamps that rise, and is above each Floor that was told, while what is added has a time above the clock, which is above all that was popped.
func TestFloors(t *testing.T) {
	popped := 0
	for seed := range int64(60) {
		dice := rand.New(rand.NewSource(seed))
		q, clock, floor, last := hold.New(), 0, -1, api.Stamp{Time: -1}
		for seq := 1; seq < 600; seq++ {
			switch dice.Intn(3) {
			case 0:
				clock += 1 + dice.Intn(3)
				h := open(1+dice.Intn(4), seq, clock)
				h.Final = dice.Intn(2) == 0
				wants(t, "Add", q.Add(h), api.OK)
			case 1:
				l := q.All()
				if len(l) == 0 {
					break
				}
				h := l[dice.Intn(len(l))]
				time := h.Time + dice.Intn(5)
				if q.Final(h.M.Client, h.M.Seq, time) == api.OK {
					clock = max(clock, time)
				}
			case 2:
				h, is := q.Pop()
				if !is {
					break
				}
				popped++
				now := mut.Stamp(h.Time, h.M)
				if mut.Compare(last, now) >= 0 || h.Time <= floor {
					t.Fatalf("%d: %v was popped behind %v, the floor %d", seed, now, last, floor)
				}
				last = now
			}
			floor = max(floor, q.Floor(clock))
		}
	}
	if popped < 1000 {
		t.Errorf("only %d were popped", popped)
	}
}

// R3: what is handed in is not changed and not kept; what is answered shares nothing with the queue, nor with another answer.
func TestNothingShared(t *testing.T) {
	fresh := func(isFinal bool) api.Held {
		return api.Held{M: put(1, 1, api.Pair{Key: 5, Val: 7}, api.Pair{Key: 9, Val: 1}), Time: 5, Final: isFinal}
	}
	spoil := func(h api.Held) {
		for i := range h.M.Pairs {
			h.M.Pairs[i] = api.Pair{Key: -1, Val: -1}
		}
	}
	h := fresh(false)
	q := queue(h)
	if !same(h, fresh(false)) {
		t.Errorf("changed: %v", h)
	}
	spoil(h)
	holds(t, q, fresh(false))
	found, _ := q.Find(1, 1)
	all, again := q.All(), q.All()
	spoil(found)
	spoil(all[0])
	all[0].Time = 99
	if !same(again[0], fresh(false)) {
		t.Errorf("another answer was changed: %v", again)
	}
	holds(t, q, fresh(false))
	wants(t, "Final", q.Final(1, 1, 5), api.OK)
	found, _ = q.Find(1, 1)
	pops(t, q, fresh(true))
	if !same(found, fresh(true)) {
		t.Errorf("changed by Pop: %v", found)
	}
	q = queue(fresh(true))
	got, _ := q.Pop()
	wants(t, "Add", q.Add(got), api.OK)
	spoil(got)
	holds(t, q, fresh(true))
}

// Promises 6.1 to 6.3 and R1: any steps of any numbers make no call panic, and the queue answers as its model.
func FuzzQueue(f *testing.F) {
	f.Add([]byte{0, 1, 1, 5, 0, 2, 1, 3, 2, 2, 1, 7, 2, 1, 1, 5, 4, 0, 0, 0, 4, 0, 0, 0}, 0)
	f.Add([]byte{1, 1, 1, 5, 1, 1, 2, 5, 3, 1, 1, 0, 4, 0, 0, 0}, math.MaxInt)
	f.Fuzz(func(t *testing.T, b []byte, far int) {
		q, l := hold.New(), model{}
		for ; len(b) >= 4; b = b[4:] {
			what, client, seq, time := int(b[0]%5), int(b[1]), int(b[2]), int(b[3])
			if b[0]&128 != 0 {
				client, seq, time = client^far, seq^far, time^far
			}
			if !step(q, &l, what, client, seq, time) {
				t.Fatalf("%d of (%d, %d) at %d, with %v", what, client, seq, time, l)
			}
		}
		holds(t, q, l...)
	})
}
