package bag_test

import (
	"maps"
	"math"
	"math/rand"
	"slices"
	"strings"
	"testing"

	"splice/api"
	"splice/bag"
)

// send sends what can be sent.
func send(t *testing.T, b *bag.Bag, from, to int, text string) int {
	t.Helper()
	id, e := b.Send(from, to, text)
	if id < 1 || e != api.OK {
		t.Fatalf("Send(%d, %d, %.9q): %d, %v", from, to, text, id, e)
	}
	return id
}

// three is the bag of the chapter's examples, without the copy.
func three(t *testing.T) *bag.Bag {
	t.Helper()
	b := bag.New()
	for i, text := range []string{"a", "b", "c"} {
		if id := send(t, b, i, i+1, text); id != i+1 {
			t.Fatalf("the number %d", id)
		}
	}
	return b
}

// full is a bag of the most mails: 1 to 400, from 0 to 1.
func full(t *testing.T) *bag.Bag {
	t.Helper()
	b := bag.New()
	for i := range 400 {
		if id := send(t, b, 0, 1, "x"); id != i+1 {
			t.Fatalf("the number %d", id)
		}
	}
	return b
}

// has tells whether a bag has these mails, of which those can be taken.
func has(t *testing.T, b *bag.Bag, ids, ready []int) {
	t.Helper()
	if got := b.IDs(); !slices.Equal(got, ids) {
		t.Errorf("IDs: %v, not %v", got, ids)
	}
	if got := b.Ready(); !slices.Equal(got, ready) {
		t.Errorf("Ready: %v, not %v", got, ready)
	}
}

// takes tests what Take answers: a mail, or an error and none.
func takes(t *testing.T, b *bag.Bag, id int, want api.Mail, e api.Errno) {
	t.Helper()
	if m, got := b.Take(id); m != want || got != e {
		t.Errorf("Take(%d): %v, %v; not %v, %v", id, m, got, want, e)
	}
}

// Promises 10.1 and 10.3: New.
func TestNew(t *testing.T) {
	b := bag.New()
	has(t, b, nil, nil)
	for _, id := range []int{0, 1, -1, math.MinInt, math.MaxInt} {
		takes(t, b, id, api.Mail{}, api.ErrNone)
		if m, is := b.Find(id); is || m != (api.Mail{}) || b.Lose(id) != api.ErrNone {
			t.Errorf("mail %d: %v", id, m)
		}
		if n, e := b.Twice(id); n != 0 || e != api.ErrNone {
			t.Errorf("Twice(%d): %d, %v", id, n, e)
		}
	}
	if c := bag.New(); send(t, b, 1, 2, "a") != 1 || len(c.IDs()) != 0 {
		t.Errorf("two bags are one")
	}
}

// Promises 10.1 to 10.3: a nil bag.
func TestNil(t *testing.T) {
	var b *bag.Bag
	if id, e := b.Send(1, 2, "a"); id != 0 || e != api.ErrArg {
		t.Errorf("Send: %d, %v", id, e)
	}
	if id, e := b.Twice(1); id != 0 || e != api.ErrArg {
		t.Errorf("Twice: %d, %v", id, e)
	}
	takes(t, b, 1, api.Mail{}, api.ErrArg)
	if m, is := b.Find(1); is || m != (api.Mail{}) {
		t.Errorf("Find: %v", m)
	}
	if b.Lose(1) != api.ErrArg || b.Apart(1, 2, true) != api.ErrArg || b.Apart(1, 2, false) != api.ErrArg {
		t.Errorf("Lose, Apart")
	}
	has(t, b, nil, nil)
}

// Promise 10.1: Send, its numbers, and what is sent.
func TestSend(t *testing.T) {
	b := three(t)
	most := strings.Repeat("m", 65536)
	for i, m := range []api.Mail{
		{From: 0, To: 63, Text: ""}, {From: 63, To: 0, Text: most}, {From: 7, To: 7, Text: "\x00\xff"}, {From: 63, To: 63, Text: "x"},
	} {
		m.ID = 4 + i
		id := send(t, b, m.From, m.To, m.Text)
		if got, is := b.Find(id); id != m.ID || !is || got != m {
			t.Errorf("mail %d of %d: %.20v", id, m.ID, got)
		}
	}
	has(t, b, []int{1, 2, 3, 4, 5, 6, 7}, []int{1, 2, 3, 4, 5, 6, 7})
}

// Promise 10.1: what can't be sent, and the order of errors; nothing changes, no number is used up.
func TestSendErrors(t *testing.T) {
	long := strings.Repeat("x", 65537)
	for _, b := range []*bag.Bag{three(t), full(t)} {
		ids := b.IDs()
		for _, x := range []struct {
			from, to int
			text     string
			want     api.Errno
		}{
			{64, 0, "", api.ErrArg}, {0, 64, "", api.ErrArg}, {-1, 0, "", api.ErrArg}, {0, -1, "", api.ErrArg}, {64, 64, "x", api.ErrArg},
			{math.MinInt, 0, "", api.ErrArg}, {math.MaxInt, 0, "", api.ErrArg}, {0, math.MinInt, "", api.ErrArg}, {0, math.MaxInt, "", api.ErrArg},
			{64, 0, long, api.ErrArg}, {0, -1, long, api.ErrArg}, {0, 0, long, api.ErrLong}, {0, 63, long + long, api.ErrLong},
		} {
			if id, e := b.Send(x.from, x.to, x.text); id != 0 || e != x.want {
				t.Errorf("Send(%d, %d) of %d bytes: %d, %v, not %v", x.from, x.to, len(x.text), id, e, x.want)
			}
		}
		has(t, b, ids, ids)
	}
	if b := three(t); send(t, b, 0, 0, "") != 4 {
		t.Errorf("a number is used up")
	}
}

// Promise 10.1: no more than 400 mails; what is taken, lost or refused makes no number come again.
func TestFull(t *testing.T) {
	b := full(t)
	refused := func() {
		t.Helper()
		if id, e := b.Send(0, 1, ""); id != 0 || e != api.ErrFull {
			t.Errorf("Send: %d, %v", id, e)
		}
		if id, e := b.Twice(2); id != 0 || e != api.ErrFull {
			t.Errorf("Twice: %d, %v", id, e)
		}
		if id, e := b.Twice(999); id != 0 || e != api.ErrNone {
			t.Errorf("Twice of none: %d, %v", id, e)
		}
	}
	refused()
	b.Apart(0, 1, true)
	refused()
	if b.Lose(400) != api.OK || send(t, b, 5, 6, "y") != 401 {
		t.Errorf("Lose, Send")
	}
	refused()
	takes(t, b, 401, api.Mail{ID: 401, From: 5, To: 6, Text: "y"}, api.OK)
	if id, e := b.Twice(2); id != 402 || e != api.OK {
		t.Errorf("Twice: %d, %v", id, e)
	}
	refused()
	if len(b.IDs()) != 400 || len(b.Ready()) != 0 {
		t.Errorf("%d mails, %d ready", len(b.IDs()), len(b.Ready()))
	}
}

// Promise 10.1: Twice makes a mail of its own.
func TestTwice(t *testing.T) {
	b := three(t)
	b.Apart(1, 2, true)
	for i, id := range []int{2, 2, 4, 1} { // also of a copy, and of one whose addresses are apart
		if other, e := b.Twice(id); other != 4+i || e != api.OK {
			t.Errorf("Twice(%d): %d, %v", id, other, e)
		}
	}
	has(t, b, []int{1, 2, 3, 4, 5, 6, 7}, []int{1, 3, 7})
	if b.Lose(2) != api.OK {
		t.Errorf("Lose")
	}
	b.Apart(1, 2, false)
	for _, id := range []int{4, 5, 6} {
		takes(t, b, id, api.Mail{ID: id, From: 1, To: 2, Text: "b"}, api.OK)
	}
	takes(t, b, 7, api.Mail{ID: 7, From: 0, To: 1, Text: "a"}, api.OK)
	for _, id := range []int{2, 4, 0, -4, 8, math.MinInt, math.MaxInt} {
		if other, e := b.Twice(id); other != 0 || e != api.ErrNone {
			t.Errorf("Twice(%d): %d, %v", id, other, e)
		}
	}
	has(t, b, []int{1, 3}, []int{1, 3})
	if send(t, b, 0, 0, "") != 8 {
		t.Errorf("a number is used up")
	}
}

// Promises 10.2 and 10.4: Take takes a mail once, as it was sent.
func TestTake(t *testing.T) {
	b := three(t)
	takes(t, b, 3, api.Mail{ID: 3, From: 2, To: 3, Text: "c"}, api.OK)
	takes(t, b, 3, api.Mail{}, api.ErrNone)
	has(t, b, []int{1, 2}, []int{1, 2})
	takes(t, b, 1, api.Mail{ID: 1, From: 0, To: 1, Text: "a"}, api.OK)
	for _, id := range []int{1, 3, 4, 0, -1, math.MinInt, math.MaxInt} {
		takes(t, b, id, api.Mail{}, api.ErrNone)
	}
	has(t, b, []int{2}, []int{2})
	if send(t, b, 0, 1, "d") != 4 {
		t.Errorf("a number came again")
	}
}

// Promise 10.2: Lose.
func TestLose(t *testing.T) {
	b := three(t)
	b.Apart(1, 2, true)
	for _, want := range []api.Errno{api.OK, api.ErrNone, api.ErrNone} {
		if e := b.Lose(2); e != want {
			t.Errorf("Lose: %v, not %v", e, want)
		}
	}
	takes(t, b, 2, api.Mail{}, api.ErrNone)
	takes(t, b, 1, api.Mail{ID: 1, From: 0, To: 1, Text: "a"}, api.OK)
	for _, id := range []int{1, 4, 0, -3, math.MinInt, math.MaxInt} {
		if e := b.Lose(id); e != api.ErrNone {
			t.Errorf("Lose(%d): %v", id, e)
		}
	}
	has(t, b, []int{3}, []int{3})
	if b.Lose(3) != api.OK || send(t, b, 0, 1, "d") != 4 {
		t.Errorf("a number came again")
	}
}

// Promises 10.2 and 10.3: addresses that are apart, whichever way a mail goes; it stays in the bag.
func TestApart(t *testing.T) {
	b := bag.New()
	there, back := send(t, b, 1, 2, "there"), send(t, b, 2, 1, "back")
	self, other, far := send(t, b, 1, 1, "self"), send(t, b, 2, 3, "other"), send(t, b, 0, 63, "far")
	all := []int{there, back, self, other, far}
	for i, x := range []struct {
		x, y  int
		on    bool
		ready []int
	}{
		{2, 1, true, []int{self, other, far}}, {1, 2, true, []int{self, other, far}},
		{63, 0, true, []int{self, other}}, {3, 2, true, []int{self}}, {3, 1, true, []int{self}},
		{3, 2, false, []int{self, other}}, {2, 3, false, []int{self, other}},
		{1, 2, false, []int{there, back, self, other}}, // it was separated twice, and is no more
		{0, 63, false, all}, {5, 6, false, all},
	} {
		if e := b.Apart(x.x, x.y, x.on); e != api.OK {
			t.Errorf("%d: %v", i, e)
		}
		has(t, b, all, x.ready)
		for _, id := range all {
			m, is := b.Find(id)
			if !is || m.ID != id || m.Text == "" {
				t.Errorf("%d: Find(%d): %v", i, id, m)
			}
			if !slices.Contains(x.ready, id) {
				takes(t, b, id, api.Mail{}, api.ErrCut)
			}
		}
	}
	b.Apart(1, 2, true)
	takes(t, b, 99, api.Mail{}, api.ErrNone)
	late := send(t, b, 2, 1, "late") // what is sent later is cut, too
	takes(t, b, late, api.Mail{}, api.ErrCut)
	b.Apart(2, 1, false)
	takes(t, b, late, api.Mail{ID: late, From: 2, To: 1, Text: "late"}, api.OK)
}

// Promise 10.2: what can't be apart; nothing changes.
func TestApartErrors(t *testing.T) {
	b := bag.New()
	for i := range 64 {
		send(t, b, i, (i+1)%64, "x")
		send(t, b, i, i, "x")
	}
	b.Apart(3, 4, true)
	want := b.Ready()
	for _, x := range [][2]int{{64, 0}, {0, 64}, {-1, 0}, {0, -1}, {3, 3}, {0, 0}, {63, 63}, {64, 64}, {-1, -1}, {math.MinInt, 4}, {4, math.MaxInt}} {
		for _, on := range []bool{true, false} {
			if e := b.Apart(x[0], x[1], on); e != api.ErrArg {
				t.Errorf("Apart(%v, %v): %v", x, on, e)
			}
		}
	}
	if got := b.Ready(); !slices.Equal(got, want) || len(want) != 127 {
		t.Errorf("Ready: %v, not %v", got, want)
	}
}

// Promise 10.3: the numbers ascend, however many there are.
func TestAscending(t *testing.T) {
	b := full(t)
	var want []int
	for id := range 401 {
		if id%3 == 1 {
			want = append(want, id)
		} else if id > 0 {
			b.Lose(id)
		}
	}
	for range 5 {
		has(t, b, want, want)
	}
}

// Promises 10.1 to 10.3: the examples of the chapter.
func TestExamples(t *testing.T) {
	b := three(t)
	if id, e := b.Twice(2); id != 4 || e != api.OK {
		t.Errorf("Twice: %d, %v", id, e)
	}
	b.Apart(1, 2, true)
	has(t, b, []int{1, 2, 3, 4}, []int{1, 3})

	b = bag.New()
	if id := send(t, b, 1, 2, "a"); id != 1 {
		t.Errorf("Send: %d", id)
	}
	if id, e := b.Twice(1); id != 2 || e != api.OK {
		t.Errorf("Twice: %d, %v", id, e)
	}
	b.Apart(2, 1, true)
	takes(t, b, 1, api.Mail{}, api.ErrCut)
	b.Apart(1, 2, false)
	takes(t, b, 1, api.Mail{ID: 1, From: 1, To: 2, Text: "a"}, api.OK)
	takes(t, b, 1, api.Mail{}, api.ErrNone)
}

// R3: the lists of numbers are their owner's.
func TestNothingShared(t *testing.T) {
	b := three(t)
	for _, call := range []func() []int{b.IDs, b.Ready} {
		l := call()
		l[0], l[1] = 7, 7
		_ = append(l[:1], 8)
		has(t, b, []int{1, 2, 3}, []int{1, 2, 3})
	}
}

// model is what a bag must be.
type model struct {
	mails map[int]api.Mail
	last  int
	apart [64][64]bool
}

func (m *model) add(x api.Mail) (int, api.Errno) {
	if len(m.mails) == 400 {
		return 0, api.ErrFull
	}
	m.last++
	x.ID = m.last
	m.mails[x.ID] = x
	return x.ID, api.OK
}

func (m *model) send(from, to int, text string) (int, api.Errno) {
	if from < 0 || from > 63 || to < 0 || to > 63 {
		return 0, api.ErrArg
	}
	return m.add(api.Mail{From: from, To: to, Text: text})
}

func (m *model) twice(id int) (int, api.Errno) {
	x, is := m.mails[id]
	if !is {
		return 0, api.ErrNone
	}
	return m.add(x)
}

func (m *model) take(id int) (api.Mail, api.Errno) {
	x, is := m.mails[id]
	switch {
	case !is:
		return api.Mail{}, api.ErrNone
	case m.apart[x.From][x.To]:
		return api.Mail{}, api.ErrCut
	}
	delete(m.mails, id)
	return x, api.OK
}

func (m *model) lose(id int) api.Errno {
	if _, is := m.mails[id]; !is {
		return api.ErrNone
	}
	delete(m.mails, id)
	return api.OK
}

func (m *model) separate(x, y int, on bool) api.Errno {
	if x < 0 || x > 63 || y < 0 || y > 63 || x == y {
		return api.ErrArg
	}
	m.apart[x][y], m.apart[y][x] = on, on
	return api.OK
}

// equals tells whether a bag is as the model.
func (m *model) equals(b *bag.Bag) bool {
	var ready []int
	ids := slices.Sorted(maps.Keys(m.mails))
	for _, id := range ids {
		x := m.mails[id]
		if !m.apart[x.From][x.To] {
			ready = append(ready, id)
		}
		if got, is := b.Find(id); !is || got != x {
			return false
		}
	}
	return slices.Equal(b.IDs(), ids) && slices.Equal(b.Ready(), ready)
}

// step does one and the same to a bag and to a model, and tells whether both answer the same.
func step(b *bag.Bag, m *model, what, x, y int) bool {
	switch what % 8 {
	case 0, 1:
		text := strings.Repeat("s", x&7)
		got, e := b.Send(x, y, text)
		want, f := m.send(x, y, text)
		return got == want && e == f
	case 2, 3:
		got, e := b.Twice(x)
		want, f := m.twice(x)
		return got == want && e == f
	case 4:
		got, e := b.Take(x)
		want, f := m.take(x)
		return got == want && e == f
	case 5:
		return b.Lose(x) == m.lose(x)
	case 6:
		return b.Apart(x, y, true) == m.separate(x, y, true)
	}
	return b.Apart(x, y, false) == m.separate(x, y, false)
}

// Promises 10.1 to 10.4: any steps, held against what the document says of each mail.
func TestAnySteps(t *testing.T) {
	d := rand.New(rand.NewSource(10))
	for range 100 {
		b, m := bag.New(), model{mails: map[int]api.Mail{}}
		for i := range 300 {
			what, x, y := d.Intn(8), d.Intn(6)-1, d.Intn(6)-1
			if what >= 2 && what <= 5 {
				x = m.last - d.Intn(20)
			}
			if !step(b, &m, what, x, y) || !m.equals(b) {
				t.Fatalf("step %d: %d of %d, %d: %v, %v", i, what, x, y, b.IDs(), b.Ready())
			}
		}
	}
}

// Promise 10.4: each mail is taken or lost at most once, a mail that is taken is the one that was sent, and numbers ascend.
func TestOnce(t *testing.T) {
	d := rand.New(rand.NewSource(104))
	b, last := bag.New(), 0
	sent, gone := map[int]string{}, map[int]int{}
	for range 20000 {
		switch id := 1 + d.Intn(last+2); d.Intn(5) {
		case 0, 1:
			text := strings.Repeat("t", d.Intn(50))
			if id, e := b.Send(d.Intn(64), d.Intn(64), text); e == api.OK {
				if id <= last {
					t.Fatalf("the number %d behind %d", id, last)
				}
				last, sent[id] = id, text
			}
		case 2:
			if other, e := b.Twice(id); e == api.OK {
				if other <= last {
					t.Fatalf("the number %d behind %d", other, last)
				}
				last, sent[other] = other, sent[id]
			}
		case 3:
			if m, e := b.Take(id); e == api.OK {
				gone[id]++
				if m.ID != id || m.Text != sent[id] {
					t.Fatalf("mail %d: %v", id, m)
				}
			}
		case 4:
			if b.Lose(id) == api.OK {
				gone[id]++
			}
		}
	}
	for id, n := range gone {
		if n > 1 || sent[id] == "" && id > last {
			t.Errorf("mail %d is gone %d times", id, n)
		}
	}
	if len(gone)+len(b.IDs()) != last {
		t.Errorf("%d are gone, %d are there, of %d", len(gone), len(b.IDs()), last)
	}
}

// Promises 10.1 to 10.4 and R1: any steps, as numbers.
func FuzzSteps(f *testing.F) {
	f.Add([]byte{0, 1, 2, 2, 1, 0, 6, 2, 1, 4, 1, 0, 7, 1, 2, 4, 1, 0})
	f.Add([]byte{0, 255, 2, 0, 63, 64, 1, 63, 63, 3, 1, 0, 5, 2, 0})
	f.Fuzz(func(t *testing.T, l []byte) {
		b, m := bag.New(), model{mails: map[int]api.Mail{}}
		for ; len(l) >= 3; l = l[3:] {
			if what, x, y := int(l[0]), int(int8(l[1])), int(int8(l[2])); !step(b, &m, what, x, y) || !m.equals(b) {
				t.Fatalf("%d of %d, %d", what, x, y)
			}
		}
	})
}
