package slab_test

import (
	"math"
	"math/rand"
	"slices"
	"strings"
	"testing"

	"splice/api"
	"splice/slab"
)

// contents are what the blocks of a slab have; it must be up.
func contents(t *testing.T, s *slab.Slab) []string {
	t.Helper()
	var l []string
	for i := range s.Blocks() {
		b, e := s.Read(i)
		if e != api.OK {
			t.Fatalf("Read(%d): %v", i, e)
		}
		l = append(l, b)
	}
	return l
}

// has tells of a slab that is up whether it has these blocks, and these loose ones.
func has(t *testing.T, s *slab.Slab, loose []int, blocks ...string) {
	t.Helper()
	if got := contents(t, s); !slices.Equal(got, blocks) {
		t.Errorf("blocks: %q, not %q", got, blocks)
	}
	if got := s.Loose(); !slices.Equal(got, loose) {
		t.Errorf("loose: %v, not %v", got, loose)
	}
}

// isDown tests that no operation of a slab succeeds, whatever its arguments are.
func isDown(t *testing.T, s *slab.Slab) {
	t.Helper()
	if !s.Down() || len(s.Loose()) != 0 || s.Flush() != api.ErrDown {
		t.Errorf("not down: %v, %v", s.Down(), s.Loose())
	}
	for _, block := range []int{-1, 0, 1, s.Blocks(), math.MaxInt} {
		b, e := s.Read(block)
		if b != "" || e != api.ErrDown || s.Write(block, "x") != api.ErrDown || s.Write(block, strings.Repeat("x", 257)) != api.ErrDown {
			t.Errorf("block %d of what is down: %q, %v", block, b, e)
		}
	}
}

// write writes blocks, which must be well.
func write(t *testing.T, s *slab.Slab, texts ...string) {
	t.Helper()
	for i, b := range texts {
		if e := s.Write(i, b); e != api.OK {
			t.Fatalf("Write(%d, %q): %v", i, b, e)
		}
	}
}

// made is a slab whose blocks have durable contents, and others written over the first ones of them.
func made(t *testing.T, durable, over []string) *slab.Slab {
	t.Helper()
	s := slab.New(len(durable))
	write(t, s, durable...)
	if e := s.Flush(); e != api.OK {
		t.Fatalf("Flush: %v", e)
	}
	write(t, s, over...)
	return s
}

// Promise 7.1: New, Blocks.
func TestNew(t *testing.T) {
	for _, n := range []int{1, 2, 4, 4095, 4096} {
		s := slab.New(n)
		if s == nil || s.Blocks() != n || s.Down() || len(s.Loose()) != 0 {
			t.Fatalf("New(%d): %v", n, s)
		}
		for i, b := range contents(t, s) {
			if b != "" {
				t.Errorf("New(%d): block %d: %q", n, i, b)
			}
		}
		if s.Write(n-1, "x") != api.OK || s.Write(n, "x") != api.ErrArg {
			t.Errorf("New(%d): the last block", n)
		}
	}
	for _, n := range []int{0, -1, 4097, math.MinInt, math.MaxInt} {
		if slab.New(n) != nil {
			t.Errorf("New(%d)", n)
		}
	}
}

// Promises 7.1 and 7.2, R1: a nil slab.
func TestNil(t *testing.T) {
	var s *slab.Slab
	s.Trip(1, api.Loss{Keep: []int{0}})
	s.Fail(api.Loss{})
	s.Wake()
	b, e := s.Read(0)
	if b != "" || e != api.ErrArg || s.Write(0, "x") != api.ErrArg || s.Flush() != api.ErrArg || s.Blocks() != 0 || !s.Down() || len(s.Loose()) != 0 {
		t.Errorf("a nil slab: %q, %v", b, e)
	}
}

// Promise 7.1: what was written is read at once, and the last of it.
func TestWrite(t *testing.T) {
	s := slab.New(4)
	most := strings.Repeat("m", api.BlockBytes)
	write(t, s, "abc", most, "\x00\xff")
	has(t, s, []int{0, 1, 2}, "abc", most, "\x00\xff", "")
	write(t, s, "", "b")
	has(t, s, []int{0, 1, 2}, "", "b", "\x00\xff", "")
	if s.Flush() != api.OK {
		t.Errorf("Flush")
	}
	has(t, s, nil, "", "b", "\x00\xff", "")
	write(t, s, "", "b")
	has(t, s, []int{0, 1}, "", "b", "\x00\xff", "") // written again, though it is the same
}

// Promise 7.1: blocks that there are not, and too many bytes; neither changes anything.
func TestWriteBad(t *testing.T) {
	s := made(t, []string{"a", "b", "c", "d"}, []string{"x"})
	for _, block := range []int{-1, 4, 5, 4096, math.MinInt, math.MaxInt} {
		b, e := s.Read(block)
		if b != "" || e != api.ErrArg || s.Write(block, "z") != api.ErrArg || s.Write(block, strings.Repeat("z", 300)) != api.ErrArg {
			t.Errorf("block %d: %q, %v", block, b, e)
		}
	}
	for _, n := range []int{257, 258, 100000} {
		if e := s.Write(1, strings.Repeat("z", n)); e != api.ErrArg {
			t.Errorf("%d bytes: %v", n, e)
		}
	}
	has(t, s, []int{0}, "x", "b", "c", "d")
}

// Promises 7.1 and 7.2: what a slab that is down answers: it is down, whatever else is wrong.
func TestDown(t *testing.T) {
	s := made(t, []string{"a", "b"}, []string{"x"})
	s.Fail(api.Loss{Keep: []int{0}})
	isDown(t, s)
	if s.Blocks() != 2 {
		t.Errorf("Blocks: %d", s.Blocks())
	}
	s.Wake()
	has(t, s, nil, "x", "b")
	s.Fail(api.Loss{})
	s.Wake()
	s.Wake()
	has(t, s, nil, "x", "b")
}

// Promise 7.2: Fail, in so many words.
func TestFail(t *testing.T) {
	durable, over := []string{"abc", "d", "e", "f"}, []string{"uvwxyz", "q", "r"}
	for _, x := range []struct {
		l    api.Loss
		want []string
	}{
		{api.Loss{Keep: []int{1}, Torn: 0, At: 2}, []string{"uv", "q", "e", "f"}},
		{api.Loss{Torn: -1}, []string{"abc", "d", "e", "f"}},
		{api.Loss{Torn: 4, At: 9}, []string{"abc", "d", "e", "f"}},
		{api.Loss{Torn: 3, At: 1}, []string{"abc", "d", "e", "f"}}, // was not written
		{api.Loss{}, []string{"", "d", "e", "f"}},
		{api.Loss{Torn: 0, At: 0}, []string{"", "d", "e", "f"}},
		{api.Loss{Torn: 0, At: -1}, []string{"", "d", "e", "f"}},
		{api.Loss{Torn: 0, At: math.MinInt}, []string{"", "d", "e", "f"}},
		{api.Loss{Torn: 0, At: 1}, []string{"u", "d", "e", "f"}},
		{api.Loss{Torn: 0, At: 5}, []string{"uvwxy", "d", "e", "f"}},
		{api.Loss{Torn: 0, At: 6}, []string{"uvwxyz", "d", "e", "f"}},
		{api.Loss{Torn: 0, At: 7}, []string{"uvwxyz", "d", "e", "f"}},
		{api.Loss{Torn: 0, At: math.MaxInt}, []string{"uvwxyz", "d", "e", "f"}},
		{api.Loss{Keep: []int{0}, Torn: 0, At: 2}, []string{"uvwxyz", "d", "e", "f"}}, // kept ahead of torn
		{api.Loss{Keep: []int{2, 0, 1}, Torn: 1}, []string{"uvwxyz", "q", "r", "f"}},
		{api.Loss{Keep: []int{2, 2, 2}, Torn: 1, At: 1}, []string{"abc", "q", "r", "f"}},
		{api.Loss{Keep: []int{-1, 3, 4, math.MinInt, math.MaxInt}, Torn: -1}, []string{"abc", "d", "e", "f"}},
	} {
		s := made(t, durable, over)
		has(t, s, []int{0, 1, 2}, "uvwxyz", "q", "r", "f")
		s.Fail(x.l)
		isDown(t, s)
		s.Wake()
		has(t, s, nil, x.want...)
		s.Fail(api.Loss{Keep: []int{0, 1, 2, 3}})
		s.Wake()
		has(t, s, nil, x.want...) // and stays so: it is durable
	}
}

// Promise 7.2: the first example of the chapter.
func TestFailExample(t *testing.T) {
	s := made(t, []string{"abc", ""}, []string{"xyz", "q"})
	s.Fail(api.Loss{Keep: []int{1}, Torn: 0, At: 1})
	s.Wake()
	has(t, s, nil, "x", "q")
}

// Promise 7.2: what was written last counts, not what was written ahead of that.
func TestFailWrittenTwice(t *testing.T) {
	for at, want := range map[int]string{-1: "", 1: "l", 4: "last", 9: "last"} {
		s := made(t, []string{"durable"}, []string{"ahead of that"})
		write(t, s, "last")
		s.Fail(api.Loss{At: at})
		s.Wake()
		has(t, s, nil, want)
	}
}

// Promise 7.2: a failure of what is down has no effect.
func TestFailTwice(t *testing.T) {
	s := made(t, []string{"abc", "d"}, []string{"xyz", "q"})
	s.Fail(api.Loss{Torn: 1, At: 0})
	s.Fail(api.Loss{Keep: []int{0, 1}})
	s.Fail(api.Loss{Torn: 0, At: 0})
	isDown(t, s)
	s.Wake()
	has(t, s, nil, "abc", "")
}

// Promise 7.2: a trip at a flush, which then has no effect.
func TestTripFlush(t *testing.T) {
	s := made(t, []string{"a", "b", "c", "d"}, nil)
	s.Trip(2, api.Loss{Keep: []int{3}, Torn: -1})
	if a, b := s.Write(3, "z"), s.Flush(); a != api.OK || b != api.ErrDown {
		t.Errorf("Write, Flush: %v, %v", a, b)
	}
	isDown(t, s)
	s.Wake()
	has(t, s, nil, "a", "b", "c", "z")

	s = made(t, []string{"a", "b"}, []string{"x", "y"})
	s.Trip(1, api.Loss{Torn: 1, At: 9})
	if e := s.Flush(); e != api.ErrDown {
		t.Errorf("Flush: %v", e)
	}
	isDown(t, s)
	s.Wake()
	has(t, s, nil, "a", "y")
}

// Promise 7.2: a trip at a write, whose data the loss has in its hands.
func TestTripWrite(t *testing.T) {
	for _, x := range []struct {
		l    api.Loss
		want string
	}{
		{api.Loss{Keep: []int{1}}, "new"},
		{api.Loss{Torn: 1, At: 2}, "ne"},
		{api.Loss{Torn: 1, At: 99}, "new"},
		{api.Loss{Torn: -1}, "old"},
	} {
		s := made(t, []string{"a", "old"}, nil)
		s.Trip(1, x.l)
		if e := s.Write(1, "new"); e != api.ErrDown {
			t.Errorf("Write: %v", e)
		}
		isDown(t, s)
		s.Wake()
		has(t, s, nil, "a", x.want)
		if s.Write(0, "b") != api.OK || s.Flush() != api.OK {
			t.Errorf("the trip is still there")
		}
	}
}

// Promise 7.2: a trip counts writes and flushes with arguments that may be, and nothing else.
func TestTripCounts(t *testing.T) {
	for n := 1; n < 9; n++ {
		s := made(t, []string{"a", "b"}, nil)
		s.Trip(n, api.Loss{Torn: -1})
		for i := 1; i < n; i++ {
			if s.Write(-1, "x") != api.ErrArg || s.Write(2, "x") != api.ErrArg || s.Write(0, strings.Repeat("x", 257)) != api.ErrArg {
				t.Errorf("a bad write")
			}
			s.Read(0)
			s.Read(9)
			s.Loose()
			s.Blocks()
			if i%2 == 0 && s.Flush() != api.OK || i%2 == 1 && s.Write(0, "x") != api.OK {
				t.Errorf("trip %d: operation %d", n, i)
			}
		}
		if s.Down() || s.Write(1, "y") != api.ErrDown || !s.Down() {
			t.Errorf("trip %d", n)
		}
	}
}

// Promise 7.2: trips that never come, that are replaced, and that waking takes away.
func TestTripNone(t *testing.T) {
	works := func(s *slab.Slab) {
		t.Helper()
		for range 20 {
			if s.Write(0, "x") != api.OK || s.Flush() != api.OK {
				t.Fatalf("a trip")
			}
		}
	}
	s := slab.New(1)
	for _, n := range []int{0, -1, math.MinInt, math.MaxInt} {
		s.Trip(n, api.Loss{})
		works(s)
		s.Trip(3, api.Loss{})
		s.Trip(n, api.Loss{}) // in the place of the one that would come
		works(s)
	}
	s.Trip(3, api.Loss{})
	s.Wake()
	works(s)
	s.Trip(3, api.Loss{})
	s.Fail(api.Loss{})
	s.Wake()
	works(s)
	s.Fail(api.Loss{})
	s.Trip(1, api.Loss{})
	s.Wake()
	works(s)
}

// Promise 7.2: a trip in the place of another one counts from then on, and has its own loss.
func TestTripReplaced(t *testing.T) {
	s := made(t, []string{"a"}, []string{"b"})
	s.Trip(2, api.Loss{Keep: []int{0}})
	write(t, s, "c")
	s.Trip(2, api.Loss{At: 1})
	if s.Write(0, "dd") != api.OK || s.Write(0, "ee") != api.ErrDown {
		t.Errorf("the second trip")
	}
	s.Wake()
	has(t, s, nil, "e")
}

// Promise 7.2: waking what is up leaves what is not durable as it is.
func TestWakeUp(t *testing.T) {
	s := made(t, []string{"a", "b"}, []string{"x"})
	s.Wake()
	has(t, s, []int{0}, "x", "b")
	s.Fail(api.Loss{Torn: -1})
	s.Wake()
	has(t, s, nil, "a", "b")
}

// R3: a trip's loss may be changed by its owner, and so may the list of the loose blocks; neither matters.
func TestNothingShared(t *testing.T) {
	s := made(t, []string{"a", "b"}, []string{"x", "y"})
	keep := []int{1, 1}
	s.Trip(1, api.Loss{Keep: keep, Torn: -1})
	keep[0], keep[1] = 0, 0
	l := s.Loose()
	l[0], l[1] = 7, 7
	if got := s.Loose(); !slices.Equal(got, []int{0, 1}) {
		t.Errorf("Loose: %v", got)
	}
	s.Flush()
	s.Wake()
	has(t, s, nil, "a", "y")

	s = made(t, []string{"a", "b"}, []string{"x", "y"})
	keep = []int{1, 0, 5, 1}
	s.Fail(api.Loss{Keep: keep})
	if !slices.Equal(keep, []int{1, 0, 5, 1}) {
		t.Errorf("Keep: %v", keep)
	}
}

// model is what a slab must be: of each block what is durable, what was written last, and whether that is not durable.
type model struct {
	durable, last []string
	loose         []bool
	down          bool
	trip          int
	loss          api.Loss
}

func (m *model) fail(l api.Loss) {
	for i := range m.durable {
		switch {
		case m.down || !m.loose[i]:
		case slices.Contains(l.Keep, i):
			m.durable[i] = m.last[i]
		case l.Torn == i && l.At >= len(m.last[i]):
			m.durable[i] = m.last[i]
		case l.Torn == i && l.At <= 0:
			m.durable[i] = ""
		case l.Torn == i:
			m.durable[i] = m.last[i][:l.At]
		}
		m.last[i], m.loose[i] = m.durable[i], false
	}
	m.down = true
}

func (m *model) operation(do func()) api.Errno {
	m.trip = max(m.trip-1, -1) // -1: there is none
	if m.trip == 0 {
		m.fail(m.loss)
		return api.ErrDown
	}
	do()
	return api.OK
}

func (m *model) write(block int, text string) api.Errno {
	switch {
	case m.down:
		return api.ErrDown
	case block < 0 || block >= len(m.last) || len(text) > 256:
		return api.ErrArg
	}
	m.last[block], m.loose[block] = text, true
	return m.operation(func() {})
}

func (m *model) flush() api.Errno {
	if m.down {
		return api.ErrDown
	}
	return m.operation(func() {
		copy(m.durable, m.last)
		clear(m.loose)
	})
}

// equals tells whether a slab is as the model.
func (m *model) equals(s *slab.Slab) bool {
	var loose []int
	for i := range m.last {
		b, e := s.Read(i)
		if m.down && (b != "" || e != api.ErrDown) || !m.down && (b != m.last[i] || e != api.OK) {
			return false
		}
		if m.loose[i] && !m.down {
			loose = append(loose, i)
		}
	}
	return s.Down() == m.down && slices.Equal(s.Loose(), loose) && s.Blocks() == len(m.last)
}

// step does one and the same to a slab and to a model, and tells whether both answer the same.
func step(s *slab.Slab, m *model, what, block, n int) bool {
	l := api.Loss{Keep: []int{n % 5, block - 1}, Torn: block, At: n - 3}
	switch what % 8 {
	case 0, 1, 2:
		text := strings.Repeat(string(rune('a'+n%26)), n*n%300)
		return s.Write(block, text) == m.write(block, text)
	case 3, 4:
		return s.Flush() == m.flush()
	case 5:
		s.Trip(n-2, l)
		m.trip, m.loss = n-2, l
	case 6:
		s.Fail(l)
		if !m.down {
			m.fail(l)
		}
	case 7:
		s.Wake()
		m.down, m.trip = false, -1
	}
	return true
}

// Promises 7.1 to 7.3: any steps, held against what the document says of each block.
func TestAnySteps(t *testing.T) {
	d := rand.New(rand.NewSource(7))
	for range 200 {
		s, m := slab.New(4), model{durable: make([]string, 4), last: make([]string, 4), loose: make([]bool, 4)}
		for i := range 200 {
			what, block, n := d.Intn(8), d.Intn(6)-1, d.Intn(20)
			if !step(s, &m, what, block, n) || !m.equals(s) {
				t.Fatalf("step %d: %d of block %d by %d: not %+v", i, what, block, n, m)
			}
		}
	}
}

// Promise 7.3: after any loss each block has its durable content or what was written last, but for one, which has a part of that from its front on.
func TestAnyLoss(t *testing.T) {
	d := rand.New(rand.NewSource(73))
	durable := []string{"", "one", "two", "three", "four"}
	for range 3000 {
		over := make([]string, d.Intn(6))
		for i := range over {
			over[i] = strings.Repeat("new", d.Intn(4))
		}
		s := made(t, durable, over)
		var keep []int
		for range d.Intn(4) {
			keep = append(keep, d.Intn(7)-1)
		}
		s.Fail(api.Loss{Keep: keep, Torn: d.Intn(7) - 1, At: d.Intn(12) - 1})
		s.Wake()
		parts := 0
		for i, b := range contents(t, s) {
			switch {
			case b == durable[i]:
			case i >= len(over) || !strings.HasPrefix(over[i], b):
				t.Fatalf("block %d of %q over %q: %q", i, over, durable, b)
			case b != over[i]:
				parts++
			}
		}
		if parts > 1 {
			t.Fatalf("%d blocks are torn", parts)
		}
	}
}

// Promise 7.3: what was flushed and not written since is there after any losses.
func TestFlushedStays(t *testing.T) {
	s := made(t, []string{"a", "b", "c"}, []string{"x"})
	for i := range 20 {
		s.Write(0, "y")
		s.Fail(api.Loss{Keep: []int{i % 3}, Torn: i % 4, At: i - 5})
		s.Wake()
		if l := contents(t, s); l[1] != "b" || l[2] != "c" {
			t.Fatalf("lost: %q", l)
		}
	}
}

// Promises 7.1 to 7.3 and R1: any steps, as bytes.
func FuzzSteps(f *testing.F) {
	f.Add([]byte{0, 1, 5, 3, 0, 0, 0, 1, 7, 6, 1, 5, 7, 0, 0})
	f.Add([]byte{5, 2, 4, 0, 2, 9, 3, 0, 0, 7, 0, 0})
	f.Fuzz(func(t *testing.T, b []byte) {
		s, m := slab.New(4), model{durable: make([]string, 4), last: make([]string, 4), loose: make([]bool, 4)}
		for ; len(b) >= 3; b = b[3:] {
			if what, block, n := int(b[0]), int(int8(b[1])), int(b[2]); !step(s, &m, what, block, n) || !m.equals(s) {
				t.Fatalf("%d of block %d by %d", what, block, n)
			}
		}
	})
}
