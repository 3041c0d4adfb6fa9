package wal_test

import (
	"fmt"
	"math/rand"
	"slices"
	"strings"
	"testing"

	"splice/api"
	"splice/cksum"
	"splice/slab"
	"splice/vint"
	"splice/wal"
)

const most = 1 << 40 // the greatest Turn, and the greatest N

// frame is the bytes of the block of a part.
func frame(turn, n, part, of int, text string) string {
	s, _ := cksum.Frame(vint.Num(turn) + vint.Num(n) + vint.Num(part) + vint.Num(of) + text)
	return s
}

// slabOf is a slab of so many blocks, some of which have bytes that are durable.
func slabOf(t *testing.T, blocks int, texts map[int]string) *slab.Slab {
	t.Helper()
	s := slab.New(blocks)
	for i, b := range texts {
		if e := s.Write(i, b); e != api.OK {
			t.Fatalf("Write(%d): %v", i, e)
		}
	}
	if e := s.Flush(); e != api.OK {
		t.Fatalf("Flush: %v", e)
	}
	return s
}

// open opens what can be opened.
func open(t *testing.T, s *slab.Slab) (l *wal.Log, text string, records []string) {
	t.Helper()
	l, text, records, e := wal.Open(s)
	if l == nil || e != api.OK {
		t.Fatalf("Open: %v", e)
	}
	return l, text, records
}

// holds tells whether a slab has this content.
func holds(t *testing.T, s *slab.Slab, text string, records ...string) {
	t.Helper()
	_, got, l := open(t, s)
	if got != text || !slices.Equal(l, records) {
		t.Errorf("content: %.9q of %d, %.9q; not %.9q of %d, %.9q", got, len(got), l, text, len(text), records)
	}
}

// block is what a block has.
func block(t *testing.T, s *slab.Slab, i int) string {
	t.Helper()
	b, e := s.Read(i)
	if e != api.OK {
		t.Fatalf("Read(%d): %v", i, e)
	}
	return b
}

// contents are what all blocks have.
func contents(t *testing.T, s *slab.Slab) []string {
	t.Helper()
	l := make([]string, s.Blocks())
	for i := range l {
		l[i] = block(t, s, i)
	}
	return l
}

// text is one of so many bytes, of which no two parts are the same.
func text(n int) string {
	var b strings.Builder
	for i := 0; b.Len() < n; i++ {
		fmt.Fprintf(&b, "%d,", i)
	}
	return b.String()[:n]
}

// needs is how many parts a text has.
func needs(s string) int {
	n := 1
	for len(s) > 200 {
		s, n = s[200:], n+1
	}
	return n
}

// answers tests what calls answered.
func answers(t *testing.T, what string, want api.Errno, got ...api.Errno) {
	t.Helper()
	for i, e := range got {
		if e != want {
			t.Errorf("%s: call %d: %v, not %v", what, i, e, want)
		}
	}
}

// Promises 9.1 and 9.3: a log on a slab that is empty.
func TestOpenEmpty(t *testing.T) {
	for blocks, rows := range map[int]int{16: 8, 17: 9, 18: 10, 19: 11, 20: 10, 23: 13, 24: 12, 2000: 1000, 4095: 2049, 4096: 2048} {
		l, text, records := open(t, slab.New(blocks))
		if text != "" || len(records) != 0 || l.Rows() != rows || l.Room() != rows || l.Turn() != 1 {
			t.Errorf("%d blocks: %q, %q, %d rows, room %d, turn %d", blocks, text, records, l.Rows(), l.Room(), l.Turn())
		}
	}
}

// Promise 9.1: what can't be opened, and the order of errors.
func TestOpenErrors(t *testing.T) {
	late := func(blocks int) *slab.Slab {
		return slabOf(t, blocks, map[int]string{3: frame(most, 0, 0, 1, "")})
	}
	failed := func(s *slab.Slab) *slab.Slab {
		s.Fail(api.Loss{Torn: -1})
		return s
	}
	for i, x := range []struct {
		s    *slab.Slab
		want api.Errno
	}{
		{nil, api.ErrArg}, {slab.New(0), api.ErrArg}, {slab.New(1), api.ErrArg}, {slab.New(15), api.ErrArg},
		{failed(slab.New(15)), api.ErrArg}, {late(15), api.ErrArg}, {failed(late(15)), api.ErrArg},
		{failed(slab.New(16)), api.ErrDown}, {failed(late(16)), api.ErrDown}, {late(16), api.ErrLong},
	} {
		if l, text, records, e := wal.Open(x.s); l != nil || text != "" || records != nil || e != x.want {
			t.Errorf("%d: %v, %q, %q, %v", i, l, text, records, e)
		}
	}
}

// Promise 9.1: the Turn is behind that of any block of a part, wherever it is and whatever else it tells; but of no other block.
func TestTurn(t *testing.T) {
	for _, at := range []int{0, 3, 4, 7, 8, 9, 15, 18} {
		for _, x := range []struct {
			b    string
			want int
		}{
			{frame(0, 0, 0, 1, ""), 1}, {frame(1, 0, 0, 1, "x"), 2}, {frame(77, 99, 5, 9, "x"), 78},
			{frame(most-1, most, 1<<50, 1<<51, text(200)), most},
			{frame(most+1, 0, 0, 1, "x"), 1}, {frame(5, most+1, 0, 1, "x"), 1}, {frame(5, 0, 1, 1, "x"), 1},
			{frame(5, 0, 0, 0, "x"), 1}, {frame(5, 0, 9, 3, "x"), 1}, {frame(5, 0, 0, 1, text(201)), 1},
			{frame(5, 0, 0, 1, "x") + "x", 1}, {frame(5, 0, 0, 1, "x")[:9], 1}, {"", 1}, {"\x05\x00\x00\x01", 1},
		} {
			l, _, _ := open(t, slabOf(t, 19, map[int]string{at: x.b, 10: frame(0, 4, 2, 3, "")}))
			if l.Turn() != x.want {
				t.Errorf("block %d: %q: turn %d, not %d", at, x.b, l.Turn(), x.want)
			}
		}
	}
	l, _, _ := open(t, slabOf(t, 19, map[int]string{2: frame(4, 0, 0, 1, ""), 5: frame(9, 0, 0, 1, ""), 15: frame(8, 0, 0, 1, "")}))
	if l.Turn() != 10 {
		t.Errorf("turn %d", l.Turn())
	}
}

// Promise 9.1: Open changes nothing, and asks a slab for nothing that a trip counts.
func TestOpenReadsOnly(t *testing.T) {
	s := slab.New(20)
	l, _, _ := open(t, s)
	answers(t, "made", api.OK, l.Keep("k"), l.Append("a"))
	was, loose := contents(t, s), s.Loose()
	s.Trip(1, api.Loss{Torn: -1})
	for range 3 {
		holds(t, s, "k", "a")
	}
	if again, _, _ := open(t, s); again.Turn() != 2 || again.Rows() != 10 || again.Room() != 9 {
		t.Errorf("turn %d, %d rows, room %d", again.Turn(), again.Rows(), again.Room())
	}
	if !slices.Equal(contents(t, s), was) || !slices.Equal(s.Loose(), loose) || s.Down() {
		t.Errorf("changed: %q", contents(t, s))
	}
}

// Promises 9.2 and 9.3: a nil log.
func TestNil(t *testing.T) {
	var l *wal.Log
	answers(t, "nil", api.ErrArg, l.Append(""), l.Append(text(20001)), l.Sync(), l.Keep(""), l.Keep(text(300000)))
	if l.Room() != 0 || l.Rows() != 0 || l.Turn() != 0 {
		t.Errorf("nil: %d, %d, %d", l.Room(), l.Rows(), l.Turn())
	}
}

// Promises 9.2 and 9.3: the example of Append.
func TestAppendExample(t *testing.T) {
	s := slab.New(20)
	l, _, _ := open(t, s)
	answers(t, "Append", api.OK, l.Append("x"), l.Append(text(450)), l.Append(""))
	if l.Room() != 5 || l.Append(text(1001)) != api.ErrFull || l.Room() != 5 || l.Rows() != 10 || l.Turn() != 1 {
		t.Errorf("room %d", l.Room())
	}
	holds(t, s, "", "x", text(450), "")
	answers(t, "the last rows", api.OK, l.Append(text(1000)), l.Sync())
	answers(t, "no rows", api.ErrFull, l.Append(""), l.Append("x"), l.Append(text(20000)))
	answers(t, "no rows", api.ErrLong, l.Append(text(20001)))
	if l.Room() != 0 {
		t.Errorf("room %d", l.Room())
	}
	holds(t, s, "", "x", text(450), "", text(1000))
}

// Promise 9.2: how many rows a record takes.
func TestAppendRows(t *testing.T) {
	for n, rows := range map[int]int{0: 1, 1: 1, 199: 1, 200: 1, 201: 2, 399: 2, 400: 2, 401: 3, 19800: 99, 19801: 100, 20000: 100} {
		s := slab.New(240)
		l, _, _ := open(t, s)
		answers(t, "Append", api.OK, l.Append("a"), l.Append(text(n)), l.Append("b"))
		if l.Room() != 118-rows {
			t.Errorf("%d bytes: room %d", n, l.Room())
		}
		holds(t, s, "", "a", text(n), "b")
		l, _, _ = open(t, s)
		if l.Room() != 118-rows {
			t.Errorf("%d bytes, opened again: room %d", n, l.Room())
		}
	}
}

// Promise 9.2: in which blocks a record's parts are, and what they tell.
func TestAppendBlocks(t *testing.T) {
	s := slabOf(t, 19, map[int]string{4: frame(6, 30, 0, 1, "text")})
	l, _, _ := open(t, s)
	long := text(450)
	answers(t, "Append", api.OK, l.Append("a"), l.Append(long), l.Append(""))
	want := make([]string, 19)
	want[4] = frame(6, 30, 0, 1, "text")
	want[8] = frame(7, 30, 0, 1, "a")
	want[9], want[10], want[11] = frame(7, 31, 0, 3, long[:200]), frame(7, 32, 1, 3, long[200:400]), frame(7, 33, 2, 3, long[400:])
	want[12] = frame(7, 34, 0, 1, "")
	if got := contents(t, s); !slices.Equal(got, want) {
		t.Errorf("blocks: %q, not %q", got, want)
	}
	if !slices.Equal(s.Loose(), []int{8, 9, 10, 11, 12}) {
		t.Errorf("not synced, but durable: %v", s.Loose())
	}
	if l.Sync() != api.OK || len(s.Loose()) != 0 || !slices.Equal(contents(t, s), want) {
		t.Errorf("Sync: %v", s.Loose())
	}
	l, _, _ = open(t, s)
	answers(t, "Append", api.OK, l.Append("b"))
	if got := block(t, s, 13); got != frame(8, 35, 0, 1, "b") {
		t.Errorf("opened again: %q", got)
	}
}

// Promise 9.2: a record that is refused changes nothing.
func TestAppendRefused(t *testing.T) {
	s := slab.New(20)
	l, _, _ := open(t, s)
	answers(t, "Append", api.OK, l.Append("a"), l.Sync())
	was := contents(t, s)
	answers(t, "too long", api.ErrLong, l.Append(text(20001)), l.Append(text(1<<20)))
	answers(t, "too long for the rows", api.ErrFull, l.Append(text(1801)), l.Append(text(20000)))
	if !slices.Equal(contents(t, s), was) || len(s.Loose()) != 0 || l.Room() != 9 {
		t.Errorf("changed: %q", contents(t, s))
	}
	answers(t, "behind that", api.OK, l.Append(text(1800)))
	holds(t, s, "", "a", text(1800))
}

// Promise 9.2: an N is at most 2^40: that behind a record, and that of a text.
func TestGreatestN(t *testing.T) {
	at := func(n int) (*slab.Slab, *wal.Log) {
		s := slabOf(t, 20, map[int]string{0: frame(1, n, 0, 1, "text")})
		l, _, _ := open(t, s)
		return s, l
	}
	s, l := at(most - 3)
	answers(t, "4 parts", api.ErrLong, l.Append(text(601)), l.Append(text(2001)))
	answers(t, "3 parts", api.OK, l.Append(text(600)))
	answers(t, "no N", api.ErrLong, l.Append(""), l.Append(text(2000)), l.Keep(""), l.Keep("x"))
	if l.Room() != 7 {
		t.Errorf("room %d", l.Room())
	}
	holds(t, s, "text", text(600))

	s, l = at(most - 3)
	answers(t, "one N behind the next row's", api.OK, l.Append("a"), l.Append("b"), l.Keep("kept"))
	if got := block(t, s, 5); got != frame(2, most, 0, 1, "kept") {
		t.Errorf("Keep: %q", got)
	}
	answers(t, "no N", api.ErrLong, l.Append(""), l.Keep(""))
	holds(t, s, "kept")

	s, l = at(most)
	answers(t, "no N", api.ErrLong, l.Append(""), l.Keep(""))
	if l.Room() != 10 {
		t.Errorf("room %d", l.Room())
	}
	holds(t, s, "text")
}

// Promise 9.2: the example of Keep, and how long a text may be.
func TestKeepLength(t *testing.T) {
	for blocks, longest := range map[int]int{16: 800, 19: 800, 20: 1000, 24: 1200, 4096: 204800} {
		for _, n := range []int{0, 1, 200, 201, 450, longest - 1, longest} {
			s := slab.New(blocks)
			l, _, _ := open(t, s)
			answers(t, "made", api.OK, l.Append("a"), l.Append("b"), l.Keep(text(n)))
			if l.Room() != l.Rows() || l.Turn() != 1 || len(s.Loose()) != 0 {
				t.Errorf("%d blocks, %d bytes: room %d, turn %d, loose %v", blocks, n, l.Room(), l.Turn(), s.Loose())
			}
			holds(t, s, text(n))
			answers(t, "behind it", api.OK, l.Append("c"))
			was := contents(t, s)
			answers(t, "too long", api.ErrLong, l.Keep(text(longest+1)), l.Keep(text(longest+201)))
			if l.Room() != l.Rows()-1 || !slices.Equal(contents(t, s), was) || !slices.Equal(s.Loose(), []int{blocks / 4 * 2}) {
				t.Errorf("%d blocks, %d bytes: room %d", blocks, n, l.Room())
			}
			holds(t, s, text(n), "c")
		}
	}
}

// Promise 9.2: texts go to the two slots by turns, the first one to the first slot; their N and those of the rows behind them.
func TestKeepBlocks(t *testing.T) {
	s := slab.New(19)
	l, _, _ := open(t, s)
	one, two := text(301), strings.Repeat("t", 650)
	answers(t, "made", api.OK, l.Append("a"), l.Append(one), l.Keep(one), l.Append("b"), l.Append("c"), l.Sync())
	want := make([]string, 19)
	want[0], want[1] = frame(1, 4, 0, 2, one[:200]), frame(1, 4, 1, 2, one[200:])
	want[8], want[9], want[10] = frame(1, 4, 0, 1, "b"), frame(1, 5, 0, 1, "c"), frame(1, 2, 1, 2, one[200:])
	if got := contents(t, s); !slices.Equal(got, want) {
		t.Errorf("the first text: %q, not %q", got, want)
	}
	holds(t, s, one, "b", "c")
	answers(t, "the second text", api.OK, l.Keep(two), l.Append("d"))
	for i := range 4 {
		want[4+i] = frame(1, 7, i, 4, two[200*i:min(200*i+200, 650)])
	}
	want[8] = frame(1, 7, 0, 1, "d")
	if got := contents(t, s); !slices.Equal(got, want) {
		t.Errorf("the second text: %q, not %q", got, want)
	}
	holds(t, s, two, "d")
	l, _, _ = open(t, s)
	answers(t, "the third text", api.OK, l.Keep(""), l.Keep("fourth"), l.Append("e"))
	want[0], want[4] = frame(2, 9, 0, 1, ""), frame(2, 10, 0, 1, "fourth")
	want[8] = frame(2, 10, 0, 1, "e")
	if got := contents(t, s); !slices.Equal(got, want) {
		t.Errorf("the fourth text: %q, not %q", got, want)
	}
	holds(t, s, "fourth", "e")
}

// Promise 9.2: a log opened again keeps its next text in the other slot.
func TestKeepOpened(t *testing.T) {
	s := slab.New(16)
	for i := range 9 {
		l, _, _ := open(t, s)
		k := fmt.Sprint("text ", i)
		answers(t, "made", api.OK, l.Append("a"), l.Keep(k))
		if got := block(t, s, i%2*4); got != frame(i+1, 2*i+2, 0, 1, k) {
			t.Errorf("text %d: %q", i, got)
		}
		holds(t, s, k)
	}
}

// down tests that a log goes on no more.
func down(t *testing.T, l *wal.Log, room int) {
	t.Helper()
	for range 2 {
		answers(t, "down", api.ErrDown, l.Append("x"), l.Append(text(20001)), l.Append(text(20000)), l.Sync(), l.Keep("x"), l.Keep(text(300000)))
	}
	if l.Room() != room || l.Rows() != 10 || l.Turn() != 1 {
		t.Errorf("room %d, %d rows, turn %d", l.Room(), l.Rows(), l.Turn())
	}
}

// Promise 9.2: no power, which a log does not forget when it is there again.
func TestDown(t *testing.T) {
	for i, call := range []func(l *wal.Log) api.Errno{
		func(l *wal.Log) api.Errno { return l.Append("x") },
		func(l *wal.Log) api.Errno { return l.Append(text(20001)) },
		func(l *wal.Log) api.Errno { return l.Sync() },
		func(l *wal.Log) api.Errno { return l.Keep("x") },
		func(l *wal.Log) api.Errno { return l.Keep(text(300000)) },
	} {
		s := slab.New(20)
		l, _, _ := open(t, s)
		answers(t, "made", api.OK, l.Append("a"), l.Append(text(500)), l.Sync())
		s.Fail(api.Loss{Torn: -1})
		if e := call(l); e != api.ErrDown {
			t.Errorf("call %d: %v", i, e)
		}
		s.Wake()
		was := contents(t, s)
		down(t, l, 6)
		if !slices.Equal(contents(t, s), was) || len(s.Loose()) != 0 {
			t.Errorf("call %d: written to", i)
		}
		holds(t, s, "", "a", text(500))
	}
}

// Promise 9.2: a log that no call told of a loss goes on when the power is there again.
func TestDownUnseen(t *testing.T) {
	s := slab.New(20)
	l, _, _ := open(t, s)
	answers(t, "made", api.OK, l.Append("a"), l.Sync())
	s.Fail(api.Loss{Torn: -1})
	s.Wake()
	answers(t, "awake", api.OK, l.Append("b"), l.Sync(), l.Keep("k"), l.Append("c"))
	holds(t, s, "k", "c")
}

// Promises 9.2 and 9.4: the power fails within a call, at any operation on the slab.
func TestTrips(t *testing.T) {
	long := text(450)
	for _, x := range []struct {
		operations int
		call       func(l *wal.Log) api.Errno
		text       string
		records    []string
	}{
		{3, func(l *wal.Log) api.Errno { return l.Append(long) }, "text", []string{"a", "b", long}},
		{1, func(l *wal.Log) api.Errno { return l.Append("") }, "text", []string{"a", "b", ""}},
		{1, func(l *wal.Log) api.Errno { return l.Sync() }, "text", []string{"a", "b"}},
		{4, func(l *wal.Log) api.Errno { return l.Keep(long) }, long, nil},
		{2, func(l *wal.Log) api.Errno { return l.Keep("") }, "", nil},
	} {
		for n := 1; n <= x.operations+1; n++ {
			for _, keep := range [][]int{nil, {0, 1, 2, 3, 4, 5, 6, 7, 8, 9, 10, 11, 12, 13, 14, 15, 16, 17, 18, 19}} {
				s := slab.New(20)
				l, _, _ := open(t, s)
				answers(t, "made", api.OK, l.Keep("text"), l.Append("a"), l.Sync(), l.Append("b"))
				s.Trip(n, api.Loss{Keep: keep, Torn: -1})
				e := x.call(l)
				if n > x.operations {
					answers(t, "no trip", api.OK, e)
					holds(t, s, x.text, x.records...)
					continue
				}
				answers(t, "a trip", api.ErrDown, e)
				if n%2 == 0 { // or no call comes till the power is there again
					down(t, l, 8)
				}
				s.Wake()
				down(t, l, 8)
				switch all := n >= x.operations-1 && x.records == nil || n == x.operations; {
				case keep == nil:
					holds(t, s, "text", "a")
				case all:
					holds(t, s, x.text, x.records...)
				default:
					holds(t, s, "text", "a", "b")
				}
			}
		}
	}
}

// Promise 9.4: the example of the chapter.
func TestLossExample(t *testing.T) {
	s := slab.New(16)
	l, _, _ := open(t, s)
	if l.Rows() != 8 {
		t.Errorf("%d rows", l.Rows())
	}
	answers(t, "made", api.OK, l.Append("a"), l.Sync(), l.Append("b"))
	s.Fail(api.Loss{Torn: -1})
	s.Wake()
	holds(t, s, "", "a")
}

// Promise 9.1: what is the text of a slab. Slots of four blocks begin at 0 and 4.
func TestText(t *testing.T) {
	long := text(800)
	part := func(turn, n, i, of int) string { return frame(turn, n, i, of, long[200*i:200*i+200]) }
	for i, x := range []struct {
		blocks map[int]string
		want   string
	}{
		{map[int]string{0: frame(1, 1, 0, 1, "first")}, "first"},
		{map[int]string{4: frame(1, 1, 0, 1, "second")}, "second"},
		{map[int]string{0: frame(1, 1, 0, 1, "first"), 4: frame(1, 2, 0, 1, "second")}, "second"},
		{map[int]string{0: frame(1, 2, 0, 1, "first"), 4: frame(1, 1, 0, 1, "second")}, "first"},
		{map[int]string{0: frame(9, 1, 0, 1, "first"), 4: frame(1, 2, 0, 1, "second")}, "second"},
		{map[int]string{0: frame(1, 2, 0, 1, "first"), 4: frame(9, 1, 0, 1, "second")}, "first"},
		{map[int]string{0: frame(1, 2, 0, 1, "first"), 4: frame(2, 2, 0, 1, "second")}, "second"},
		{map[int]string{0: frame(2, 2, 0, 1, "first"), 4: frame(1, 2, 0, 1, "second")}, "first"},
		{map[int]string{0: frame(2, 2, 0, 1, "first"), 4: frame(2, 2, 0, 1, "second")}, "first"},
		{map[int]string{0: frame(0, 0, 0, 1, "first"), 4: frame(0, 0, 0, 1, "second")}, "first"},
		{map[int]string{0: frame(1, 1, 0, 1, ""), 4: frame(1, 0, 0, 1, "second")}, ""},
		{map[int]string{0: frame(1, 1, 0, 1, "first"), 1: frame(9, 9, 0, 1, "x"), 2: frame(9, 9, 1, 2, "x"), 3: "x"}, "first"},
		{map[int]string{0: part(1, 1, 0, 4), 1: part(1, 1, 1, 4), 2: part(1, 1, 2, 4), 3: part(1, 1, 3, 4)}, long},
		{map[int]string{0: part(1, 1, 0, 4), 1: part(1, 1, 1, 4), 2: part(1, 1, 2, 4)}, ""},
		{map[int]string{1: part(1, 1, 1, 4), 2: part(1, 1, 2, 4), 3: part(1, 1, 3, 4)}, ""},
		{map[int]string{0: part(1, 1, 0, 2), 1: part(2, 1, 1, 2)}, ""}, // another Turn
		{map[int]string{0: part(2, 1, 0, 2), 1: part(1, 1, 1, 2)}, ""},
		{map[int]string{0: part(1, 1, 0, 2), 1: part(1, 2, 1, 2)}, ""}, // another N
		{map[int]string{0: part(1, 1, 0, 2), 1: part(1, 1, 1, 3)}, ""}, // another Of
		{map[int]string{0: part(1, 1, 0, 3), 1: part(1, 1, 2, 3), 2: part(1, 1, 1, 3)}, ""},
		{map[int]string{0: part(1, 1, 0, 2), 1: part(1, 1, 0, 2)}, ""},
		{map[int]string{0: part(1, 1, 1, 2), 1: part(1, 1, 0, 2)}, ""},
		{map[int]string{1: frame(1, 1, 0, 1, "x"), 5: frame(1, 1, 0, 1, "x"), 8: frame(1, 1, 0, 1, "x")}, ""}, // not in the first block
		{map[int]string{3: part(1, 1, 0, 2), 4: part(1, 1, 1, 2)}, ""},
		{map[int]string{0: part(1, 1, 0, 5), 1: part(1, 1, 1, 5), 2: part(1, 1, 2, 5), 3: part(1, 1, 3, 5), 4: frame(1, 1, 4, 5, "x")}, ""}, // more than a slot
		{map[int]string{4: part(1, 1, 0, 5), 5: part(1, 1, 1, 5), 6: part(1, 1, 2, 5), 7: part(1, 1, 3, 5), 8: frame(1, 1, 4, 5, "x")}, ""},
		{map[int]string{0: part(1, 9, 0, 2), 4: frame(1, 1, 0, 1, "second")}, "second"}, // the greater N is not complete
		{map[int]string{0: frame(1, 9, 0, 1, "first") + "x", 4: frame(1, 1, 0, 1, "second")}, "second"},
		{map[int]string{0: frame(1, most+1, 0, 1, "first"), 4: frame(1, 1, 0, 1, "second")}, "second"},
		{map[int]string{0: frame(1, 9, 0, 1, text(201)), 4: frame(1, 1, 0, 1, "second")}, "second"},
		{map[int]string{0: frame(1, 9, 0, 0, "first"), 4: frame(1, 1, 0, 1, "second")}, "second"},
		{map[int]string{0: frame(1, 9, 0, 1<<62, "first"), 4: frame(1, 1, 0, 1, "second")}, "second"},
		{map[int]string{0: frame(1, most, 0, 1, text(200))}, text(200)},
	} {
		s := slabOf(t, 19, x.blocks)
		if _, got, records := open(t, s); got != x.want || len(records) != 0 {
			t.Errorf("%d: %.9q of %d, %q; not %.9q of %d", i, got, len(got), records, x.want, len(x.want))
		}
	}
}

// Promise 9.1: what are the records of a slab: here the rows begin at 8, and the text has N 5 and Turn 3.
func TestRecords(t *testing.T) {
	r := func(turn, n, i, of int) string { return frame(turn, n, i, of, fmt.Sprint(n)) }
	for i, x := range []struct {
		rows []string
		want []string
	}{
		{[]string{r(3, 5, 0, 1)}, []string{"5"}},
		{[]string{r(3, 5, 0, 1), r(3, 6, 0, 1), r(9, 7, 0, 1), r(9, 8, 0, 1)}, []string{"5", "6", "7", "8"}},
		{[]string{r(2, 5, 0, 1), r(3, 6, 0, 1)}, nil}, // a Turn that is less
		{[]string{r(3, 5, 0, 1), r(4, 6, 0, 1), r(3, 7, 0, 1), r(4, 8, 0, 1)}, []string{"5", "6"}},
		{[]string{r(3, 4, 0, 1), r(3, 5, 0, 1)}, nil}, // another N
		{[]string{r(3, 6, 0, 1), r(3, 7, 0, 1)}, nil},
		{[]string{r(3, 5, 0, 1), r(3, 5, 0, 1), r(3, 7, 0, 1)}, []string{"5"}},
		{[]string{r(3, 5, 0, 1), r(3, 7, 0, 1)}, []string{"5"}},
		{[]string{"", r(3, 5, 0, 1), r(3, 6, 0, 1)}, nil},
		{[]string{r(3, 5, 0, 1), "", r(3, 7, 0, 1)}, []string{"5"}},
		{[]string{r(3, 5, 0, 1), r(3, 6, 0, 1)[:7], r(3, 7, 0, 1)}, []string{"5"}},
		{[]string{r(3, 5, 0, 1) + "x", r(3, 6, 0, 1)}, nil},
		{[]string{r(3, 5, 0, 3), r(3, 6, 1, 3), r(3, 7, 2, 3), r(3, 8, 0, 2), r(3, 9, 1, 2)}, []string{"567", "89"}},
		{[]string{r(3, 5, 0, 1), r(3, 6, 0, 3), r(3, 7, 1, 3)}, []string{"5"}}, // parts are missing
		{[]string{r(3, 5, 0, 1), r(3, 6, 0, 3), r(3, 7, 1, 3), r(3, 8, 0, 1)}, []string{"5"}},
		{[]string{r(3, 5, 1, 2), r(3, 6, 0, 1)}, nil},
		{[]string{r(3, 5, 0, 1), r(3, 6, 1, 2), r(3, 7, 0, 1)}, []string{"5"}},
		{[]string{r(3, 5, 0, 3), r(3, 6, 2, 3), r(3, 7, 1, 3)}, nil},
		{[]string{r(3, 5, 0, 2), r(4, 6, 1, 2)}, nil}, // another Turn within a record
		{[]string{r(4, 5, 0, 2), r(3, 6, 1, 2)}, nil},
		{[]string{r(3, 5, 0, 2), r(3, 6, 1, 3), r(3, 7, 2, 3)}, nil}, // another Of
		{[]string{r(3, 5, 0, 3), r(3, 6, 1, 2), r(3, 7, 2, 3)}, nil},
		{[]string{r(3, 5, 0, 2), r(3, 5, 1, 2)}, nil}, // an N that does not rise
		{[]string{r(3, 5, 0, 2), r(3, 7, 1, 2)}, nil},
		{[]string{r(3, 5, 0, 0), r(3, 6, 0, 1)}, nil},
		{[]string{frame(3, 5, 0, 1, text(200)), frame(3, 6, 0, 1, text(201)), r(3, 7, 0, 1)}, []string{text(200)}},
		{[]string{frame(3, 5, 0, 1, ""), frame(3, 6, 0, 1, "")}, []string{"", ""}},
		{[]string{r(most-2, 5, 0, 1), r(most+1, 6, 0, 1)}, []string{"5"}},
		{[]string{r(3, 5, 0, 9), r(3, 6, 1, 9), r(3, 7, 2, 9), r(3, 8, 3, 9), r(3, 9, 4, 9), r(3, 10, 5, 9), r(3, 11, 6, 9), r(3, 12, 7, 9)}, nil}, // beyond the rows
		{[]string{r(3, 5, 0, 8), r(3, 6, 1, 8), r(3, 7, 2, 8), r(3, 8, 3, 8), r(3, 9, 4, 8), r(3, 10, 5, 8), r(3, 11, 6, 8), r(3, 12, 7, 8)}, []string{"56789101112"}},
	} {
		blocks := map[int]string{4: frame(3, 5, 0, 1, "text")}
		for at, b := range x.rows {
			blocks[8+at] = b
		}
		s := slabOf(t, 16, blocks)
		l, got, records := open(t, s)
		if got != "text" || !slices.Equal(records, x.want) {
			t.Errorf("%d: %q, not %q", i, records, x.want)
		}
		if used := l.Rows() - l.Room(); used < 8 {
			answers(t, "behind it", api.OK, l.Append("z"))
			if got := block(t, s, 8+used); got != frame(l.Turn(), 5+used, 0, 1, "z") {
				t.Errorf("%d: behind it: %q in row %d", i, got, used)
			}
			holds(t, s, "text", append(slices.Clone(x.want), "z")...)
		}
	}
}

// Promise 9.1: no text has N 0 and Turn 0, so that records may stand behind it.
func TestRecordsWithoutText(t *testing.T) {
	s := slabOf(t, 16, map[int]string{8: frame(0, 0, 0, 1, "a"), 9: frame(2, 1, 0, 1, "b"), 4: frame(9, 9, 0, 2, "half")})
	l, text, records := open(t, s)
	if text != "" || !slices.Equal(records, []string{"a", "b"}) || l.Turn() != 10 || l.Room() != 6 {
		t.Errorf("%q, %q, turn %d, room %d", text, records, l.Turn(), l.Room())
	}
	answers(t, "Keep", api.OK, l.Keep("k"))
	if got := block(t, s, 0); got != frame(10, 3, 0, 1, "k") {
		t.Errorf("Keep: %q", got)
	}
}

// Promise 9.1: a text of N 0 and Turn 0 is one, so that the next one goes to the other slot.
func TestTextOfZero(t *testing.T) {
	s := slabOf(t, 16, map[int]string{0: frame(0, 0, 0, 1, "zero")})
	l, text, _ := open(t, s)
	answers(t, "Keep", api.OK, l.Keep("k"))
	if got := block(t, s, 4); text != "zero" || got != frame(1, 1, 0, 1, "k") {
		t.Errorf("%q, %q", text, got)
	}
}

// part is the block of a part, as the tests read it.
type part struct {
	turn, n, part, of int
	text              string
	is                bool
}

func readPart(s string) (p part) {
	body, e := cksum.Whole(s)
	r := vint.From(body)
	p.turn, p.n, p.part, p.of = r.Num(), r.Num(), r.Num(), r.Num()
	p.text = r.Left()
	p.is = e == api.OK && r.Err() == api.OK && p.turn <= most && p.n <= most && p.part < p.of && len(p.text) <= 200
	return p
}

// content is what the document says of the content of a slab: and the slot of its text (-1: none), the N of its first row, how many rows its records have, and the greatest Turn.
type content struct {
	text    string
	records []string
	slot    int
	n       int
	used    int
	turn    int
}

func contentOf(blocks []string) content {
	var parts []part
	c := content{slot: -1}
	for _, b := range blocks {
		p := readPart(b)
		parts = append(parts, p)
		if p.is {
			c.turn = max(c.turn, p.turn)
		}
	}
	q := len(blocks) / 4
	turn := 0
	for slot := range 2 {
		first, text, all := parts[slot*q], "", true
		for i := 0; all && i < first.of; i++ {
			all = i < q
			if all {
				p := parts[slot*q+i]
				all = p.is && p.part == i && p.turn == first.turn && p.n == first.n && p.of == first.of
				text += p.text
			}
		}
		if first.is && all && (c.slot < 0 || first.n > c.n || first.n == c.n && first.turn > turn) {
			c.text, c.slot, c.n, turn = text, slot, first.n, first.turn
		}
	}
	rows := parts[2*q:]
	record, begun := "", part{}
	for i, p := range rows {
		if !p.is || p.n != c.n+i || p.turn < turn {
			break
		}
		if at := i - c.used; at == 0 {
			record, begun = "", p
		} else if p.turn != begun.turn || p.of != begun.of {
			break
		}
		if p.part != i-c.used {
			break
		}
		record += p.text
		turn = p.turn
		if p.part == p.of-1 {
			c.records = append(c.records, record)
			c.used = i + 1
		}
	}
	return c
}

// agrees tests that a slab is opened as the document says, and that its log goes on where it says.
func agrees(t *testing.T, s *slab.Slab) {
	t.Helper()
	blocks := contents(t, s)
	c := contentOf(blocks)
	l, text, records, e := wal.Open(s)
	if c.turn == most {
		if e != api.ErrLong {
			t.Fatalf("%q: %v", blocks, e)
		}
		return
	}
	if e != api.OK || text != c.text || !slices.Equal(records, c.records) || l.Turn() != c.turn+1 || l.Room() != l.Rows()-c.used {
		t.Fatalf("%q: %q, %q, turn %d, room %d, %v; not %+v", blocks, text, records, l.Turn(), l.Room(), e, c)
	}
	q := len(blocks) / 4
	next := c.n + c.used
	if e := l.Append("z"); next+1 > most && e != api.ErrLong || next+1 <= most && l.Rows() == c.used && e != api.ErrFull {
		t.Fatalf("%q: Append: %v", blocks, e)
	} else if e == api.OK {
		if got := block(t, s, 2*q+c.used); got != frame(c.turn+1, next, 0, 1, "z") {
			t.Fatalf("%q: Append: %q", blocks, got)
		}
		next++
	}
	slot := 0
	if c.slot == 0 {
		slot = 1
	}
	if e := l.Keep("k"); next+1 > most && e != api.ErrLong || next+1 <= most && e != api.OK {
		t.Fatalf("%q: Keep: %v", blocks, e)
	} else if got := block(t, s, slot*q); e == api.OK && got != frame(c.turn+1, next+1, 0, 1, "k") {
		t.Fatalf("%q: Keep: %q", blocks, got)
	}
}

// Promises 9.1 and 9.2: slabs of any blocks of parts that nearly fit, held against what the document says.
func TestAnyContent(t *testing.T) {
	d := rand.New(rand.NewSource(91))
	found := 0
	for range 20000 {
		s := slab.New(16 + d.Intn(4))
		n, turn := d.Intn(3), d.Intn(3)
		if d.Intn(9) == 0 {
			n, turn = most-d.Intn(10), most-d.Intn(3)
		}
		for slot := range 2 {
			of := 1 + d.Intn(3)
			for i := range of {
				s.Write(4*slot+i, frame(turn+jitter(d), n+jitter(d), i, of, text(d.Intn(4))))
			}
		}
		q := s.Blocks() / 4 * 2
		for at := q; at < s.Blocks(); {
			of := 1 + d.Intn(3)
			for i := range of {
				if at < s.Blocks() && d.Intn(30) > 0 {
					s.Write(at, frame(turn+jitter(d), n+at-q+jitter(d), i, of+jitter(d), text(d.Intn(4))))
				}
				at++
			}
			turn += d.Intn(2)
		}
		s.Flush()
		found += contentOf(contents(t, s)).used
		agrees(t, s)
	}
	if found < 30000 {
		t.Errorf("only %d rows have records", found)
	}
}

// jitter is 0 most of the time.
func jitter(d *rand.Rand) int {
	return max(0, d.Intn(40)-37)
}

// history is what 9.4 tells of a log: its text, its records, how many of them are synced.
type history struct {
	text    string
	records []string
	synced  int
}

// may tells whether a slab may have this content after a loss, a text or a record being under way or not.
func (h history) may(text string, records []string, keeping, appending []string) bool {
	if len(keeping) > 0 && text == keeping[0] && len(records) == 0 {
		return true
	}
	all := slices.Concat(h.records, appending)
	return text == h.text && h.synced <= len(records) && len(records) <= len(all) && slices.Equal(records, all[:len(records)])
}

// loss is any loss of power.
func loss(d *rand.Rand, blocks int) api.Loss {
	l := api.Loss{Torn: d.Intn(blocks+1) - 1, At: d.Intn(250)}
	few := d.Intn(4)
	for i := range blocks {
		if d.Intn(4) < few {
			l.Keep = append(l.Keep, i)
		}
	}
	return l
}

// Promise 9.4: whatever is lost, a log opened again has the text that was kept last, or that was being kept, and records from the first one on, with all that were synced; those appended later are not mixed with lost ones.
func TestAnyLosses(t *testing.T) {
	d := rand.New(rand.NewSource(94))
	losses, lost := 0, 0
	for range 300 {
		s := slab.New(16 + d.Intn(9))
		l, _, _ := open(t, s)
		var h history
		for i := range 60 {
			if d.Intn(4) == 0 {
				s.Trip(1+d.Intn(7), loss(d, s.Blocks()))
			}
			var keeping, appending []string
			made := strings.Repeat(fmt.Sprint(i, ";"), d.Intn(180))
			switch d.Intn(8) {
			case 0, 1, 2, 3:
				e := l.Append(made)
				if e == api.OK {
					h.records = append(h.records, made)
				}
				appending = []string{made}
			case 4, 5:
				if l.Sync() == api.OK {
					h.synced = len(h.records)
				}
			case 6:
				keeping = []string{made}
				if e := l.Keep(made); e == api.OK {
					h, keeping = history{text: made}, nil
				} else if e == api.ErrLong {
					keeping = nil
				}
			case 7:
				if d.Intn(3) == 0 {
					s.Fail(loss(d, s.Blocks()))
				}
			}
			if !s.Down() {
				continue
			}
			answers(t, "down", api.ErrDown, l.Sync(), l.Append(""), l.Keep(""))
			s.Wake()
			losses++
			turn := l.Turn()
			next, text, records := open(t, s)
			if !h.may(text, records, keeping, appending) || next.Turn() < turn {
				t.Fatalf("step %d: %.9q, %.9q; not %.9q, %.9q (%d synced), keeping %.9q", i, text, records, h.text, h.records, h.synced, keeping)
			}
			lost += max(0, len(h.records)-len(records))
			l, h = next, history{text: text, records: records, synced: len(records)}
		}
	}
	if losses < 1000 || lost < 300 {
		t.Errorf("%d losses of power, %d records lost", losses, lost)
	}
}

// R3: what Open answers is its owner's, and what is opened again is the same.
func TestNothingShared(t *testing.T) {
	s := slab.New(16)
	l, _, _ := open(t, s)
	answers(t, "made", api.OK, l.Keep("k"), l.Append("a"), l.Append("b"))
	_, _, records := open(t, s)
	records[0], records[1] = "x", "y"
	_ = append(records[:1], "z")
	holds(t, s, "k", "a", "b")
}

// Promises 9.1, 9.2 and R1: any bytes in the blocks.
func FuzzOpen(f *testing.F) {
	f.Add([]byte(frame(1, 0, 0, 1, "a")), []byte(frame(1, 0, 0, 1, "b")), []byte(frame(1, 1, 0, 1, "c")), 1)
	f.Add([]byte(frame(1, 5, 0, 2, "a")), []byte(frame(1, 0, 0, 2, "b")), []byte(frame(1, 1, 1, 2, "c")), 2)
	f.Fuzz(func(t *testing.T, a, b, c []byte, n int) {
		s := slab.New(16)
		s.Write(0, string(a))
		s.Write(8, string(b))
		s.Write(9, string(c))
		s.Write(n, string(c))
		agrees(t, s)
	})
}

// Promises 9.1, 9.2 and R1: blocks of parts of any numbers.
func FuzzParts(f *testing.F) {
	f.Add(1, 5, 0, 1, 1, 5, 0, 1, 2, 6, 0, 1)
	f.Add(1, 5, 0, 1, 1, 5, 0, 2, 1, 6, 1, 2)
	f.Add(most, most, 0, 1, most-1, most, 0, 1<<61, 0, 0, 0, 0)
	f.Fuzz(func(t *testing.T, turn1, n1, part1, of1, turn2, n2, part2, of2, turn3, n3, part3, of3 int) {
		s := slab.New(16)
		s.Write(4, frame(turn1, n1, part1, of1, "a"))
		s.Write(8, frame(turn2, n2, part2, of2, "b"))
		s.Write(9, frame(turn3, n3, part3, of3, "c"))
		agrees(t, s)
	})
}
