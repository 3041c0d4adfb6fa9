package delta_test

import (
	"math"
	"math/rand"
	"slices"
	"strings"
	"testing"

	"splice/api"
	"splice/delta"
	"splice/table"
	"splice/vint"
)

// pairs are the pairs of keys and values that stand two by two.
func pairs(l ...int) []api.Pair {
	var out []api.Pair
	for i := 0; i+1 < len(l); i += 2 {
		out = append(out, api.Pair{Key: l[i], Val: l[i+1]})
	}
	return out
}

// none is a cell without a value.
func none() api.Cell {
	return api.Cell{}
}

func some(val int) api.Cell {
	return api.Cell{Val: val, Some: true}
}

func turn(key int, was, is api.Cell) api.Turn {
	return api.Turn{Key: key, Was: was, Is: is}
}

func turns(l ...api.Turn) []api.Turn {
	return l
}

// sample is the tables of the chapter's examples, and the turns between them.
func sample() (a, b []api.Pair, l []api.Turn) {
	return pairs(1, 5, 4, 2, 7, 1), pairs(1, 6, 7, 1, 9, 7), turns(turn(1, some(5), some(6)), turn(4, some(2), none()), turn(9, none(), some(7)))
}

// full is a table that has all keys, each with one value.
func full(val int) []api.Pair {
	var l []api.Pair
	for key := range api.MaxKey {
		l = append(l, api.Pair{Key: key, Val: val})
	}
	return l
}

func notTables() [][]api.Pair {
	return [][]api.Pair{
		pairs(4, 2, 1, 5), pairs(1, 5, 1, 5), pairs(1, 5, 1, 6), pairs(-1, 5), pairs(4096, 5), pairs(1, api.Absent), pairs(1, -api.MaxVal-1), pairs(1, 5, math.MaxInt, 2), pairs(math.MinInt, 5), pairs(1, math.MinInt),
		append(full(1), api.Pair{Key: 4096}), append(full(1), api.Pair{}),
	}
}

// good are turns that may be.
func good() [][]api.Turn {
	_, _, l := sample()
	return [][]api.Turn{
		nil, {}, l, l[:1], l[1:], l[2:],
		turns(turn(0, none(), some(0))),
		turns(turn(0, some(0), none())),
		turns(turn(4095, none(), some(api.MaxVal))),
		turns(turn(0, some(-api.MaxVal), some(api.MaxVal)), turn(1, some(api.MaxVal), some(-api.MaxVal)), turn(4095, some(0), some(-1))),
		turns(turn(63, some(0), some(64)), turn(127, some(64), some(0)), turn(128, some(0), some(-64)), turn(300, some(-64), none())),
		between(nil, full(1)), between(full(1), full(2)), between(full(2), nil),
	}
}

// bad are turns that may not be.
func bad() [][]api.Turn {
	l := [][]api.Turn{
		turns(turn(1, none(), none())), turns(turn(1, some(5), some(5))), turns(turn(1, some(0), some(0))),
		turns(turn(1, api.Cell{Val: 1}, some(5))), turns(turn(1, some(5), api.Cell{Val: 1})), turns(turn(1, some(5), api.Cell{Val: -1})), turns(turn(1, api.Cell{Val: 5}, some(5))), turns(turn(1, api.Cell{Val: 1}, none())),
		turns(turn(1, none(), some(5)), turn(1, some(5), some(6))), turns(turn(2, none(), some(5)), turn(1, none(), some(5))), turns(turn(0, none(), some(1)), turn(0, none(), some(2))),
		turns(turn(4095, none(), some(5)), turn(4095, some(5), none())), turns(turn(1, none(), some(5)), turn(3, none(), some(5)), turn(2, none(), some(5))),
		turns(turn(1, none(), some(5)), turn(2, none(), none())), append(between(nil, full(1)), turn(4096, none(), some(1))), append(between(nil, full(1)), turn(4095, none(), some(1))),
	}
	for _, key := range []int{-1, 4096, 4097, math.MinInt, math.MaxInt} {
		l = append(l, turns(turn(key, none(), some(1))), turns(turn(7, none(), some(1)), turn(key, none(), some(1))), turns(turn(key, none(), some(1)), turn(7, none(), some(1))))
	}
	for _, val := range []int{api.MaxVal + 1, -api.MaxVal - 1, math.MinInt, math.MaxInt} {
		l = append(l, turns(turn(7, none(), some(val))), turns(turn(7, some(val), none())), turns(turn(7, some(1), some(val))), turns(turn(7, api.Cell{Val: val}, some(1))), turns(turn(7, some(1), api.Cell{Val: val})))
	}
	return l
}

// between is Between of tables.
func between(a, b []api.Pair) []api.Turn {
	l, _ := delta.Between(a, b)
	return l
}

// cells are what every key has; they are what tables and turns are held against.
type cells [api.MaxKey]api.Cell

func cellsOf(l []api.Pair) *cells {
	var c cells
	for _, p := range l {
		c[p.Key] = some(p.Val)
	}
	return &c
}

func (c *cells) table() []api.Pair {
	var l []api.Pair
	for key, x := range c {
		if x.Some {
			l = append(l, api.Pair{Key: key, Val: x.Val})
		}
	}
	return l
}

// dice roll tables and turns, always the same ones.
type dice struct {
	*rand.Rand
}

func roll(seed int64) dice {
	return dice{rand.New(rand.NewSource(seed))}
}

func (d dice) key() int {
	if d.Intn(6) == 0 {
		return api.MaxKey - 1 - d.Intn(3)
	}
	return d.Intn(10)
}

func (d dice) cell() api.Cell {
	switch d.Intn(5) {
	case 0, 1:
		return none()
	case 2:
		return some(d.Intn(2*api.MaxVal+1) - api.MaxVal)
	}
	return some(d.Intn(3))
}

func (d dice) table() []api.Pair {
	var c cells
	for range d.Intn(14) {
		c[d.key()] = d.cell()
	}
	return c.table()
}

// turns are turns that fit a table.
func (d dice) turns(l []api.Pair) []api.Turn {
	c := cellsOf(l)
	for range d.Intn(9) {
		c[d.key()] = d.cell()
	}
	return between(l, c.table())
}

// Promise 23.1: Check.
func TestCheck(t *testing.T) {
	for _, l := range good() {
		if !delta.Check(l) {
			t.Errorf("%v may be", l)
		}
	}
	for _, l := range bad() {
		if delta.Check(l) {
			t.Errorf("%v may not be", l)
		}
	}
}

// Promise 23.1: Between, in so many words.
func TestBetween(t *testing.T) {
	a, b, l := sample()
	for _, x := range []struct {
		a, b []api.Pair
		want []api.Turn
	}{
		{a, b, l},
		{b, a, turns(turn(1, some(6), some(5)), turn(4, none(), some(2)), turn(9, some(7), none()))},
		{pairs(1, 5, 4, 2), pairs(1, 6, 9, 7), l},
		{nil, nil, nil},
		{a, a, nil},
		{nil, pairs(0, 0, 4095, -1), turns(turn(0, none(), some(0)), turn(4095, none(), some(-1)))},
		{pairs(0, 0, 4095, -1), nil, turns(turn(0, some(0), none()), turn(4095, some(-1), none()))},
		{pairs(1, 1, 3, 3), pairs(0, 0, 2, 2, 4, 4), turns(turn(0, none(), some(0)), turn(1, some(1), none()), turn(2, none(), some(2)), turn(3, some(3), none()), turn(4, none(), some(4)))},
		{pairs(5, -api.MaxVal), pairs(5, api.MaxVal), turns(turn(5, some(-api.MaxVal), some(api.MaxVal)))},
	} {
		if got, e := delta.Between(x.a, x.b); e != api.OK || !slices.Equal(got, x.want) {
			t.Errorf("Between(%v, %v): %v, %v", x.a, x.b, got, e)
		}
	}
	if got := between(full(1), full(2)); len(got) != 4096 || got[4095] != turn(4095, some(1), some(2)) {
		t.Errorf("Between of all keys: %d", len(got))
	}
}

// Promise 23.1: Between, Fits and Make of what is no table.
func TestNoTables(t *testing.T) {
	a, _, l := sample()
	for _, bad := range notTables() {
		for _, other := range [][]api.Pair{nil, a, bad} {
			x, e := delta.Between(bad, other)
			y, f := delta.Between(other, bad)
			if e != api.ErrArg || f != api.ErrArg || len(x)+len(y) != 0 {
				t.Errorf("Between %v and %v: %v, %v", bad, other, e, f)
			}
		}
		for _, m := range append(good(), turns(turn(1, none(), none())), l) {
			if out, e := delta.Make(bad, m); e != api.ErrArg || len(out) != 0 || delta.Fits(bad, m) {
				t.Errorf("Make(%v, %v): %v, %v", bad, m, out, e)
			}
		}
	}
}

// Promises 23.1 to 23.4: turns that may not be are refused by all.
func TestNoTurns(t *testing.T) {
	a, _, l := sample()
	for _, m := range bad() {
		out, e := delta.Make(a, m)
		back, f := delta.Back(m)
		if e != api.ErrArg || f != api.ErrArg || len(out)+len(back) != 0 || delta.Fits(a, m) || delta.Fits(nil, m) || delta.Text(m) != "" {
			t.Errorf("%v: %v, %v", m, e, f)
		}
		for _, x := range [][2][]api.Turn{{l, m}, {m, l}, {m, m}, {nil, m}, {m, nil}} {
			then, e := delta.Then(x[0], x[1])
			onto, clash, f := delta.Onto(x[0], x[1])
			if e != api.ErrArg || f != api.ErrArg || len(then)+len(onto)+len(clash) != 0 {
				t.Errorf("%v and %v: %v, %v", x[0], x[1], e, f)
			}
		}
	}
}

// Promise 23.1: Fits, Make.
func TestMake(t *testing.T) {
	a, b, l := sample()
	for _, x := range []struct {
		a    []api.Pair
		l    []api.Turn
		want []api.Pair
		e    api.Errno
	}{
		{a, l, b, api.OK},
		{b, l, nil, api.ErrNone},
		{a, nil, a, api.OK},
		{nil, nil, nil, api.OK},
		{nil, l, nil, api.ErrNone},
		{a, turns(turn(1, some(5), none())), pairs(4, 2, 7, 1), api.OK},
		{a, turns(turn(1, some(4), none())), nil, api.ErrNone},
		{a, turns(turn(1, none(), some(5))), nil, api.ErrNone},
		{a, turns(turn(2, some(5), none())), nil, api.ErrNone},
		{a, turns(turn(2, some(0), none())), nil, api.ErrNone}, // no value is not the value 0
		{pairs(2, 0), turns(turn(2, none(), some(1))), nil, api.ErrNone},
		{a, turns(turn(0, none(), some(0)), turn(4095, none(), some(9))), pairs(0, 0, 1, 5, 4, 2, 7, 1, 4095, 9), api.OK},
		{a, turns(turn(1, some(5), some(6)), turn(9, some(1), some(7))), nil, api.ErrNone}, // all must fit
		{a, turns(turn(1, some(5), none()), turn(4, some(2), none()), turn(7, some(1), none())), nil, api.OK},
	} {
		out, e := delta.Make(x.a, x.l)
		if e != x.e || !slices.Equal(out, x.want) || delta.Fits(x.a, x.l) != (e == api.OK) {
			t.Errorf("Make(%v, %v): %v, %v", x.a, x.l, out, e)
		}
	}
	if out, e := delta.Make(full(1), between(full(1), full(2))); e != api.OK || !slices.Equal(out, full(2)) {
		t.Errorf("Make of all keys: %d, %v", len(out), e)
	}
}

// Promise 23.2: Back.
func TestBack(t *testing.T) {
	a, b, l := sample()
	k, e := delta.Back(l)
	if e != api.OK || !slices.Equal(k, between(b, a)) {
		t.Errorf("Back: %v, %v", k, e)
	}
	for _, l := range good() {
		k, e := delta.Back(l)
		twice, f := delta.Back(k)
		if e != api.OK || f != api.OK || !delta.Check(k) || !slices.Equal(twice, l) {
			t.Errorf("Back(%v): %v, %v, %v", l, k, e, f)
		}
	}
}

// Promise 23.2: Then, in so many words.
func TestThen(t *testing.T) {
	_, _, l := sample()
	for _, x := range []struct {
		l, m, want []api.Turn
		e          api.Errno
	}{
		{l, turns(turn(1, some(6), some(5)), turn(2, none(), some(3)), turn(9, some(7), some(8))), turns(turn(2, none(), some(3)), turn(4, some(2), none()), turn(9, none(), some(8))), api.OK},
		{l, nil, l, api.OK},
		{nil, l, l, api.OK},
		{nil, nil, nil, api.OK},
		{l, turns(turn(1, some(5), some(6))), nil, api.ErrThere},
		{l, turns(turn(4, some(2), some(3))), nil, api.ErrThere},
		{l, turns(turn(4, some(0), some(3))), nil, api.ErrThere}, // no value is not the value 0
		{l, turns(turn(4, none(), some(3))), turns(turn(1, some(5), some(6)), turn(4, some(2), some(3)), turn(9, none(), some(7))), api.OK},
		{l, turns(turn(4, none(), some(2))), turns(turn(1, some(5), some(6)), turn(9, none(), some(7))), api.OK},
		{l, turns(turn(9, some(7), none())), l[:2], api.OK},
		{l, turns(turn(0, none(), some(1)), turn(1, some(6), some(1)), turn(9, some(8), none())), nil, api.ErrThere},
		{l, l, nil, api.ErrThere},
	} {
		if got, e := delta.Then(x.l, x.m); e != x.e || !slices.Equal(got, x.want) {
			t.Errorf("Then(%v, %v): %v, %v", x.l, x.m, got, e)
		}
	}
}

// Promise 23.3: Onto, in so many words.
func TestOnto(t *testing.T) {
	_, _, l := sample()
	for _, x := range []struct {
		l, m, want []api.Turn
		clash      []int
	}{
		{l, turns(turn(1, some(5), some(9)), turn(4, some(2), none()), turn(7, some(1), none())), turns(turn(1, some(6), some(9)), turn(7, some(1), none())), []int{1}},
		{l, l, nil, nil},
		{l, nil, nil, nil},
		{nil, l, l, nil},
		{l, turns(turn(1, some(4), some(6))), nil, []int{1}}, // another Was, the same Is
		{l, turns(turn(1, none(), some(6))), nil, []int{1}},
		{l, turns(turn(1, some(5), none())), turns(turn(1, some(6), none())), []int{1}},
		{l, turns(turn(1, some(6), some(5))), turns(turn(1, some(6), some(5))), []int{1}},
		{l, turns(turn(4, some(2), some(0)), turn(9, none(), some(7))), turns(turn(4, none(), some(0))), []int{4}},
		{l, turns(turn(0, none(), some(1)), turn(1, some(5), some(1)), turn(2, none(), some(2)), turn(4, some(1), some(2)), turn(9, none(), some(1)), turn(4095, none(), some(1))),
			turns(turn(0, none(), some(1)), turn(1, some(6), some(1)), turn(2, none(), some(2)), turn(4, none(), some(2)), turn(9, some(7), some(1)), turn(4095, none(), some(1))), []int{1, 4, 9}},
	} {
		got, clash, e := delta.Onto(x.l, x.m)
		if e != api.OK || !slices.Equal(got, x.want) || !slices.Equal(clash, x.clash) {
			t.Errorf("Onto(%v, %v): %v, %v, %v", x.l, x.m, got, clash, e)
		}
	}
}

// Promises 23.1, 23.2 and 23.5: any tables: Between is made, and Back takes it back; two, one behind the other, are Then.
func TestTurnsAny(t *testing.T) {
	d := roll(231)
	for range 1500 {
		a, b, c := d.table(), d.table(), d.table()
		l, m := between(a, b), between(b, c)
		x, y := cellsOf(a), cellsOf(b)
		for key := range api.MaxKey {
			if at := slices.IndexFunc(l, func(t api.Turn) bool { return t.Key == key }); (at >= 0) != (x[key] != y[key]) || at >= 0 && l[at] != turn(key, x[key], y[key]) {
				t.Fatalf("Between(%v, %v): %v", a, b, l)
			}
		}
		made, e := delta.Make(a, l)
		back, f := delta.Back(l)
		again, g := delta.Make(made, back)
		if e != api.OK || f != api.OK || g != api.OK || !delta.Check(l) || !slices.Equal(made, b) || !slices.Equal(again, a) {
			t.Fatalf("%v, %v: %v, %v, %v", a, b, l, made, again)
		}
		then, e := delta.Then(l, m)
		nothing, f := delta.Then(l, back)
		if e != api.OK || f != api.OK || len(nothing) != 0 || !slices.Equal(then, between(a, c)) {
			t.Fatalf("%v, %v, %v: %v, %v", a, b, c, then, nothing)
		}
	}
}

// Promise 23.2: any turns: Then is refused if a key that both have does not go on from where it is, and only then.
func TestThenAny(t *testing.T) {
	d := roll(232)
	refused := 0
	for range 2000 {
		l, m := d.turns(d.table()), d.turns(d.table())
		want := api.OK
		for _, x := range l {
			for _, y := range m {
				if x.Key == y.Key && x.Is != y.Was {
					want = api.ErrThere
				}
			}
		}
		then, e := delta.Then(l, m)
		if e != want || !delta.Check(then) || e != api.OK && len(then) != 0 {
			t.Fatalf("Then(%v, %v): %v, %v", l, m, then, e)
		}
		if e != api.OK {
			refused++
		}
	}
	if refused < 200 || refused > 1800 {
		t.Errorf("%d were refused", refused)
	}
}

// Promises 23.3 and 23.5: any turns of one table: those onto others follow them; without a clash both orders end alike.
func TestOntoAny(t *testing.T) {
	d := roll(233)
	clashes := 0
	for range 2000 {
		a := d.table()
		l, m := d.turns(a), d.turns(a)
		mOnL, clash, e := delta.Onto(l, m)
		lOnM, clash2, f := delta.Onto(m, l)
		first, _ := delta.Make(a, l)
		second, _ := delta.Make(a, m)
		x, g := delta.Make(first, mOnL)
		y, h := delta.Make(second, lOnM)
		if e != api.OK || f != api.OK || g != api.OK || h != api.OK || !slices.Equal(clash, clash2) {
			t.Fatalf("%v: %v, %v: %v, %v, %v, %v", a, l, m, mOnL, lOnM, clash, clash2)
		}
		if len(clash) == 0 && !slices.Equal(x, y) {
			t.Fatalf("%v: %v, %v: %v, but %v", a, l, m, x, y)
		}
		clashes += len(clash)
		cx, c2 := cellsOf(x), cellsOf(second)
		for _, u := range m { // what m made is as m made it
			if cx[u.Key] != c2[u.Key] {
				t.Fatalf("%v: %v, %v: the key %d", a, l, m, u.Key)
			}
		}
	}
	if clashes < 100 {
		t.Errorf("%d clashes", clashes)
	}
}

// bytesOf is what the bytes of turns would be, whether or not they may be, as far as its numbers have bytes.
func bytesOf(l []api.Turn) string {
	s, next := vint.Num(len(l)), 0
	for _, u := range l {
		s += vint.Num(u.Key - next)
		next = u.Key + 1
		switch {
		case u.Was.Some && u.Is.Some:
			s += "\x03" + vint.Whole(u.Was.Val) + vint.Whole(u.Is.Val-u.Was.Val)
		case u.Is.Some:
			s += "\x02" + vint.Whole(u.Is.Val)
		case u.Was.Some:
			s += "\x01" + vint.Whole(u.Was.Val)
		default:
			s += "\x00"
		}
	}
	return s
}

// Promise 23.4: Text.
func TestText(t *testing.T) {
	_, _, l := sample()
	for _, x := range []struct {
		l    []api.Turn
		want string
	}{
		{l, "\x03\x01\x03\x0a\x02\x02\x01\x04\x04\x02\x0e"},
		{nil, "\x00"},
		{[]api.Turn{}, "\x00"},
		{turns(turn(0, none(), some(0))), "\x01\x00\x02\x00"},
		{turns(turn(0, some(0), none()), turn(1, some(3), some(1)), turn(4095, none(), some(-1))), "\x03\x00\x01\x00\x00\x03\x06\x03\xfd\x1f\x02\x01"},
		{turns(turn(5, some(-api.MaxVal), some(api.MaxVal))), "\x01\x05\x03\xff\xff\xff\xff\xff\x3f\x80\x80\x80\x80\x80\x80\x01"},
	} {
		if s := delta.Text(x.l); s != x.want {
			t.Errorf("Text(%v): %x, not %x", x.l, s, x.want)
		}
	}
	for _, l := range good() {
		if s := delta.Text(l); s != bytesOf(l) {
			t.Errorf("Text(%v): %x", l, s)
		}
	}
}

// reads tells whether Read answers this and nothing else.
func reads(s string, want []api.Turn, e api.Errno) bool {
	l, got := delta.Read(s)
	return got == e && slices.Equal(l, want)
}

// Promises 23.4 and 23.5: Read of what encodes turns, cut off anywhere, and with bytes behind it: all is ErrForm.
func TestRead(t *testing.T) {
	for _, l := range good() {
		s := delta.Text(l)
		if !reads(s, l, api.OK) {
			t.Errorf("Read(%x)", s)
		}
		for n := range min(len(s), 50) {
			if !reads(s[:n], nil, api.ErrForm) || !reads(s[:len(s)-1-n], nil, api.ErrForm) {
				t.Errorf("Read(%x), of %x", s[:n], s)
			}
		}
		for _, behind := range []string{"\x00", "\x80", s} {
			if !reads(s+behind, nil, api.ErrForm) {
				t.Errorf("Read(%x)", s+behind)
			}
		}
	}
}

// Promise 23.4: the bytes of turns that may not be, and of nothing.
func TestReadBad(t *testing.T) {
	for _, l := range bad() {
		if slices.ContainsFunc(l, func(u api.Turn) bool { return !u.Was.Some && u.Was.Val != 0 || !u.Is.Some && u.Is.Val != 0 }) {
			continue // such a value is not in the bytes
		}
		if s := bytesOf(l); !reads(s, nil, api.ErrForm) {
			t.Errorf("Read of the bytes of %v", l)
		}
	}
	nine := strings.Repeat("\xff", 9)
	for _, s := range []string{
		"", "\x01", "\x01\x01", "\x01\x01\x00", "\x01\x01\x00\x00", "\x01\x01\x03\x0a\x00", "\x01\x01\x01", "\x01\x01\x04", "\x01\x01\x04\x00", "\x01\x01\x05\x00", "\x01\x01\x07\x00\x02", "\x00\x00", "\x02\x01\x01\x04", "\x80\x00",
		"\x01\x80\x20\x02\x00",                                                 // the key MaxKey
		"\x02\xff\x1f\x02\x00\x00\x02",                                         // and behind the last one
		"\x01\x81\x00\x02\x00", "\x01\x01\x82\x00\x00", "\x01\x01\x02\x80\x00", // more bytes than necessary
		"\xff\xff\xff\xff\xff\xff\xff\xff\x7f", "\xff\xff\xff\xff\xff\xff\xff\xff\x7f\x00\x02\x00", // 2^63 - 1 turns
		"\x01\xff\xff\xff\xff\xff\xff\xff\xff\x7f\x02\x00",                                         // the key 2^63 - 1
		"\x02\x05\x02\x00\xff\xff\xff\xff\xff\xff\xff\xff\x7f\x02\x00",                             // a key that would wrap round
		"\x01\x05\x03\xff\xff\xff\xff\xff\xff\xff\xff\x7f\xff\xff\xff\xff\xff\xff\xff\xff\x7f",     // -2^62 and 2^62 less
		"\x01\x05\x03\xfe\xff\xff\xff\xff\xff\xff\xff\x7f\xfd\xff\xff\xff\xff\xff\xff\xff\x7f\x00", // Was is too great, Is would not be
		"\x01\x05\x03\xfe\xff\xff\xff\xff\xff\xff\xff\x7f\xfd\xff\xff\xff\xff\xff\xff\xff\x7f",
		"\x01\x05\xff\xff\xff\xff\xff\xff\xff\xff\x7f\x00", "\x01\x05\x02\x82\x80\x80\x80\x80\x40", "\x01\x05\x01\x82\x80\x80\x80\x80\x40",
		"\x01\x05\x03\x80\x80\x80\x80\x80\x40\x02", // one more than MaxVal
		nine, nine + "\x01", "\x01" + nine + "\x01\x02\x00",
	} {
		if !reads(s, nil, api.ErrForm) {
			t.Errorf("Read(%x)", s)
		}
	}
}

// readsBack tells whether any bytes are refused by ErrForm with nothing beside it, or are the bytes of what was read.
func readsBack(s string) bool {
	l, e := delta.Read(s)
	if e != api.OK {
		return len(l) == 0 && e == api.ErrForm
	}
	return delta.Check(l) && delta.Text(l) == s
}

// Promise 23.5: all turns have one encoding: of the samples with one byte changed, left out or put in; and of any.
func TestReadsBack(t *testing.T) {
	for _, l := range good() {
		s := delta.Text(l)
		if len(l) > 100 {
			continue // the others say as much, and sooner
		}
		for i := range s {
			for b := range 256 {
				one := string([]byte{byte(b)})
				if !readsBack(s[:i]+one+s[i+1:]) || !readsBack(s[:i]+one+s[i:]) || !readsBack(s[:i]+s[i+1:]) {
					t.Fatalf("%x is read, and written otherwise, with %d for a byte", s, b)
				}
			}
		}
	}
	d := roll(235)
	seen := map[string][]api.Turn{}
	for range 4000 {
		l := d.turns(d.table())
		s := delta.Text(l)
		if other, there := seen[s]; !reads(s, l, api.OK) || there && !slices.Equal(other, l) {
			t.Fatalf("%v: %x", l, s)
		}
		seen[s] = l
	}
}

// room is a list with others behind its end, which nobody may touch.
func room[T any](l []T) []T {
	return append(append(slices.Clone(l), l...), l...)[:len(l)]
}

func whole[T any](l []T) []T {
	return slices.Clone(l[:cap(l)])
}

// R3: what is handed in is not changed, nor what stands behind it; what is answered shares nothing with it, nor with another answer.
func TestNothingShared(t *testing.T) {
	a, b, l := sample()
	a, b, l = room(a), room(b), room(l)
	m := room(turns(turn(1, some(6), some(5)), turn(2, none(), some(3))))
	wasA, wasB, wasL, wasM := whole(a), whole(b), whole(l), whole(m)
	for i, call := range []func() []api.Turn{
		func() []api.Turn { return between(a, b) },
		func() []api.Turn { return first(delta.Back(l)) },
		func() []api.Turn { return first(delta.Then(l, m)) },
		func() []api.Turn { return first(delta.Then(l, nil)) },
		func() []api.Turn { return first(delta.Then(nil, l)) },
		func() []api.Turn { got, _, _ := delta.Onto(l, m); return got },
		func() []api.Turn { got, _, _ := delta.Onto(nil, m); return got },
		func() []api.Turn { return first(delta.Read(delta.Text(l))) },
	} {
		got := call()
		kept := slices.Clone(got)
		again := call()
		for i := range got {
			got[i] = turn(-1, none(), none())
		}
		_ = append(got, turn(-1, none(), none()))
		if len(kept) == 0 || !slices.Equal(again, kept) || !slices.Equal(call(), kept) {
			t.Errorf("call %d: %v, not %v", i, again, kept)
		}
	}
	for _, m := range [][]api.Turn{l, nil} {
		got, e := delta.Make(a, m)
		kept := slices.Clone(got)
		clear(got)
		if again, _ := delta.Make(a, m); e != api.OK || len(kept) == 0 || !slices.Equal(again, kept) {
			t.Errorf("Make: %v", again)
		}
	}
	delta.Fits(a, l)
	delta.Check(l)
	if !slices.Equal(whole(a), wasA) || !slices.Equal(whole(b), wasB) || !slices.Equal(whole(l), wasL) || !slices.Equal(whole(m), wasM) {
		t.Errorf("changed: %v, %v, %v, %v", whole(a), whole(b), whole(l), whole(m))
	}
}

func first[T, E any](l []T, _ E) []T {
	return l
}

// Promises 23.4, 23.5 and R1: any bytes are refused or are the bytes of what was read.
func FuzzRead(f *testing.F) {
	for _, l := range good()[:11] {
		f.Add([]byte(delta.Text(l)))
	}
	f.Fuzz(func(t *testing.T, b []byte) {
		if !readsBack(string(b)) {
			t.Errorf("%x is read, and written otherwise", b)
		}
	})
}

// Promises 23.1 to 23.5 and R1: arguments of any numbers make no call panic; what is made of what may be may be.
func FuzzTurns(f *testing.F) {
	f.Add(1, 5, 4, 2, 1, 6, 9, 7, byte(255))
	f.Add(0, 5, 4095, 2, 0, 5, 4095, 0, byte(0x5a))
	f.Fuzz(func(t *testing.T, k1, v1, k2, v2, k3, v3, k4, v4 int, flags byte) {
		flag := func(n int) bool { return flags>>n&1 == 1 }
		a, b := pairs(k1, v1, k2, v2), pairs(k3, v3, k4, v4)
		l := turns(turn(k1, api.Cell{Val: v1, Some: flag(0)}, api.Cell{Val: v3, Some: flag(1)}), turn(k2, api.Cell{Val: v2, Some: flag(2)}, api.Cell{Val: v4, Some: flag(3)}))
		m := turns(turn(k3, api.Cell{Val: v3, Some: flag(4)}, api.Cell{Val: v1, Some: flag(5)}), turn(k4, api.Cell{Val: v4, Some: flag(6)}, api.Cell{Val: v2, Some: flag(7)}))
		x, e := delta.Between(a, b)
		made, f := delta.Make(a, x)
		if both := table.Check(a) && table.Check(b); both != (e == api.OK) || both && (f != api.OK || !slices.Equal(made, b)) {
			t.Errorf("Between(%v, %v): %v, %v, %v", a, b, x, e, f)
		}
		y, e := delta.Then(l, m)
		z, _, g := delta.Onto(l, m)
		if both := delta.Check(l) && delta.Check(m); both != (g == api.OK) || e == api.OK && !both || !delta.Check(y) || !delta.Check(z) {
			t.Errorf("%v, %v: %v, %v, %v, %v", l, m, y, e, z, g)
		}
		for _, l := range [][]api.Turn{l, m, x, y, z} {
			if s := delta.Text(l); delta.Check(l) != reads(s, l, api.OK) {
				t.Errorf("Text(%v): %x", l, s)
			}
		}
		delta.Make(a, l)
		delta.Back(l)
	})
}
