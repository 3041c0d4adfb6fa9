package vint_test

import (
	"bytes"
	"math"
	"slices"
	"strings"
	"testing"

	"splice/api"
	"splice/vint"
)

const (
	ones8 = "\xff\xff\xff\xff\xff\xff\xff\xff"     // 8 bytes of a number, with more behind them
	ones9 = "\xff\xff\xff\xff\xff\xff\xff\xff\xff" // 9 bytes
)

// numbers are numbers around every place where one more byte or bit is needed.
func numbers() []int {
	l := []int{0}
	for bit := range 63 {
		p := 1 << bit
		l = append(l, p-1, p, p+1, p|p>>1, p|p>>3)
	}
	l = append(l, 300, math.MaxInt-1, math.MaxInt)
	slices.Sort(l)
	return slices.Compact(l)
}

// wholes are whole numbers around every place where one more byte or bit is needed.
func wholes() []int {
	var l []int
	for _, n := range numbers() {
		if n <= vint.MaxWhole {
			l = append(l, n, -n-1)
		}
	}
	return l
}

// byDivision is the encoding as the chapter tells it, by divisions alone.
func byDivision(n uint64) string {
	var b []byte
	for {
		low := byte(n % 128)
		n /= 128
		if n == 0 {
			return string(append(b, low))
		}
		b = append(b, low+128)
	}
}

// Promise 1.1: Num.
func TestNumBytes(t *testing.T) {
	for _, x := range []struct {
		n    int
		want string
	}{
		{0, "\x00"}, {1, "\x01"}, {127, "\x7f"}, {128, "\x80\x01"}, {300, "\xac\x02"},
		{16383, "\xff\x7f"}, {16384, "\x80\x80\x01"},
		{1<<56 - 1, "\xff\xff\xff\xff\xff\xff\xff\x7f"}, {1 << 56, "\x80\x80\x80\x80\x80\x80\x80\x80\x01"},
		{1 << 62, "\x80\x80\x80\x80\x80\x80\x80\x80\x40"},
		{math.MaxInt, ones8 + "\x7f"},
		{-1, ""}, {-128, ""}, {math.MinInt, ""},
	} {
		if s := vint.Num(x.n); s != x.want {
			t.Errorf("Num(%d): %x, not %x", x.n, s, x.want)
		}
	}
	for _, n := range numbers() {
		if s, want := vint.Num(n), byDivision(uint64(n)); s != want {
			t.Errorf("Num(%d): %x, not %x", n, s, want)
		}
	}
}

// Promise 1.1: Whole.
func TestWholeBytes(t *testing.T) {
	for _, x := range []struct {
		z    int
		want string
	}{
		{0, "\x00"}, {-1, "\x01"}, {1, "\x02"}, {-2, "\x03"}, {63, "\x7e"}, {-64, "\x7f"}, {64, "\x80\x01"}, {-65, "\x81\x01"},
		{1<<62 - 1, "\xfe\xff\xff\xff\xff\xff\xff\xff\x7f"}, {-1 << 62, ones8 + "\x7f"},
		{1 << 62, ""}, {-1<<62 - 1, ""}, {math.MaxInt, ""}, {math.MinInt, ""},
	} {
		if s := vint.Whole(x.z); s != x.want {
			t.Errorf("Whole(%d): %x, not %x", x.z, s, x.want)
		}
	}
	for _, z := range wholes() {
		n := uint64(z) << 1
		if z < 0 {
			n = ^n
		}
		if s, want := vint.Whole(z), byDivision(n); s != want {
			t.Errorf("Whole(%d): %x, not %x", z, s, want)
		}
	}
	if vint.MaxWhole != 4611686018427387903 {
		t.Errorf("MaxWhole: %d", vint.MaxWhole)
	}
}

// Promise 1.1: Flag and Text.
func TestFlagAndTextBytes(t *testing.T) {
	if s := vint.Flag(true); s != "\x01" {
		t.Errorf("Flag(true): %x", s)
	}
	if s := vint.Flag(false); s != "\x00" {
		t.Errorf("Flag(false): %x", s)
	}
	long := strings.Repeat("\x80", 300)
	for text, want := range map[string]string{
		"":                      "\x00",
		"ab":                    "\x02ab",
		"\x00\xff\x80":          "\x03\x00\xff\x80",
		long[:127]:              "\x7f" + long[:127],
		long[:128]:              "\x80\x01" + long[:128],
		long:                    "\xac\x02" + long,
		"\u00e4\u20ac":          "\x05\xc3\xa4\xe2\x82\xac",
		strings.Repeat("x", 20): "\x14" + strings.Repeat("x", 20),
	} {
		if s := vint.Text(text); s != want {
			t.Errorf("Text(%q): %x", text, s)
		}
	}
}

// Promise 1.1: List.
func TestListBytes(t *testing.T) {
	for _, x := range []struct {
		l    []int
		want string
	}{
		{nil, "\x00"},
		{[]int{}, "\x00"},
		{[]int{0}, "\x01\x00"},
		{[]int{1, -1}, "\x02\x02\x01"},
		{[]int{64, -65, 0}, "\x03\x80\x01\x81\x01\x00"},
		{[]int{-1 << 62, vint.MaxWhole}, "\x02" + ones8 + "\x7f\xfe" + ones8[1:] + "\x7f"},
		{[]int{1 << 62}, ""},
		{[]int{1, 2, 1 << 62}, ""},
		{[]int{-1<<62 - 1, 1, 2}, ""},
		{[]int{1, math.MinInt, 2}, ""},
		{make([]int, 128), "\x80\x01" + strings.Repeat("\x00", 128)},
	} {
		before := slices.Clone(x.l)
		if s := vint.List(x.l); s != x.want {
			t.Errorf("List(%v): %x, not %x", x.l, s, x.want)
		}
		if !slices.Equal(before, x.l) {
			t.Errorf("List changed %v to %v", before, x.l)
		}
	}
}

// Promise 1.2: From stands at the front, and every reading goes on behind the one ahead of it.
func TestReadInOrder(t *testing.T) {
	r := vint.From("\xac\x02\x01\x01\x02ab\x02\x02\x01z")
	if r.Err() != api.OK || r.Left() != "\xac\x02\x01\x01\x02ab\x02\x02\x01z" {
		t.Fatalf("at the front: %v, %x", r.Err(), r.Left())
	}
	if n := r.Num(); n != 300 || r.Left() != "\x01\x01\x02ab\x02\x02\x01z" {
		t.Errorf("Num: %d, %x", n, r.Left())
	}
	if z := r.Whole(); z != -1 || r.Left() != "\x01\x02ab\x02\x02\x01z" {
		t.Errorf("Whole: %d, %x", z, r.Left())
	}
	if b := r.Flag(); !b || r.Left() != "\x02ab\x02\x02\x01z" {
		t.Errorf("Flag: %v, %x", b, r.Left())
	}
	if s := r.Text(2); s != "ab" || r.Left() != "\x02\x02\x01z" {
		t.Errorf("Text: %q, %x", s, r.Left())
	}
	if l := r.List(2); !slices.Equal(l, []int{1, -1}) || r.Left() != "z" {
		t.Errorf("List: %v, %x", l, r.Left())
	}
	if r.Err() != api.OK || r.End() != api.ErrLong || r.Left() != "z" {
		t.Errorf("end: %v, %v, %x", r.Err(), r.End(), r.Left())
	}
}

// numErrs are bytes that no number stands at the front of.
func numErrs() map[string]api.Errno {
	l := map[string]api.Errno{
		"": api.ErrShort, "\x80": api.ErrShort, "\xff\xff": api.ErrShort, ones8: api.ErrShort, ones9: api.ErrShort,
		"\x80\x00": api.ErrForm, "\x80\x00\x01": api.ErrForm, "\xff\x80\x00": api.ErrForm, "\x80\x80\x80\x80\x80\x80\x80\x80\x00": api.ErrForm,
		ones9 + "\xff\xff\x01": api.ErrForm, "\x80\x80\x80\x80\x80\x80\x80\x80\x80\x01": api.ErrForm,
	}
	for b := range 256 {
		l[ones9+string([]byte{byte(b)})] = api.ErrForm
		l[strings.Repeat("\x80", 9)+string([]byte{byte(b)})+"x"] = api.ErrForm
	}
	return l
}

// Promise 1.2: the errors of Num, of Whole, and of the lengths of texts and lists.
func TestReadNumErrors(t *testing.T) {
	for s, want := range numErrs() {
		r := vint.From(s)
		if n := r.Num(); n != 0 || r.Err() != want || r.Left() != "" || r.End() != want {
			t.Errorf("Num of %x: %d, %v, not %v", s, n, r.Err(), want)
		}
		r = vint.From(s)
		if z := r.Whole(); z != 0 || r.Err() != want || r.Left() != "" {
			t.Errorf("Whole of %x: %d, %v, not %v", s, z, r.Err(), want)
		}
		for _, most := range []int{-1, 0, math.MaxInt} {
			r = vint.From(s)
			if x := r.Text(most); x != "" || r.Err() != want || r.Left() != "" {
				t.Errorf("Text(%d) of %x: %q, %v, not %v", most, s, x, r.Err(), want)
			}
			r = vint.From(s)
			if l := r.List(most); len(l) != 0 || r.Err() != want || r.Left() != "" {
				t.Errorf("List(%d) of %x: %v, %v, not %v", most, s, l, r.Err(), want)
			}
		}
	}
}

// Promise 1.2: Num reads all the numbers there are, the greatest one too.
func TestReadNum(t *testing.T) {
	for s, want := range map[string]int{
		"\x00": 0, "\x7f": 127, "\x80\x01": 128, "\xac\x02": 300, "\x80\x80\x01": 16384,
		ones8 + "\x7f": math.MaxInt, "\x80\x80\x80\x80\x80\x80\x80\x80\x01": 1 << 56,
	} {
		for _, behind := range []string{"", "\x00", "\xff", ones9} {
			r := vint.From(s + behind)
			if n := r.Num(); n != want || r.Err() != api.OK || r.Left() != behind {
				t.Errorf("Num of %x: %d, %v, %x", s+behind, n, r.Err(), r.Left())
			}
		}
	}
	r := vint.From(ones8 + "\x7f\xfe" + ones8[1:] + "\x7f")
	if a, b := r.Whole(), r.Whole(); a != -1<<62 || b != vint.MaxWhole || r.End() != api.OK {
		t.Errorf("the limits: %d, %d, %v", a, b, r.End())
	}
}

// Promise 1.2: Flag.
func TestReadFlag(t *testing.T) {
	r := vint.From("")
	if b := r.Flag(); b || r.Err() != api.ErrShort {
		t.Errorf("Flag of nothing: %v, %v", b, r.Err())
	}
	for x := range 256 {
		r := vint.From(string([]byte{byte(x), 'z'}))
		b := r.Flag()
		switch {
		case x > 1:
			if b || r.Err() != api.ErrForm || r.Left() != "" {
				t.Errorf("Flag of %x: %v, %v", x, b, r.Err())
			}
		case b != (x == 1) || r.Err() != api.OK || r.Left() != "z":
			t.Errorf("Flag of %x: %v, %v", x, b, r.Err())
		}
	}
}

// Promise 1.2: Text, with its limit.
func TestReadText(t *testing.T) {
	for _, x := range []struct {
		s    string
		most int
		text string
		left string
		e    api.Errno
	}{
		{"\x02ab", 2, "ab", "", api.OK},
		{"\x02abc", 3, "ab", "c", api.OK},
		{"\x02abc", math.MaxInt, "ab", "c", api.OK},
		{"\x00", 0, "", "", api.OK},
		{"\x00z", 0, "", "z", api.OK},
		{"\x02\xff\x00", 2, "\xff\x00", "", api.OK},
		{"\x00", -1, "", "", api.ErrLong},
		{"\x02ab", -1, "", "", api.ErrLong},
		{"\x02ab", math.MinInt, "", "", api.ErrLong},
		{"\x02ab", 1, "", "", api.ErrLong},
		{"\x05ab", 4, "", "", api.ErrLong},
		{"\x05ab", 5, "", "", api.ErrShort},
		{"\x05abcd", 5, "", "", api.ErrShort},
		{"\x05", 5, "", "", api.ErrShort},
		{ones8 + "\x7fab", math.MaxInt, "", "", api.ErrShort},
		{ones8 + "\x7fab", math.MaxInt - 1, "", "", api.ErrLong},
		{"\x80\x00ab", 5, "", "", api.ErrForm},
	} {
		r := vint.From(x.s)
		if s := r.Text(x.most); s != x.text || r.Left() != x.left || r.Err() != x.e {
			t.Errorf("Text(%d) of %x: %q, %q, %v", x.most, x.s, s, r.Left(), r.Err())
		}
	}
}

// Promise 1.2: List, with its limit and the errors of its elements in order.
func TestReadList(t *testing.T) {
	for _, x := range []struct {
		s    string
		most int
		l    []int
		left string
		e    api.Errno
	}{
		{"\x02\x02\x01", 2, []int{1, -1}, "", api.OK},
		{"\x02\x02\x01z", math.MaxInt, []int{1, -1}, "z", api.OK},
		{"\x00", 0, nil, "", api.OK},
		{"\x00z", 0, nil, "z", api.OK},
		{"\x01" + ones8 + "\x7f", 1, []int{-1 << 62}, "", api.OK},
		{"\x00", -1, nil, "", api.ErrLong},
		{"\x02\x02\x01", -1, nil, "", api.ErrLong},
		{"\x02\x02\x01", math.MinInt, nil, "", api.ErrLong},
		{"\x02\x02\x01", 1, nil, "", api.ErrLong},
		{"\x02\x80\x00\x01", 1, nil, "", api.ErrLong},
		{"\x03\x02\x01", 3, nil, "", api.ErrShort},
		{"\x01", 1, nil, "", api.ErrShort},
		{"\x02\x02\x80", 2, nil, "", api.ErrShort},
		{"\x02\x80\x00\x01", 2, nil, "", api.ErrForm},
		{"\x03\x02\x80\x00", 3, nil, "", api.ErrForm},
		{"\x02\x01" + ones9 + "\x01", 2, nil, "", api.ErrForm},
		{ones8 + "\x7f\x02", math.MaxInt, nil, "", api.ErrShort},
		{ones8 + "\x7f\x02\x80\x00", math.MaxInt, nil, "", api.ErrForm},
		{ones8 + "\x7f\x02", math.MaxInt - 1, nil, "", api.ErrLong},
	} {
		r := vint.From(x.s)
		if l := r.List(x.most); !slices.Equal(l, x.l) || r.Left() != x.left || r.Err() != x.e {
			t.Errorf("List(%d) of %x: %v, %q, %v", x.most, x.s, l, r.Left(), r.Err())
		}
	}
}

// R3: two lists that were read share nothing.
func TestReadListIsNew(t *testing.T) {
	r := vint.From("\x02\x02\x01\x02\x02\x01")
	a := r.List(2)
	b := r.List(2)
	a[0] = 7
	a = append(a[:1], 8, 9, 10)
	if !slices.Equal(b, []int{1, -1}) || len(a) != 4 {
		t.Errorf("lists share memory: %v, %v", a, b)
	}
}

// readsNothing tells whether every reading of a reader gives a zero value and leaves the error as it is.
func readsNothing(r *vint.Reader, e api.Errno) bool {
	for range 2 {
		if r.Num() != 0 || r.Whole() != 0 || r.Flag() || r.Text(math.MaxInt) != "" || len(r.List(math.MaxInt)) != 0 {
			return false
		}
		if r.Text(-1) != "" || len(r.List(-1)) != 0 { // would be ErrLong if it read anything
			return false
		}
		if r.Err() != e || r.End() != e || r.Left() != "" {
			return false
		}
	}
	return true
}

// Promises 1.2 and 1.3: behind the first error nothing is read, though bytes that could be read stand there.
func TestFirstErrorStays(t *testing.T) {
	good := "\x01\x01\x01\x01\x01\x01"
	for s, x := range map[string]struct {
		read func(r *vint.Reader)
		e    api.Errno
	}{
		"\x80\x00" + good: {func(r *vint.Reader) { r.Num() }, api.ErrForm},
		ones9 + good:      {func(r *vint.Reader) { r.Whole() }, api.ErrForm},
		"\x02" + good:     {func(r *vint.Reader) { r.Flag() }, api.ErrForm},
		"\x03" + good:     {func(r *vint.Reader) { r.Text(2) }, api.ErrLong},
		"\x7f" + good:     {func(r *vint.Reader) { r.Text(127) }, api.ErrShort},
		"\x04" + good:     {func(r *vint.Reader) { r.List(3) }, api.ErrLong},
		"\x40" + good:     {func(r *vint.Reader) { r.List(64) }, api.ErrShort},
		"":                {func(r *vint.Reader) { r.Flag() }, api.ErrShort},
	} {
		r := vint.From(s)
		x.read(r)
		if !readsNothing(r, x.e) {
			t.Errorf("behind the error of %x: %v, %x, not %v", s, r.Err(), r.Left(), x.e)
		}
	}
}

// Promise 1.3: a nil reader.
func TestNilReader(t *testing.T) {
	var r *vint.Reader
	if r.Err() != api.ErrShort || r.End() != api.ErrShort || r.Left() != "" || !readsNothing(r, api.ErrShort) {
		t.Errorf("nil: %v, %v, %q", r.Err(), r.End(), r.Left())
	}
}

// Promise 1.3: Left, Err and End, ahead of all, behind all, and behind an error.
func TestEnds(t *testing.T) {
	r := vint.From("")
	if r.Err() != api.OK || r.End() != api.OK || r.Left() != "" {
		t.Errorf("nothing: %v, %v, %q", r.Err(), r.End(), r.Left())
	}
	r = vint.From("\x05z")
	if r.End() != api.ErrLong || r.Err() != api.OK || r.Left() != "\x05z" { // End is no error of the reader's
		t.Errorf("all is left: %v, %v, %q", r.End(), r.Err(), r.Left())
	}
	if r.Num() != 5 || r.End() != api.ErrLong || r.Left() != "z" {
		t.Errorf("a byte is left: %v, %q", r.End(), r.Left())
	}
	if r.Num() != 'z' || r.End() != api.OK || r.Err() != api.OK || r.Left() != "" {
		t.Errorf("nothing is left: %v, %v, %q", r.End(), r.Err(), r.Left())
	}
	if r.Num() != 0 || r.End() != api.ErrShort || r.Err() != api.ErrShort {
		t.Errorf("behind the end: %v, %v", r.End(), r.Err())
	}
}

// Two readers of the same bytes stand on their own.
func TestReadersApart(t *testing.T) {
	s := "\x05\x06"
	a, b := vint.From(s), vint.From(s)
	if a.Num() != 5 || b.Num() != 5 || a.Num() != 6 || b.Left() != "\x06" {
		t.Errorf("readers: %q, %q", a.Left(), b.Left())
	}
}

// Promise 1.4: what was encoded is read back, whatever stands behind it.
func TestThereAndBack(t *testing.T) {
	for _, behind := range []string{"", "\x00", "\x01", "\x80", "\xff", "ab", ones9} {
		for _, n := range numbers() {
			r := vint.From(vint.Num(n) + behind)
			if x := r.Num(); x != n || r.Err() != api.OK || r.Left() != behind {
				t.Errorf("Num %d, %x: %d, %v", n, behind, x, r.Err())
			}
		}
		for _, z := range wholes() {
			r := vint.From(vint.Whole(z) + behind)
			if x := r.Whole(); x != z || r.Err() != api.OK || r.Left() != behind {
				t.Errorf("Whole %d, %x: %d, %v", z, behind, x, r.Err())
			}
		}
		for _, b := range []bool{false, true} {
			r := vint.From(vint.Flag(b) + behind)
			if x := r.Flag(); x != b || r.Err() != api.OK || r.Left() != behind {
				t.Errorf("Flag %v, %x: %v, %v", b, behind, x, r.Err())
			}
		}
		for _, n := range []int{0, 1, 2, 127, 128, 129, 16383, 16384} {
			s := strings.Repeat("\x00\xffb", n)[:n]
			r := vint.From(vint.Text(s) + behind)
			if x := r.Text(n); x != s || r.Err() != api.OK || r.Left() != behind {
				t.Errorf("Text of %d bytes, %x: %v", n, behind, r.Err())
			}
		}
		for n := range len(wholes()) {
			l := wholes()[:n]
			r := vint.From(vint.List(l) + behind)
			if x := r.List(n); !slices.Equal(x, l) || r.Err() != api.OK || r.Left() != behind {
				t.Errorf("List %v, %x: %v, %v", l, behind, x, r.Err())
			}
		}
	}
}

// sameBack tells whether encoding what was read makes the bytes that were read; it is true where nothing was read.
func sameBack(s string) bool {
	for _, again := range []func(r *vint.Reader) string{
		func(r *vint.Reader) string { return vint.Num(r.Num()) },
		func(r *vint.Reader) string { return vint.Whole(r.Whole()) },
		func(r *vint.Reader) string { return vint.Flag(r.Flag()) },
		func(r *vint.Reader) string { return vint.Text(r.Text(math.MaxInt)) },
		func(r *vint.Reader) string { return vint.List(r.List(math.MaxInt)) },
	} {
		r := vint.From(s)
		if made := again(r); r.Err() == api.OK && made+r.Left() != s {
			return false
		}
	}
	return true
}

// Promise 1.4: a value has one encoding only: of all bytes up to three, and of bytes around the longest numbers.
func TestOneEncoding(t *testing.T) {
	for x := range 1 << 16 {
		for _, s := range []string{string([]byte{byte(x)}), string([]byte{byte(x), byte(x >> 8)}), string([]byte{byte(x) | 1, byte(x >> 8), 0x80}), string([]byte{byte(x), byte(x >> 8), 1})} {
			if !sameBack(s) {
				t.Fatalf("%x is read, and written otherwise", s)
			}
		}
	}
	for x := range 1 << 16 {
		if s := ones8[:7] + string([]byte{byte(x), byte(x >> 8), 1}); !sameBack(s) {
			t.Fatalf("%x is read, and written otherwise", s)
		}
	}
}

// Promise 1.4: a smaller number has no more bytes than a greater one.
func TestSmallerIsShorter(t *testing.T) {
	before := 1
	for _, n := range numbers() {
		size := len(vint.Num(n))
		if size < before || size > 9 {
			t.Errorf("Num(%d) has %d bytes, a smaller one %d", n, size, before)
		}
		before = size
	}
}

// Promises 1.2 to 1.4 and R1: any bytes are read without a panic, in any order of readings.
func FuzzReader(f *testing.F) {
	f.Add([]byte("\xac\x02\x01\x01\x02ab\x02\x02\x01z"), 2)
	f.Add([]byte(ones9+"\x01"), -1)
	f.Add([]byte(ones8+"\x7f\x02\x80\x00"), math.MaxInt)
	f.Fuzz(func(t *testing.T, b []byte, most int) {
		kept := bytes.Clone(b)
		s := string(b)
		if !sameBack(s) {
			t.Errorf("%x is read, and written otherwise", s)
		}
		r := vint.From(s)
		for i := 0; r.Err() == api.OK; i++ {
			left := r.Left()
			switch i % 5 {
			case 0:
				r.Num()
			case 1:
				r.Whole()
			case 2:
				r.Flag()
			case 3:
				if len(r.Text(most)) > max(most, 0) {
					t.Errorf("Text(%d) of %x is too long", most, left)
				}
			case 4:
				if len(r.List(most)) > max(most, 0) {
					t.Errorf("List(%d) of %x is too long", most, left)
				}
			}
			if len(r.Left()) >= len(left) || !strings.HasSuffix(left, r.Left()) {
				if r.Err() == api.OK {
					t.Errorf("%x is left of %x", r.Left(), left)
				}
			}
		}
		if e := r.Err(); !readsNothing(r, e) || !bytes.Equal(b, kept) {
			t.Errorf("behind the error: %v", r.Err())
		}
	})
}
