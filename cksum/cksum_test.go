package cksum_test

import (
	"hash/crc32"
	"slices"
	"strings"
	"testing"

	"splice/api"
	"splice/cksum"
	"splice/vint"
)

// frame is the frame of a body that has one.
func frame(t *testing.T, body string) string {
	t.Helper()
	f, e := cksum.Frame(body)
	if e != api.OK {
		t.Fatalf("Frame of %d bytes: %v", len(body), e)
	}
	return f
}

// signed is a text with its sum behind it, whether or not that is a frame.
func signed(text string) string {
	c := crc32.ChecksumIEEE([]byte(text))
	return text + string([]byte{byte(c), byte(c >> 8), byte(c >> 16), byte(c >> 24)})
}

// pattern is n bytes of which neighbours differ.
func pattern(n int) string {
	b := make([]byte, n)
	for i := range b {
		b[i] = byte(i*i + i>>3)
	}
	return string(b)
}

// flip inverts the bits of s, from the bit-th on, where those of mask are 1.
func flip(s string, bit int, mask uint32) string {
	b := []byte(s)
	for i := range 32 {
		if mask>>i&1 == 1 {
			b[(bit+i)/8] ^= 1 << ((bit + i) % 8)
		}
	}
	return string(b)
}

// Promise 2.1: Sum.
func TestSum(t *testing.T) {
	for s, want := range map[string]uint32{
		"": 0, "123456789": 0xcbf43926, "a": 0xe8b7be43, "abc": 0x352441c2,
		"\x00": 0xd202ef8d, "\xff": 0xff000000, "\x00\x00\x00\x00": 0x2144df1c, "\xff\xff\xff\xff": 0xffffffff,
		"The quick brown fox jumps over the lazy dog": 0x414fa339,
	} {
		if c := cksum.Sum(s); c != want {
			t.Errorf("Sum(%q): %x, not %x", s, c, want)
		}
	}
	for n := range 600 {
		if c, want := cksum.Sum(pattern(n)), crc32.ChecksumIEEE([]byte(pattern(n))); c != want {
			t.Errorf("Sum of %d bytes: %x, not %x", n, c, want)
		}
	}
}

// Promise 2.1: Frame.
func TestFrame(t *testing.T) {
	for body, want := range map[string]string{
		"":          "\x00\x8d\xef\x02\xd2",
		"ab":        signed("\x02ab"),
		"123456789": signed("\x09123456789"),
		"\x00\xff":  signed("\x02\x00\xff"),
	} {
		if f := frame(t, body); f != want {
			t.Errorf("Frame(%q): %x, not %x", body, f, want)
		}
	}
	for _, n := range []int{127, 128, 16383, 16384} {
		if f, want := frame(t, pattern(n)), signed(vint.Text(pattern(n))); f != want {
			t.Errorf("Frame of %d bytes: %x..", n, f[:8])
		}
	}
}

// Promises 2.1 and 2.2: the longest body, and one byte more.
func TestMaxBody(t *testing.T) {
	if cksum.MaxBody != 1048576 {
		t.Fatalf("MaxBody: %d", cksum.MaxBody)
	}
	long := pattern(cksum.MaxBody + 1)
	if f, e := cksum.Frame(long); f != "" || e != api.ErrLong {
		t.Errorf("Frame of MaxBody + 1 bytes: %d bytes, %v", len(f), e)
	}
	f := frame(t, long[:cksum.MaxBody])
	if len(f) != cksum.MaxBody+7 || f[:3] != "\x80\x80\x40" || f != signed(f[:len(f)-4]) {
		t.Errorf("Frame of MaxBody bytes: %d bytes, %x", len(f), f[:3])
	}
	if body, rest, e := cksum.Open(f + "z"); body != long[:cksum.MaxBody] || rest != "z" || e != api.OK {
		t.Errorf("Open of MaxBody bytes: %d bytes, %q, %v", len(body), rest, e)
	}
	if body, e := cksum.Whole(signed(vint.Text(long))); body != "" || e != api.ErrLong {
		t.Errorf("Whole of MaxBody + 1 bytes: %d bytes, %v", len(body), e)
	}
	if body, rest, e := cksum.Open(vint.Num(cksum.MaxBody+1) + "ab"); body != "" || rest != "" || e != api.ErrLong {
		t.Errorf("Open of the length MaxBody + 1: %q, %q, %v", body, rest, e)
	}
	if body, rest, e := cksum.Open(vint.Num(cksum.MaxBody) + "ab"); body != "" || rest != "" || e != api.ErrShort {
		t.Errorf("Open of the length MaxBody: %q, %q, %v", body, rest, e)
	}
}

// badFrames are bytes at whose front no frame stands.
func badFrames() map[string]api.Errno {
	f := signed("\x09123456789")
	l := map[string]api.Errno{
		"\x80\x00":                                             api.ErrForm,
		signed("\x80\x00"):                                     api.ErrForm,
		signed("\x82\x00ab"):                                   api.ErrForm,
		"\xff\xff\xff\xff\xff\xff\xff\xff\xff":                 api.ErrShort,
		"\xff\xff\xff\xff\xff\xff\xff\xff\xff\x00":             api.ErrForm,
		"\xff\xff\xff\xff\xff\xff\xff\xff\x7f":                 api.ErrLong,
		f[:13] + "\xff":                                        api.ErrSum,
		f[:9] + "8" + f[10:]:                                   api.ErrSum,
		f[:9] + "8" + f[10:] + "x":                             api.ErrSum,
		"\x02ab" + signed("ab")[2:]:                            api.ErrSum, // the sum of the body alone
		f[:10] + string([]byte{f[13], f[12], f[11], f[10]}):    api.ErrSum, // the highest byte first
		"\x00\x00\x00\x00\x00":                                 api.ErrSum,
		"\x00\x8d\xef\x02":                                     api.ErrShort,
		"\x02ab" + strings.Repeat("\x00", 3):                   api.ErrShort,
		"\x02ab" + strings.Repeat("\x00", 4):                   api.ErrSum,
		"\x02ab" + strings.Repeat("\x00", 4) + f + "something": api.ErrSum,
	}
	for n := range len(f) {
		l[f[:n]] = api.ErrShort
	}
	return l
}

// Promise 2.2: Open.
func TestOpen(t *testing.T) {
	f := frame(t, "123456789")
	for _, behind := range []string{"", "x", "xy", "\x00", f, "\xff\xff"} {
		if body, rest, e := cksum.Open(f + behind); body != "123456789" || rest != behind || e != api.OK {
			t.Errorf("Open, with %q behind: %q, %q, %v", behind, body, rest, e)
		}
		if body, rest, e := cksum.Open(frame(t, "") + behind); body != "" || rest != behind || e != api.OK {
			t.Errorf("Open of an empty body, with %q behind: %q, %q, %v", behind, body, rest, e)
		}
	}
	for s, want := range badFrames() {
		if body, rest, e := cksum.Open(s); body != "" || rest != "" || e != want {
			t.Errorf("Open(%x): %q, %q, %v, not %v", s, body, rest, e, want)
		}
	}
}

// Promise 2.2: Whole.
func TestWhole(t *testing.T) {
	for _, body := range []string{"", "ab", "123456789", pattern(300)} {
		f := frame(t, body)
		if b, e := cksum.Whole(f); b != body || e != api.OK {
			t.Errorf("Whole of %q's frame: %q, %v", body, b, e)
		}
		for _, behind := range []string{"x", "\x00", f} {
			if b, e := cksum.Whole(f + behind); b != "" || e != api.ErrLong {
				t.Errorf("Whole of %q's frame and %x: %q, %v", body, behind, b, e)
			}
		}
	}
	for s, want := range badFrames() {
		if b, e := cksum.Whole(s); b != "" || e != want {
			t.Errorf("Whole(%x): %q, %v, not %v", s, b, e, want)
		}
	}
}

// Promise 2.2: Split.
func TestSplit(t *testing.T) {
	f, g := frame(t, "123456789"), frame(t, "")
	for _, x := range []struct {
		s      string
		bodies []string
		rest   string
	}{
		{"", nil, ""},
		{g, []string{""}, ""},
		{f, []string{"123456789"}, ""},
		{f + g + f[:5], []string{"123456789", ""}, f[:5]},
		{g + g + g, []string{"", "", ""}, ""},
		{"x" + f, nil, "x" + f},
		{f + f[:13] + "\xff" + f, []string{"123456789"}, f[:13] + "\xff" + f}, // nothing behind a bad one is taken
		{g + "\x80\x00" + g, []string{""}, "\x80\x00" + g},
		{g + vint.Num(cksum.MaxBody+1), []string{""}, vint.Num(cksum.MaxBody + 1)},
	} {
		bodies, rest := cksum.Split(x.s)
		if !slices.Equal(bodies, x.bodies) || rest != x.rest {
			t.Errorf("Split(%x): %q, %x", x.s, bodies, rest)
		}
	}
	for s := range badFrames() {
		if bodies, rest := cksum.Split(s); len(bodies) != 0 || rest != s {
			t.Errorf("Split(%x): %q, %x", s, bodies, rest)
		}
	}
}

// R3: what is answered twice shares nothing.
func TestSplitIsNew(t *testing.T) {
	s := frame(t, "ab") + frame(t, "cd")
	a, _ := cksum.Split(s)
	b, _ := cksum.Split(s)
	a[0] = "zz"
	if !slices.Equal(b, []string{"ab", "cd"}) {
		t.Errorf("the answers share memory: %q", b)
	}
}

// Promise 2.3: opening a frame gives its body, whatever stands behind it.
func TestOpenFrame(t *testing.T) {
	for _, n := range []int{0, 1, 2, 126, 127, 128, 129, 5000, 16384} {
		body := pattern(n)
		for _, behind := range []string{"", "\x00", "\xff", pattern(40)} {
			if b, rest, e := cksum.Open(frame(t, body) + behind); b != body || rest != behind || e != api.OK {
				t.Errorf("a body of %d bytes, %x behind: %v", n, behind, e)
			}
		}
	}
}

// Promise 2.3: bits inverted within 32 of them, in the body and the sum, are found.
func TestBursts(t *testing.T) {
	masks := []uint32{0xffffffff, 0x80000001, 0xedb88320, 0x04c11db7, 0xdb710641, 0xaaaaaaaa, 0x55555555, 0xff, 0x8001}
	for i := range 32 {
		masks = append(masks, 1<<i, 1<<i|1)
	}
	for _, body := range []string{"", "a", "123456789", pattern(150)} {
		f := frame(t, body)
		first := 8 * (len(f) - 4 - len(body))
		for bit := first; bit <= 8*len(f)-32; bit++ {
			for _, mask := range masks {
				bad := flip(f, bit, mask)
				if b, rest, e := cksum.Open(bad + "z"); b != "" || rest != "" || e != api.ErrSum {
					t.Fatalf("%q with %x inverted at %d: %q, %v", body, mask, bit, b, e)
				}
			}
		}
	}
}

// Promise 2.3: frames that are put together are taken apart again, wherever they are cut.
func TestSplitCuts(t *testing.T) {
	bodies := []string{"123456789", "", "ab", pattern(140), "", "z"}
	all := ""
	ends := []int{0}
	for _, body := range bodies {
		all += frame(t, body)
		ends = append(ends, len(all))
	}
	for cut := range len(all) + 1 {
		n := 0
		for n+1 < len(ends) && ends[n+1] <= cut {
			n++
		}
		got, rest := cksum.Split(all[:cut])
		if !slices.Equal(got, bodies[:n]) || rest != all[ends[n]:cut] {
			t.Errorf("cut at %d: %q, %x", cut, got, rest)
		}
	}
}

// Promises 2.2 and 2.3, R1: of any bytes, what is opened is a frame, and Split leaves what Open refuses.
func FuzzSplit(f *testing.F) {
	f.Add([]byte(signed("\x09123456789") + signed("\x00") + "\x09123"))
	f.Add([]byte("\x80\x00"))
	f.Fuzz(func(t *testing.T, b []byte) {
		s := string(b)
		bodies, rest := cksum.Split(s)
		all := ""
		for _, body := range bodies {
			made, e := cksum.Frame(body)
			if e != api.OK {
				t.Fatalf("a body of %d bytes", len(body))
			}
			all += made
		}
		if all+rest != s {
			t.Errorf("Split(%x): %q, %x", s, bodies, rest)
		}
		if _, _, e := cksum.Open(rest); e == api.OK {
			t.Errorf("Split(%x) leaves a frame: %x", s, rest)
		}
	})
}
