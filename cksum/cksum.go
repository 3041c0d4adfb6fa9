// Package cksum is layer 2: see shared/doc/02-cksum.md.
package cksum

import (
	"splice/api"
	"splice/vint"
)

// MaxBody is how many bytes the body of a frame has at most.
const MaxBody = 1 << 20

const (
	polynomial = 0xedb88320
	sumBytes   = 4
)

// Sum is the sum of bytes.
func Sum(s string) uint32 {
	c := ^uint32(0)
	for i := range len(s) {
		c ^= uint32(s[i])
		for range 8 {
			c = c>>1 ^ polynomial*(c&1) // no branch: bits of a sum can't be foretold
		}
	}
	return ^c
}

// Frame is a body's frame.
func Frame(body string) (string, api.Errno) {
	if len(body) > MaxBody {
		return "", api.ErrLong
	}
	text := vint.Text(body)
	return text + sumText(text), api.OK
}

// Open is the body of the frame at the front of bytes, and what stands behind it.
func Open(s string) (body, rest string, e api.Errno) {
	r := vint.From(s)
	body = r.Text(MaxBody)
	if e = r.Err(); e != api.OK {
		return "", "", e
	}
	behind := r.Left()
	if len(behind) < sumBytes {
		return "", "", api.ErrShort
	}
	text := s[:len(s)-len(behind)]
	if behind[:sumBytes] != sumText(text) {
		return "", "", api.ErrSum
	}
	return body, behind[sumBytes:], api.OK
}

// Whole is the body of a frame that is all there is.
func Whole(s string) (body string, e api.Errno) {
	body, rest, e := Open(s)
	if e != api.OK {
		return "", e
	}
	if rest != "" {
		return "", api.ErrLong
	}
	return body, api.OK
}

// Split is the bodies of frames, one behind the other, and what is left.
func Split(s string) (bodies []string, rest string) {
	for {
		body, behind, e := Open(s)
		if e != api.OK {
			return bodies, s
		}
		bodies = append(bodies, body)
		s = behind
	}
}

// sumText is the sum of bytes as a frame has it.
func sumText(s string) string {
	c := Sum(s)
	return string([]byte{byte(c), byte(c >> 8), byte(c >> 16), byte(c >> 24)})
}
