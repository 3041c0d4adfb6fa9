// Package vint is layer 1: see shared/doc/01-vint.md.
package vint

import (
	"splice/api"
)

// MaxWhole is the greatest whole number that is written.
const MaxWhole = 1<<62 - 1

const (
	groupBits = 7
	more      = 1 << groupBits // what a byte has added that is not a number's last one
	maxBytes  = 9              // nine groups have 63 bits, all that a number may have
)

// Num is a number's bytes.
func Num(n int) string {
	if n < 0 {
		return ""
	}
	return string(appendNum(nil, n))
}

// Whole is a whole number's bytes.
func Whole(z int) string {
	if !inRange(z) {
		return ""
	}
	return string(appendNum(nil, fold(z)))
}

// Flag is a flag's bytes.
func Flag(b bool) string {
	if b {
		return "\x01"
	}
	return "\x00"
}

// Text is a text's bytes.
func Text(s string) string {
	return Num(len(s)) + s
}

// List is a list's bytes.
func List(l []int) string {
	b := appendNum(nil, len(l))
	for _, z := range l {
		if !inRange(z) {
			return ""
		}
		b = appendNum(b, fold(z))
	}
	return string(b)
}

func appendNum(b []byte, n int) []byte {
	for n >= more {
		b = append(b, byte(n%more+more))
		n >>= groupBits
	}
	return append(b, byte(n))
}

func inRange(z int) bool {
	return -MaxWhole-1 <= z && z <= MaxWhole
}

// fold is the number that stands for a whole number. For one below 0 it is
// 2 * ^z + 1 and not -2 * z - 1, since -2 * z may be too great for an int.
func fold(z int) int {
	if z < 0 {
		return 2*^z + 1
	}
	return 2 * z
}

func unfold(n int) int {
	if n%2 == 1 {
		return ^(n / 2)
	}
	return n / 2
}

// Reader stands somewhere in bytes.
type Reader struct {
	left string // what was not read; empty after an error
	err  api.Errno
}

// From is a reader at the front of bytes.
func From(s string) *Reader {
	return &Reader{left: s}
}

// Err is the first error.
func (r *Reader) Err() api.Errno {
	if r == nil {
		return api.ErrShort
	}
	return r.err
}

// Num reads a number.
func (r *Reader) Num() int {
	if r.Err() != api.OK {
		return 0
	}
	n, size, e := number(r.left)
	if e != api.OK {
		r.fail(e)
		return 0
	}
	r.left = r.left[size:]
	return n
}

// Whole reads a whole number.
func (r *Reader) Whole() int {
	return unfold(r.Num()) // 0 stands for 0, so an error's 0 stays 0
}

// Flag reads a flag.
func (r *Reader) Flag() bool {
	if r.Err() != api.OK {
		return false
	}
	if r.left == "" {
		r.fail(api.ErrShort)
		return false
	}
	b := r.left[0]
	if b > 1 {
		r.fail(api.ErrForm)
		return false
	}
	r.left = r.left[1:]
	return b == 1
}

// Text reads a text.
func (r *Reader) Text(most int) string {
	n := r.length(most)
	if r.Err() != api.OK {
		return ""
	}
	if n > len(r.left) {
		r.fail(api.ErrShort)
		return ""
	}
	s := r.left[:n]
	r.left = r.left[n:]
	return s
}

// List reads a list.
func (r *Reader) List(most int) []int {
	n := r.length(most)
	var l []int // grows as it is read: the length may be far more than the bytes hold
	for range n {
		z := r.Whole()
		if r.Err() != api.OK {
			return nil
		}
		l = append(l, z)
	}
	return l
}

// Left is the bytes that were not read.
func (r *Reader) Left() string {
	if r == nil {
		return ""
	}
	return r.left
}

// End is the first error, or that bytes are left.
func (r *Reader) End() api.Errno {
	if e := r.Err(); e != api.OK {
		return e
	}
	if r.left != "" {
		return api.ErrLong
	}
	return api.OK
}

// length reads how long a text or a list is; it is 0 if that is an error.
func (r *Reader) length(most int) int {
	n := r.Num()
	if r.Err() == api.OK && n > most {
		r.fail(api.ErrLong)
		return 0
	}
	return n
}

func (r *Reader) fail(e api.Errno) {
	r.left, r.err = "", e
}

// number is the number at the front of s, and how many bytes it has.
func number(s string) (n, size int, e api.Errno) {
groups:
	for {
		switch {
		case size == len(s):
			return 0, 0, api.ErrShort
		case size == maxBytes, size > 0 && s[size] == 0:
			return 0, 0, api.ErrForm
		case s[size] < more:
			break groups
		}
		n |= int(s[size]-more) << (groupBits * size)
		size++
	}
	return n | int(s[size])<<(groupBits*size), size + 1, api.OK
}
