// Package octet is layer 1: numbers as bytes, the highest first. See 01-octet.md.
package octet

import (
	"bytes"

	"icehouse/api"
)

// place is somewhere among bytes: ahead of the one with the number at.
type place struct {
	held []byte
	at   int
}

// Reader reads bytes from the first to the last; from its first error on it stays where it is.
type Reader struct {
	place
	err api.Errno
}

// Put16 answers b with the two bytes of x behind it.
func Put16(b []byte, x uint16) []byte {
	return put(b, uint64(x), 2)
}

// Put32 answers b with the four bytes of x behind it.
func Put32(b []byte, x uint32) []byte {
	return put(b, uint64(x), 4)
}

// Put64 answers b with the eight bytes of x behind it.
func Put64(b []byte, x uint64) []byte {
	return put(b, x, 8)
}

// put lays the lowest count bytes of x. It makes a list of its own, as append could lay them into the room behind b.
func put(b []byte, x uint64, count int) []byte {
	out := make([]byte, len(b)+count)
	copy(out, b)
	for i := len(out) - 1; i >= len(b); i-- {
		out[i] |= byte(x)
		x >>= 8
	}
	return out
}

// Equal tells whether both are the same bytes, and as many.
func Equal(a, b []byte) bool {
	return bytes.Equal(a, b)
}

// Zero tells whether all bytes are 0.
func Zero(b []byte) bool {
	for _, x := range b {
		if x != 0 {
			return false
		}
	}
	return true
}

// Read makes a Reader of the bytes as they are now.
func Read(b []byte) *Reader {
	return &Reader{place: place{held: clone(b)}}
}

// U8 reads one byte.
func (r *Reader) U8() byte {
	return byte(r.number(1))
}

// U16 reads two bytes as a number.
func (r *Reader) U16() uint16 {
	return uint16(r.number(2))
}

// U32 reads four bytes as a number.
func (r *Reader) U32() uint32 {
	return uint32(r.number(4))
}

// U64 reads eight bytes as a number.
func (r *Reader) U64() uint64 {
	return r.number(8)
}

// Raw reads n bytes.
func (r *Reader) Raw(n int) []byte {
	return clone(r.take(n))
}

// Left tells how many bytes are not read yet.
func (r *Reader) Left() int {
	if r == nil {
		return 0
	}
	return len(r.held) - r.at
}

// Err tells the Reader's error.
func (r *Reader) Err() api.Errno {
	if r == nil {
		return api.ErrNil
	}
	return r.err
}

// number reads count bytes as a number; it is 0 where they can't be read.
func (r *Reader) number(count int) uint64 {
	var x uint64
	for _, b := range r.take(count) {
		x <<= 8
		x |= uint64(b)
	}
	return x
}

// take goes behind the next n bytes and answers them: a part of what is held, which must not be handed out.
func (r *Reader) take(n int) []byte {
	switch {
	case r.Err() != api.OK:
		return nil
	case n < 0:
		r.err = api.ErrArg
		return nil
	case n > r.Left():
		r.err = api.ErrShort
		return nil
	}
	from := r.at
	r.at += n
	return r.held[from:r.at]
}

// clone answers the same bytes in memory of their own.
func clone(b []byte) []byte {
	out := make([]byte, len(b))
	copy(out, b)
	return out
}
