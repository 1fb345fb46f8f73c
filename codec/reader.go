package codec

import (
	"bytes"
	"math"

	"gantry/api"
)

// Reader goes over bytes. NewReader makes one; any other answers nothing.
type Reader struct {
	made bool
	data []byte
	at   int
	// err is the first error. Its place is at: a call that fails has not moved, and none behind it does.
	err api.Errno
}

// NewReader answers a reader that stands ahead of the first of these bytes, as they are now.
func NewReader(b []byte) *Reader {
	return &Reader{made: true, data: bytes.Clone(b)}
}

// Number reads a number.
func (r *Reader) Number() uint64 {
	return r.take(math.MaxUint64)
}

// Int reads an int from 0 to most.
func (r *Reader) Int(most int) int {
	if most < 0 {
		r.Fail(api.ErrArg)
		return 0
	}
	return int(r.take(uint64(most)))
}

// Signed reads an int from -most to most.
func (r *Reader) Signed(most int) int {
	if most < 0 {
		r.Fail(api.ErrArg)
		return 0
	}
	// The ints from -most to most are the numbers up to that of most.
	return unfold(r.take(fold(most)))
}

// Flag reads a flag.
func (r *Reader) Flag() bool {
	return r.take(1) == 1
}

// Text reads a text of at most most bytes.
func (r *Reader) Text(most int) string {
	n := r.peekCount(1, most)
	if n.size == 0 {
		return ""
	}
	from := r.at + n.size
	r.at = from + int(n.value)
	return string(r.data[from:r.at])
}

// Count reads how many things follow, at most most, that take at least least bytes each.
func (r *Reader) Count(least int, most int) int {
	n := r.peekCount(least, most)
	r.move(n.size)
	return int(n.value)
}

// Fail makes e the first error, if there is none yet.
func (r *Reader) Fail(e api.Errno) {
	if r.ready() {
		r.err = e
	}
}

// At answers how many bytes were read.
func (r *Reader) At() int {
	if r == nil {
		return 0
	}
	return r.at
}

// Left answers how many bytes are left.
func (r *Reader) Left() int {
	if r == nil {
		return 0
	}
	return len(r.data) - r.at
}

// End answers the first error and its place; bytes that are left are one.
func (r *Reader) End() (api.Errno, int) {
	switch {
	case r == nil || !r.made:
		return api.ErrMade, 0
	case r.err != api.OK:
		return r.err, r.at
	case r.Left() > 0:
		return api.ErrTail, r.at
	}
	return api.OK, 0
}

// seen is a number that is next, and how many bytes it has: 0, if it may not be read.
type seen struct {
	value uint64
	size  int
}

// peek looks at the next number, which is at most most, and moves nothing: its user may yet find a fault.
func (r *Reader) peek(most uint64) seen {
	if !r.ready() {
		return seen{}
	}
	n, size, e := parseNumber(r.data[r.at:])
	if e == api.OK && n > most {
		e = api.ErrRange
	}
	if e != api.OK {
		r.Fail(e)
		return seen{}
	}
	return seen{value: n, size: size}
}

// peekCount looks at the next number as a count. It divides what is left, since least times a hostile count could overflow.
func (r *Reader) peekCount(least int, most int) seen {
	if least < 1 || most < 0 {
		r.Fail(api.ErrArg)
		return seen{}
	}
	n := r.peek(uint64(most))
	left := r.Left() - n.size
	if n.value > uint64(left/least) {
		r.Fail(api.ErrShort)
		return seen{}
	}
	return n
}

func (r *Reader) take(most uint64) uint64 {
	n := r.peek(most)
	r.move(n.size)
	return n.value
}

func (r *Reader) move(size int) {
	if size > 0 {
		r.at += size
	}
}

func (r *Reader) ready() bool {
	return r != nil && r.made && r.err == api.OK
}
