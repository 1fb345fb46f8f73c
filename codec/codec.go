// Package codec is layer 1, bytes: numbers, texts, counts and frames, each in one form alone (shared/doc/01-codec.md).
package codec

import (
	"bytes"

	"gantry/api"
)

const (
	magicSize = 3
	headSize  = magicSize + 1
	sumSize   = 4
)

// magic stands ahead of every frame; the kind follows it.
var magic = [magicSize]byte{'g', 't', 'r'}

// sumModulus is the greatest prime below 65536.
const sumModulus = 65521

// Sum answers the Adler-32 sum of b.
func Sum(b []byte) uint32 {
	low, high := uint32(1), uint32(0)
	for _, c := range b {
		low = (low + uint32(c)) % sumModulus
		high = (high + low) % sumModulus
	}
	return high<<16 | low
}

// Seal answers the frame of a kind and a body.
func Seal(kind byte, body []byte) ([]byte, api.Errno) {
	if len(body) > api.MaxBytes {
		return nil, api.ErrLong
	}
	frame := make([]byte, 0, headSize+numberSize+len(body)+sumSize)
	for _, c := range head(kind) {
		frame = append(frame, c)
	}
	frame = appendNumber(frame, uint64(len(body)))
	frame = append(frame, body...)
	return appendSum(frame, Sum(frame)), api.OK
}

// Open answers the body of a frame of that kind; or an error, and its place in the frame.
func Open(kind byte, frame []byte) ([]byte, api.Errno, int) {
	if e, at := checkHead(kind, frame); e != api.OK {
		return nil, e, at
	}
	length, size, e := parseNumber(frame[headSize:])
	switch {
	case e == api.ErrShort:
		return nil, e, len(frame)
	case e != api.OK:
		return nil, e, headSize
	case length > api.MaxBytes:
		return nil, api.ErrLong, headSize
	}
	from := headSize + size
	to := from + int(length)
	end := to + sumSize
	switch {
	case len(frame) < end:
		return nil, api.ErrShort, len(frame)
	case len(frame) > end:
		return nil, api.ErrTail, end
	case parseSum(frame[to:]) != Sum(frame[:to]):
		return nil, api.ErrSum, to
	}
	return bytes.Clone(frame[from:to]), api.OK, 0
}

// head answers the bytes that must stand ahead of a frame of that kind.
func head(kind byte) [headSize]byte {
	var h [headSize]byte
	for i, c := range magic {
		h[i] = c
	}
	h[magicSize] = kind
	return h
}

// checkHead answers what is wrong with the bytes ahead, and where. It goes byte by byte, since a wrong byte is told of ahead of a missing one behind it.
func checkHead(kind byte, frame []byte) (api.Errno, int) {
	for i, c := range head(kind) {
		if i == len(frame) {
			return api.ErrShort, i
		}
		if frame[i] != c {
			return api.ErrMagic, i
		}
	}
	return api.OK, 0
}

func appendSum(b []byte, sum uint32) []byte {
	return append(b, byte(sum>>24), byte(sum>>16), byte(sum>>8), byte(sum))
}

func parseSum(b []byte) uint32 {
	var sum uint32
	for _, c := range b {
		sum = sum<<8 | uint32(c)
	}
	return sum
}
