package codec

import "gantry/api"

// numberSize is how many bytes a number has at most; sevens of bits leave one bit of 64 for the last of them.
const numberSize = 10

// more is the bit of a byte that says that the number goes on.
const more = 128

func appendNumber(b []byte, n uint64) []byte {
	for n >= more {
		b = append(b, byte(n)|more)
		n >>= 7
	}
	return append(b, byte(n))
}

// parseNumber answers the number with which b begins, and how many bytes it has.
func parseNumber(b []byte) (uint64, int, api.Errno) {
	var n uint64
	for i, c := range b {
		if i == numberSize-1 && c != 1 {
			return 0, 0, api.ErrForm
		}
		n |= uint64(c&^more) << (7 * i)
		if c >= more {
			continue
		}
		if c == 0 && i > 0 {
			return 0, 0, api.ErrForm
		}
		return n, i + 1, api.OK
	}
	return 0, 0, api.ErrShort
}

// fold turns an int into a number such that small amounts are small numbers. The complement of a negative int cannot overflow, as its opposite could.
func fold(n int) uint64 {
	if n < 0 {
		return 2*uint64(^n) + 1
	}
	return 2 * uint64(n)
}

// unfold is fold turned back.
func unfold(n uint64) int {
	if n%2 == 1 {
		return ^int(n / 2)
	}
	return int(n / 2)
}
