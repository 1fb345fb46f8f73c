package glr

import "math/bits"

// set is places of a text, from 0 to MaxLength. The greatest one alone needs the second word.
type set [2]uint64

const wordBits = 64

func setOf(place int) set {
	var s set
	s[place/wordBits] = 1 << (place % wordBits)
	return s
}

func (s set) has(place int) bool { return s[place/wordBits]>>(place%wordBits)&1 == 1 }

func (s set) empty() bool { return s == set{} }

func (s set) with(other set) set { return set{s[0] | other[0], s[1] | other[1]} }

func (s set) without(other set) set { return set{s[0] &^ other[0], s[1] &^ other[1]} }

// all hands out the places, rising.
func (s set) all(yield func(int) bool) {
	for i, word := range s {
		for ; word != 0; word &= word - 1 {
			if !yield(i*wordBits + bits.TrailingZeros64(word)) {
				return
			}
		}
	}
}
