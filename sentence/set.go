package sentence

import "math/bits"

// set is numbers from 0 to MaxLength: places of a word, or lengths of words. The greatest one alone needs the second word.
type set [2]uint64

const wordBits = 64

func setOf(n int) set {
	var s set
	s.add(n)
	return s
}

func (s *set) add(n int) { s[n/wordBits] |= 1 << (n % wordBits) }

func (s set) has(n int) bool { return s[n/wordBits]>>(n%wordBits)&1 == 1 }

func (s set) empty() bool { return s == set{} }

func (s set) count() int { return bits.OnesCount64(s[0]) + bits.OnesCount64(s[1]) }

func (s set) with(other set) set { return set{s[0] | other[0], s[1] | other[1]} }

func (s set) both(other set) set { return set{s[0] & other[0], s[1] & other[1]} }

func (s set) without(other set) set { return set{s[0] &^ other[0], s[1] &^ other[1]} }

// all hands out the numbers, rising.
func (s set) all(yield func(int) bool) {
	for i, word := range s {
		for ; word != 0; word &= word - 1 {
			if !yield(i*wordBits + bits.TrailingZeros64(word)) {
				return
			}
		}
	}
}

// up adds n, from 0 to MaxLength, to each number; those that become too great fall away.
func (s set) up(n int) set {
	return set{s[0] << n, (s[1]<<n | s[0]>>(wordBits-n)) & 1}
}

// down takes n, from 0 to MaxLength, from each number; those that become too small fall away.
func (s set) down(n int) set {
	return set{s[0]>>n | s[1]<<(wordBits-n), s[1] >> n}
}

// plus is all sums of a number of s and one of other that are not too great.
func (s set) plus(other set) set {
	if s.count() > other.count() {
		s, other = other, s
	}
	var sums set
	for n := range s.all {
		sums = sums.with(other.up(n))
	}
	return sums
}

// turned has MaxLength - n for each n of s.
func (s set) turned() set {
	return set{bits.Reverse64(s[0])<<1 | s[1], s[0] & 1}
}
