package bits

import (
	mathbits "math/bits"

	"gantry/api"
)

const wordBits = 64

// Set is a set of numbers below its size. A set that was made has a word behind its full ones, though no number may fit in: one without words is one that no call made. Bits from the size on are never set. Neither field is changed once it is made, so that a copied Set is the same set.
type Set struct {
	size  int
	words []uint64
}

// NewSet answers an empty set for the numbers from 0 below n.
func NewSet(n int) (*Set, api.Errno) {
	if !allowed(n) {
		return nil, api.ErrRange
	}
	return empty(n), api.OK
}

// Size answers what the set's numbers are below.
func (s *Set) Size() int {
	if s == nil {
		return 0
	}
	return s.size
}

// Add puts a number in, and tells whether it was out.
func (s *Set) Add(x int) bool {
	if !below(x, s.Size()) || s.Has(x) {
		return false
	}
	s.words[x/wordBits] |= bit(x)
	return true
}

// Remove takes a number out, and tells whether it was in.
func (s *Set) Remove(x int) bool {
	if !s.Has(x) {
		return false
	}
	s.words[x/wordBits] &^= bit(x)
	return true
}

// Has tells whether a number is in.
func (s *Set) Has(x int) bool {
	return below(x, s.Size()) && s.words[x/wordBits]&bit(x) != 0
}

// Union puts the other's numbers in, and tells whether that changed the set.
func (s *Set) Union(t *Set) bool {
	return s.change(t, func(own, other uint64) uint64 { return own | other })
}

// Meet keeps what the other has too, and tells whether that changed the set.
func (s *Set) Meet(t *Set) bool {
	return s.change(t, func(own, other uint64) uint64 { return own & other })
}

// Minus takes the other's numbers out, and tells whether that changed the set.
func (s *Set) Minus(t *Set) bool {
	return s.change(t, func(own, other uint64) uint64 { return own &^ other })
}

// Same tells whether both have the same numbers.
func (s *Set) Same(t *Set) bool {
	return s.nowhere(t, func(own, other uint64) uint64 { return own ^ other })
}

// Within tells whether the other has all the set's numbers.
func (s *Set) Within(t *Set) bool {
	return s.nowhere(t, func(own, other uint64) uint64 { return own &^ other })
}

// Count answers how many numbers are in.
func (s *Set) Count() int {
	n := 0
	for _, w := range s.held() {
		n += mathbits.OnesCount64(w)
	}
	return n
}

// List answers the numbers, rising.
func (s *Set) List() []int {
	list := make([]int, 0, s.Count())
	for i, w := range s.held() {
		for ; w != 0; w &= w - 1 {
			list = append(list, lowest(i, w))
		}
	}
	return list
}

// Copy answers another set of the same size and numbers.
func (s *Set) Copy() *Set {
	if len(s.held()) == 0 {
		return nil
	}
	c := empty(s.size)
	copy(c.words, s.words)
	return c
}

// empty makes a set of a size that may be.
func empty(n int) *Set {
	return &Set{size: n, words: make([]uint64, n/wordBits+1)}
}

// held is the set's words, none of a nil set.
func (s *Set) held() []uint64 {
	if s == nil {
		return nil
	}
	return s.words
}

// change puts what do makes of both sets' words in place of the set's own.
func (s *Set) change(t *Set, do func(own, other uint64) uint64) bool {
	words, others := s.held(), t.held()
	changed := false
	for i, old := range words {
		words[i] = do(old, wordAt(others, i)) & s.room(i)
		changed = changed || words[i] != old
	}
	return changed
}

// nowhere tells whether do makes zero of all words of both sets.
func (s *Set) nowhere(t *Set, do func(own, other uint64) uint64) bool {
	words, others := s.held(), t.held()
	for i := range max(len(words), len(others)) {
		if do(wordAt(words, i), wordAt(others, i)) != 0 {
			return false
		}
	}
	return true
}

// room is the bits of a word that stand for numbers below the size.
func (s *Set) room(word int) uint64 {
	if word < s.size/wordBits {
		return ^uint64(0)
	}
	return bit(s.size) - 1
}

// lacked is the lowest number of the set that the other does not have; the set's size, if there is none. What the set has below from the other must have: it is passed over by words.
func (s *Set) lacked(from int, t *Set) int {
	others := t.held()
	for i := from / wordBits; i < len(s.words); i++ {
		if w := s.words[i] &^ wordAt(others, i); w != 0 {
			return lowest(i, w)
		}
	}
	return s.size
}

func wordAt(words []uint64, i int) uint64 {
	if i < len(words) {
		return words[i]
	}
	return 0
}

// lowest is the lowest number that a word, which is not zero, stands for.
func lowest(at int, word uint64) int {
	return at*wordBits + mathbits.TrailingZeros64(word)
}

func bit(x int) uint64 { return 1 << (x % wordBits) }
