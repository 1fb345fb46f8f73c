package sentence

import (
	"slices"

	"gantry/api"
)

// stem is a beginning of a word that there is, the columns behind it but the last, and what that one begins with.
type stem struct {
	word  []int
	trail []*column
	marks []mark
}

// words is the first so many words of a length that n gives.
func words(g api.Grammar, n, length, most int) [][]int {
	known := sizes(g)
	if !known[n].has(length) {
		return nil
	}
	s := spellerOf(g, known, n, length)
	var list [][]int
	for stems := []stem{{marks: s.starts(n, 0)}}; len(stems) > 0 && len(list) < most; {
		last := stems[len(stems)-1]
		stems = stems[:len(stems)-1]
		if len(last.word) == length {
			list = append(list, last.word)
			continue
		}
		stems = s.grow(stems, last)
	}
	return list
}

// grow puts what a stem grows to onto a stack, so that the lowest terminal is taken first. The lists of a stem grow in several ways: what comes behind them may not stand in their spare room.
func (s *speller) grow(stems []stem, last stem) []stem {
	c := s.column(last.trail, last.marks)
	c.waits = s.waitsOf(last.trail, c)
	trail := append(last.trail[:len(last.trail):len(last.trail)], c)
	reads := s.reads(c, func(m mark) set { return s.inTime(trail, m) })
	for t, marks := range slices.Backward(reads) {
		if len(marks) > 0 {
			word := append(last.word[:len(last.word):len(last.word)], t)
			stems = append(stems, stem{word, trail, marks})
		}
	}
	return stems
}
