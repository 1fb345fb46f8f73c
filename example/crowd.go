package example

import (
	"math/bits"
	"slices"

	"gantry/api"
)

// crowd is the words of start, from one on up to a last one, that have more trees than some.
type crowd struct {
	*chart // of how many trees there are, as far as one more than some
	some   int
	from   []int
	last   []int
	bound  *chart // of how many trees a word may have; nil, if that is not known
}

func crowdOf(g api.Grammar, some int, last []int) *crowd {
	return &crowd{chart: countsOf(g, len(last), some+1), some: some, last: last}
}

// first is the first word, if there is one.
func (c *crowd) first() (word []int, found bool) {
	c.eachWord(func(w []int) bool {
		word, found = w, true
		return false
	})
	return word, found
}

// eachWord hands out the words in their order, as long as give says so.
func (c *crowd) eachWord(give func(w []int) bool) {
	for length := len(c.from); length <= len(c.last); length++ {
		if c.mayBe(length) && !c.grow(length, give) {
			return
		}
	}
}

func (c *crowd) mayBe(length int) bool {
	return c.bound == nil || c.bound.ofWords(length).weight > c.some
}

// grow hands out the words of a length that begin as is known, and tells whether to go on behind them.
func (c *crowd) grow(length int, give func(w []int) bool) bool {
	known, trees := len(c.word), c.ofWords(length)
	switch {
	case trees.weight <= c.some:
		return true
	case length == len(c.from) && slices.Compare(c.word, c.from[:known]) < 0:
		return true
	case length == len(c.last) && slices.Compare(c.word, c.last[:known]) > 0:
		return false
	case known == length:
		return give(slices.Clone(c.word))
	}
	for left := trees.letters; left != 0; left &= left - 1 {
		c.know(bits.TrailingZeros64(left))
		goOn := c.grow(length, give)
		c.forget()
		if !goOn {
			return false
		}
	}
	return true
}
