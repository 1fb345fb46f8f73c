package example

import (
	"gantry/api"
	"gantry/grammar"
)

// group is productions of a nonterminal, one letter of which is near: the terminal that is their first or their second symbol. At one place of a word the letter of one group alone can stand.
type group struct {
	letter int
	prods  []int
}

// noLetter is of the group of productions none of whose letters is near.
const noLetter = -1

// groupsOf is of the productions of a nonterminal that have words.
func (c *chart) groupsOf(n int) []group {
	var all []group
	places := make(map[int]int)
	for _, prod := range grammar.Rules(c.grammar, n) {
		if c.least[c.begins[prod]] == barren {
			continue
		}
		letter := letterOf(c.grammar.Prods[prod].Right)
		at, known := places[letter]
		if !known {
			at = len(all)
			places[letter] = at
			all = append(all, group{letter: letter})
		}
		all[at].prods = append(all[at].prods, prod)
	}
	return all
}

func letterOf(right []api.Sym) int {
	for _, s := range right[:min(2, len(right))] {
		if s.Kind == api.SymTerm {
			return s.N
		}
	}
	return noLetter
}

// ofWords is of start's words of a length that begin as is known.
func (c *chart) ofWords(length int) sum { return c.ofNon(c.grammar.Start, 0, length) }

// ofNon goes over the places at which the letter of a group may stand.
func (c *chart) ofNon(n, from, to int) sum {
	return c.find(n, from, to, func() sum {
		var all sum
		for _, x := range c.groups[n] {
			if x.letter == noLetter {
				all = c.joined(all, c.ofGroup(x, from, from, to))
			}
		}
		for at := from; at < to; at++ {
			all = c.joined(all, c.ofPlace(n, from, at, to))
		}
		return all
	})
}

// ofPlace is of the trees whose production has its letter at a place: the worst letter counts.
func (c *chart) ofPlace(n, from, at, to int) sum {
	var worst sum
	for _, x := range c.groups[n] {
		if x.letter == noLetter || at < len(c.word) && c.word[at] != x.letter {
			continue
		}
		one := c.ofGroup(x, from, at, to)
		worst = sum{max(worst.weight, one.weight), worst.letters | one.letters}
	}
	return worst
}

// ofGroup is of the trees whose production is of a group, its letter, if it has one, at a place.
func (c *chart) ofGroup(x group, from, at, to int) sum {
	var all sum
	for _, prod := range x.prods {
		one := c.ofProd(prod, from, at, to)
		one.weight = c.times(one.weight, c.nodes[prod])
		all = c.joined(all, one)
	}
	return all
}

func (c *chart) ofProd(prod, from, at, to int) sum {
	right := c.grammar.Prods[prod].Right
	switch {
	case letterOf(right) == noLetter:
		return c.ofRest(prod, 0, from, to)
	case right[0].Kind != api.SymTerm:
		return c.ofParts(prod, 0, from, at, to)
	case at == from:
		return c.ofRest(prod, 0, from, to)
	}
	return sum{}
}

// ofRest is of what a production has from the dot on. It goes over the places at which the first symbol may end.
func (c *chart) ofRest(prod, dot, from, to int) sum {
	right, number := c.grammar.Prods[prod].Right, c.begins[prod]+dot
	switch {
	case c.least[number] == barren || c.least[number] > to-from:
		return sum{}
	case dot == len(right):
		if from < to {
			return sum{}
		}
		return sum{weight: 1}
	}
	return c.find(number, from, to, func() sum {
		var all sum
		for at := from; at <= to; at++ {
			all = c.joined(all, c.ofParts(prod, dot, from, at, to))
		}
		return all
	})
}

// ofParts is of the first symbol up to a place, and the rest behind it. Whether their lengths may be, whatever the letters are, is known soon, and spares most of the work.
func (c *chart) ofParts(prod, dot, from, at, to int) sum {
	s, known := c.grammar.Prods[prod].Right[dot], len(c.word)
	switch {
	case at-from < c.leastWord(s) || to-at < c.least[c.begins[prod]+dot+1]:
		return sum{}
	case from < known && c.ofSym(s, known, known+at-from).weight == 0:
		return sum{}
	case from < known && c.ofRest(prod, dot+1, known, known+to-at).weight == 0:
		return sum{}
	}
	a := c.ofSym(s, from, at)
	if a.weight == 0 {
		return sum{}
	}
	b := c.ofRest(prod, dot+1, at, to)
	if b.weight == 0 {
		return sum{}
	}
	letters := a.letters
	if at <= max(from, known) {
		letters = b.letters
	}
	return sum{c.times(a.weight, b.weight), letters}
}

func (c *chart) ofSym(s api.Sym, from, to int) sum {
	switch {
	case s.Kind == api.SymNon:
		return c.ofNon(s.N, from, to)
	case to-from != 1 || from < len(c.word) && c.word[from] != s.N:
		return sum{}
	}
	return sum{c.leaves[s.N], 1 << s.N}
}

func (c *chart) times(a, b int) int { return min(a*b, c.most) }

func (c *chart) joined(a, b sum) sum {
	return sum{min(c.join(a.weight, b.weight), c.most), a.letters | b.letters}
}
