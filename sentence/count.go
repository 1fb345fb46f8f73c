package sentence

import (
	"gantry/api"
	"gantry/grammar"
)

// many is where counts of trees stop.
const many = api.MaxTrees + 1

// part is a nonterminal, or what a production has from the dot on, over a part of the word.
type part struct {
	what, dot, from, to int
}

// Dots of parts that are no production's.
const (
	wholeDot = -1 - iota // of a nonterminal
	oneDot               // of what there is once, whatever it is: a leaf, or nothing
)

// product is what there is once for each two trees, or rows of trees, of two parts.
type product struct {
	a, b part
}

// sum is a count in the making, and what is still to be added.
type sum struct {
	part  part
	total int
	left  []product
}

// chart is how many trees nonterminals have over parts of a word, and how many rows of trees rests of productions have: of those parts that were asked for.
type chart struct {
	*parts
	rules  [][]int // productions by nonterminals
	counts map[part]int
}

// chartOf is of a grammar that has no circular nonterminal: no count hangs on itself.
func chartOf(g api.Grammar, word []int) *chart {
	c := &chart{parts: partsOf(g, word), counts: map[part]int{{dot: oneDot}: 1}}
	for n := range g.Nons {
		c.rules = append(c.rules, grammar.Rules(g, n))
	}
	return c
}

func wholeOf(s api.Sym, from, to int) part {
	if s.Kind == api.SymTerm {
		return part{dot: oneDot}
	}
	return part{s.N, wholeDot, from, to}
}

func (c *chart) restOf(prod, dot, from, to int) part {
	if dot == len(c.prods[prod].Right) {
		return part{dot: oneDot}
	}
	return part{prod, dot, from, to}
}

// count is how many trees, or rows of trees, a part has. Those that it hangs on, and are not known, are counted first.
func (c *chart) count(p part) int {
	if n, known := c.counts[p]; known {
		return n
	}
	for stack := []sum{c.sumOf(p)}; len(stack) > 0; {
		last := &stack[len(stack)-1]
		if len(last.left) == 0 || last.total == many {
			c.counts[last.part] = last.total
			stack = stack[:len(stack)-1]
			continue
		}
		if unknown, stops := c.addNext(last); stops {
			stack = append(stack, c.sumOf(unknown))
		}
	}
	return c.counts[p]
}

// addNext adds what comes next in a sum, unless a part of it is not known.
func (c *chart) addNext(s *sum) (unknown part, stops bool) {
	next := s.left[0]
	a, known := c.counts[next.a]
	if !known {
		return next.a, true
	}
	b, known := c.counts[next.b]
	if !known {
		return next.b, true
	}
	s.total = capped(s.total + capped(a*b))
	s.left = s.left[1:]
	return part{}, false
}

// sumOf is, of a nonterminal, over its productions; of a rest, over the places at which its first symbol may end. Only what there is counts.
func (c *chart) sumOf(p part) sum {
	s := sum{part: p}
	if p.dot == wholeDot {
		for _, prod := range c.rules[p.what] {
			if c.rests[prod][0][p.from].has(p.to) {
				s.left = append(s.left, product{c.restOf(prod, 0, p.from, p.to), part{dot: oneDot}})
			}
		}
		return s
	}
	first := c.prods[p.what].Right[p.dot]
	for at := range c.endsOf(first, p.from).all {
		if c.rests[p.what][p.dot+1][at].has(p.to) {
			s.left = append(s.left, product{wholeOf(first, p.from, at), c.restOf(p.what, p.dot+1, at, p.to)})
		}
	}
	return s
}

func capped(n int) int { return min(n, many) }
