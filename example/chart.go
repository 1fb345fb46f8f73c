package example

import (
	"slices"

	"gantry/api"
	"gantry/sentence"
)

// chart tells something of the trees of words that begin as is known: what any one of these words has, or more. Of a tree that is the product of what its leaves and nodes weigh; of several trees it is joined. With weights of 1 and sums it is how many trees there are; and of a word that is known whole, no more than that.
//
// It is for grammars that have no circular nonterminal: nothing hangs on itself.
type chart struct {
	grammar api.Grammar
	leaves  []int // weights, by terminals
	nodes   []int // weights, by productions
	join    func(a, b int) int
	most    int       // what would be greater is this
	longest int       // of the words that are asked for
	groups  [][]group // by nonterminals
	begins  []int     // by productions: the number of all that it has; that from the next symbol on has the next number. The lower ones are the nonterminals'.
	least   []int     // by numbers: the length of the shortest word, barren if there is none
	rows    [][]cell
	word    []int // the beginning that is known
	stamps  []int // by lengths of beginnings of it
	stamp   int   // the last one
}

// sum is of all trees that a part has.
type sum struct {
	weight  int
	letters uint64 // bits of the terminals that may stand at its first place that is not known
}

// cell is what was found out. It is out of date, if the beginning that it hangs on has another stamp by now.
type cell struct {
	sum
	stamp int
}

// always is the stamp of what hangs on no letter.
const always = 1

// barren is the length of a shortest word where there is none.
const barren = -1

// countsOf counts trees, up to most.
func countsOf(g api.Grammar, longest, most int) *chart {
	add := func(a, b int) int { return a + b }
	return chartOf(g, add, longest, most)
}

// choicesOf tells between how many trees a parser may have to choose on its way to one: of each conflict it takes one thing of so many. A word has no more trees than that. (Acceptance is in no conflict: it would take a circular nonterminal.)
func choicesOf(g api.Grammar, conflicts []api.Conflict, longest, most int) *chart {
	greater := func(a, b int) int { return max(a, b) }
	c := chartOf(g, greater, longest, most)
	for _, x := range conflicts {
		things := thingsOf(x)
		for _, act := range things {
			switch act.Kind {
			case api.ActShift:
				c.leaves[x.Look] = max(c.leaves[x.Look], len(things))
			case api.ActReduce:
				c.nodes[act.Arg] = max(c.nodes[act.Arg], len(things))
			}
		}
	}
	return c
}

func chartOf(g api.Grammar, join func(a, b int) int, longest, most int) *chart {
	c := &chart{grammar: g, join: join, most: most, longest: longest, stamp: always}
	c.leaves = slices.Repeat([]int{1}, len(g.Terms))
	c.nodes = slices.Repeat([]int{1}, len(g.Prods))
	c.least, _ = sentence.Lengths(g)
	for _, p := range g.Prods {
		c.begins = append(c.begins, len(c.least))
		c.least = append(c.least, c.leastOf(p.Right)...)
	}
	for n := range g.Nons {
		c.groups = append(c.groups, c.groupsOf(n))
	}
	c.rows = make([][]cell, len(c.least)*(longest+2))
	c.stamps = slices.Repeat([]int{always}, longest+1)
	return c
}

// leastOf is how long the shortest words are of all that a right side has from each place on.
func (c *chart) leastOf(right []api.Sym) []int {
	least := make([]int, len(right)+1)
	for at, s := range slices.Backward(right) {
		least[at] = barren
		if one := c.leastWord(s); one != barren && least[at+1] != barren {
			least[at] = one + least[at+1]
		}
	}
	return least
}

func (c *chart) leastWord(s api.Sym) int {
	if s.Kind == api.SymTerm {
		return 1
	}
	return c.least[s.N]
}

// know puts a letter behind those that are known.
func (c *chart) know(kind int) {
	c.word = append(c.word, kind)
	c.stamp++
	c.stamps[len(c.word)] = c.stamp
}

func (c *chart) forget() { c.word = c.word[:len(c.word)-1] }

// find is what is kept of a part, if it is not out of date; else what work finds out.
func (c *chart) find(number, from, to int, work func() sum) sum {
	kept, stamp := c.cell(number, from, to)
	if kept.stamp != stamp {
		*kept = cell{work(), stamp}
	}
	return kept.sum
}

// cell is where a sum is kept, and the stamp of what it hangs on: of the letters that are known the last in it. Where none is, it hangs on the length alone.
func (c *chart) cell(number, from, to int) (*cell, int) {
	known := len(c.word)
	if from >= known {
		return &c.row(number, c.longest+1)[to-from], always
	}
	return &c.row(number, from)[to], c.stamps[min(to, known)]
}

// row is the cells of a part that begins at a place, or, behind the last place, anywhere. Few of all rows are ever asked for.
func (c *chart) row(number, from int) []cell {
	at := number*(c.longest+2) + from
	if c.rows[at] == nil {
		c.rows[at] = make([]cell, c.longest+1)
	}
	return c.rows[at]
}
