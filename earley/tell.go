package earley

import (
	"maps"
	"slices"

	"gantry/api"
	"gantry/trees"
)

// piece is a symbol over a part of the word.
type piece struct {
	sym      api.Sym
	from, to int
}

// firstTree is the first one of start and the whole word, if there is one.
func (c *counter) firstTree(g api.Grammar) api.Tree {
	tokens := make([]api.Token, len(c.word))
	for i, kind := range c.word {
		tokens[i].Kind = kind
	}
	t, _, _ := trees.FromLeft(g, c.derivation(g.Start), tokens)
	return t
}

// derivation is the leftmost one of the first tree of a nonterminal and the whole word.
func (c *counter) derivation(n int) []int {
	var prods []int
	for stack := []piece{{non(n), 0, len(c.word)}}; len(stack) > 0; {
		last := stack[len(stack)-1]
		stack = stack[:len(stack)-1]
		if last.sym.Kind == api.SymTerm {
			continue
		}
		rules := c.rules[last.sym.N]
		prod := rules[c.rule(last.sym.N, 0, last.from, last.to)]
		prods = append(prods, prod-1)
		kids := c.kids(prod, last.from, last.to)
		slices.Reverse(kids)
		stack = append(stack, kids...)
	}
	return prods
}

// kids is the first way to lay a production over a part of the word: each kid ends as early as it may.
func (c *counter) kids(prod, from, to int) []piece {
	var l []piece
	ends := c.kidEnds(prod, from, to)
	for dot, s := range c.prods[prod].Right {
		for _, end := range ends[dot] {
			if kid := (piece{s, from, end}); c.gives(kid) {
				l = append(l, kid)
				from = end
				break
			}
		}
	}
	return l
}

// kidEnds is, by kids, where each may end, rising: those up to it have a way there, those behind it one to the end.
func (c *counter) kidEnds(prod, from, to int) [][]int {
	right := c.prods[prod].Right
	all := make([][]int, len(right))
	ends := []int{to}
	for dot, s := range slices.Backward(right) {
		all[dot] = ends
		if s.Kind == api.SymTerm {
			ends = oneBack(ends)
		} else {
			ends = c.beginnings(c.numbers[prod][dot], from, ends)
		}
	}
	return all
}

func oneBack(places []int) []int {
	var l []int
	for _, at := range places {
		l = append(l, at-1)
	}
	return l
}

// beginnings is where an item that began at a place stands and waits for what may come to one of these ends.
func (c *counter) beginnings(item, from int, ends []int) []int {
	waiting := c.waiting[from].of(item)
	found := make(map[int]uint64)
	for _, end := range ends {
		wholes := c.sets[end].of(c.items[item].next.N)
		for block, places := range common(waiting, wholes, 0) {
			found[block] |= places
		}
	}
	var l []int
	for _, block := range slices.Sorted(maps.Keys(found)) {
		m := mark{spot{block: block}, found[block]}
		l = slices.AppendSeq(l, m.all)
	}
	return l
}

// gives tells whether a symbol gives a part of the word, whose end is among its kidEnds: those of a terminal have it ahead.
func (c *counter) gives(p piece) bool {
	if p.sym.Kind == api.SymTerm {
		return p.to == p.from+1
	}
	return c.sets[p.to].has(p.sym.N, p.from)
}
