package sentence

import (
	"slices"

	"gantry/api"
	"gantry/trees"
)

// pick is a tree of a symbol over a part of the word: that which has so many ahead of it. These are at most MaxTrees, so counts that are capped do as well as the true ones.
type pick struct {
	sym      api.Sym
	from, to int
	ahead    int
}

// eachTree hands out the trees of n and the whole word in their order, till give says enough.
func (c *chart) eachTree(g api.Grammar, n int, give func(api.Tree) bool) {
	tokens := make([]api.Token, len(c.word))
	for i, kind := range c.word {
		tokens[i].Kind = kind
	}
	root := pick{sym: non(n), to: len(c.word)}
	for range c.countOf(root) {
		t, _, _ := trees.FromLeft(g, c.derivation(root), tokens)
		if !give(t) {
			return
		}
		root.ahead++
	}
}

func (c *chart) countOf(p pick) int { return c.count(wholeOf(p.sym, p.from, p.to)) }

// derivation is the leftmost one of a tree.
func (c *chart) derivation(root pick) []int {
	var prods []int
	for stack := []pick{root}; len(stack) > 0; {
		last := stack[len(stack)-1]
		stack = stack[:len(stack)-1]
		if last.sym.Kind == api.SymTerm {
			continue
		}
		prod, ahead := c.production(last)
		prods = append(prods, prod)
		stack = c.pushKids(stack, prod, last.from, last.to, ahead)
	}
	return prods
}

// production is the one at the root of a tree, and how many of the trees ahead have it, too.
func (c *chart) production(t pick) (int, int) {
	ahead := t.ahead
	for _, prod := range c.rules[t.sym.N] {
		if !c.rests[prod][0][t.from].has(t.to) {
			continue
		}
		rows := c.count(c.restOf(prod, 0, t.from, t.to))
		if ahead < rows {
			return prod, ahead
		}
		ahead -= rows
	}
	return 0, 0 // there are more trees than are ahead
}

// pushKids puts the kids of a tree onto a stack, the first one last, if so many of the trees ahead have the same production. The order asks first where the kids end, and then which trees they are.
func (c *chart) pushKids(stack []pick, prod, from, to, ahead int) []pick {
	bottom := len(stack)
	rows := 1 // of the kids that have their ends
	for dot, s := range c.prods[prod].Right {
		for at := range c.endsOf(s, from).all {
			if !c.rests[prod][dot+1][at].has(to) {
				continue
			}
			kid := pick{sym: s, from: from, to: at}
			withKid := capped(rows * c.countOf(kid))
			all := capped(withKid * c.count(c.restOf(prod, dot+1, at, to)))
			if ahead < all {
				stack = append(stack, kid)
				rows, from = withKid, at
				break
			}
			ahead -= all
		}
	}
	kids := stack[bottom:]
	for i := range slices.Backward(kids) {
		n := c.countOf(kids[i])
		kids[i].ahead = ahead % n
		ahead /= n
	}
	slices.Reverse(kids)
	return stack
}
