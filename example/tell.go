package example

import (
	"slices"

	"gantry/api"
	"gantry/grammar"
	"gantry/trees"
)

// pick is a tree of a symbol over a part of the word: that which has so many ahead of it.
type pick struct {
	sym      api.Sym
	from, to int
	ahead    int
}

// eachTree hands out the trees of start and the word that is known, in their order, as long as give says so. That which has MaxTrees ahead of it is among them, which sentence.Trees does not tell.
func (c *chart) eachTree(give func(api.Tree) bool) {
	tokens := make([]api.Token, len(c.word))
	for at, kind := range c.word {
		tokens[at].Kind = kind
	}
	for ahead := range c.ofWords(len(c.word)).weight {
		t, _, _ := trees.FromLeft(c.grammar, c.derivation(ahead), tokens)
		if !give(t) {
			return
		}
	}
}

// derivation is the leftmost one of the tree that has so many ahead of it.
func (c *chart) derivation(ahead int) []int {
	var prods []int
	for open := []pick{{non(c.grammar.Start), 0, len(c.word), ahead}}; len(open) > 0; {
		last := open[len(open)-1]
		open = open[:len(open)-1]
		if last.sym.Kind == api.SymTerm {
			continue
		}
		prod, ahead := c.production(last)
		prods = append(prods, prod)
		kids := c.kids(prod, last.from, last.to, ahead)
		slices.Reverse(kids)
		open = append(open, kids...)
	}
	return prods
}

// production is that at the root of a tree, and how many ahead of the tree have it, too.
func (c *chart) production(t pick) (int, int) {
	prods, at := grammar.Rules(c.grammar, t.sym.N), 0
	for ; at < len(prods)-1; at++ {
		count := c.ofRest(prods[at], 0, t.from, t.to).weight
		if t.ahead < count {
			break
		}
		t.ahead -= count
	}
	return prods[at], t.ahead
}

// kids are those of a tree that has so many ahead of it with its production. Ahead are those whose kids end earlier, then those whose kids are ahead, the first kid before all.
func (c *chart) kids(prod, from, to, ahead int) []pick {
	var kids []pick
	rows := 1 // of kids that end where these do
	for dot, s := range c.grammar.Prods[prod].Right {
		for at := from; at <= to; at++ {
			longer := c.times(rows, c.ofSym(s, from, at).weight)
			all := c.times(longer, c.ofRest(prod, dot+1, at, to).weight)
			if ahead < all {
				kids = append(kids, pick{sym: s, from: from, to: at})
				rows, from = longer, at
				break
			}
			ahead -= all
		}
	}
	for i, kid := range slices.Backward(kids) {
		count := c.ofSym(kid.sym, kid.from, kid.to).weight
		kids[i].ahead = ahead % count
		ahead /= count
	}
	return kids
}
