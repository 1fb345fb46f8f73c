package first

import (
	"slices"

	"gantry/api"
)

// heights goes from low trees to high ones. In the lowest tree no nonterminal stands below itself, so none is higher than there are nonterminals.
func heights(g api.Grammar) []int {
	known := make([]int, len(g.Nons))
	for most := range len(g.Nons) {
		for _, p := range g.Prods {
			if known[p.Left] == 0 && fit(known, p.Right, most) {
				known[p.Left] = most + 1
			}
		}
	}
	return known
}

// fit tells whether each symbol has a tree without leaves that is known and not higher than most.
func fit(known []int, l []api.Sym, most int) bool {
	for _, s := range l {
		if s.Kind != api.SymNon || known[s.N] == 0 || known[s.N] > most {
			return false
		}
	}
	return true
}

// nullables are those that have a tree without leaves.
func nullables(g api.Grammar) []bool {
	nullable := make([]bool, len(g.Nons))
	for n, height := range heights(g) {
		nullable[n] = height > 0
	}
	return nullable
}

// least is the least claims of both.
func least(g api.Grammar) claim {
	c := claim{nullable: nullables(g), first: make([]set, len(g.Nons))}
	settle(c.first, func() {
		for _, p := range g.Prods {
			c.first[p.Left] = c.first[p.Left].with(c.of(p.Right, set{}))
		}
	})
	return c
}

// follows goes over each right side from its end, with what may stand behind the symbol.
func follows(g api.Grammar) []set {
	c := least(g)
	follow := make([]set, len(g.Nons))
	follow[g.Start].add(len(g.Terms))
	settle(follow, func() {
		for _, p := range g.Prods {
			behind := follow[p.Left]
			for _, s := range slices.Backward(p.Right) {
				if s.Kind == api.SymNon {
					follow[s.N] = follow[s.N].with(behind)
				}
				behind = c.ahead(s, behind)
			}
		}
	})
	return follow
}

// settle goes round till no set grows any more.
func settle(sets []set, round func()) {
	for {
		old := slices.Clone(sets)
		round()
		if slices.Equal(old, sets) {
			return
		}
	}
}
