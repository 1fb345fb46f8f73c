package trim

import (
	"gantry/api"
	"gantry/bits"
	"gantry/first"
)

func term(n int) api.Sym { return api.Sym{Kind: api.SymTerm, N: n} }

func non(n int) api.Sym { return api.Sym{Kind: api.SymNon, N: n} }

// fruitful tells of each nonterminal whether it gives a list of terminals alone.
func fruitful(g api.Grammar) []bool {
	gives := make([]bool, len(g.Nons))
	settle(g.Prods, func(p api.Prod) bool {
		if gives[p.Left] || !fruitfulList(gives, p.Right) {
			return false
		}
		gives[p.Left] = true
		return true
	})
	return gives
}

func fruitfulList(gives []bool, l []api.Sym) bool {
	for _, s := range l {
		if s.Kind == api.SymNon && !gives[s.N] {
			return false
		}
	}
	return true
}

func barren(g api.Grammar) []int {
	var l []int
	for n, gives := range fruitful(g) {
		if !gives {
			l = append(l, n)
		}
	}
	return l
}

// reached is what start reaches by the productions that count.
func reached(g api.Grammar, counts func(api.Prod) bool) marks {
	m := noMarks(g)
	m.add(non(g.Start))
	settle(g.Prods, func(p api.Prod) bool {
		if !m.has(non(p.Left)) || !counts(p) {
			return false
		}
		grew := false
		for _, s := range p.Right {
			if m.add(s) {
				grew = true
			}
		}
		return grew
	})
	return m
}

func unreached(g api.Grammar) []api.Sym {
	m := reached(g, func(api.Prod) bool { return true })
	var l []api.Sym
	for _, s := range symbolsOf(g) {
		if !m.has(s) {
			l = append(l, s)
		}
	}
	return l
}

// circular asks a grammar that may be, so that neither call refuses.
func circular(g api.Grammar) []int {
	nullable, _ := first.Nullable(g)
	pairs, _ := bits.Closure(len(g.Nons), alone(g, nullable))
	var l []int
	for _, p := range pairs {
		if p.A == p.B {
			l = append(l, p.A)
		}
	}
	return l
}

// alone is the pairs of nonterminals of which the first gives the second alone by one production, whose other symbols go.
func alone(g api.Grammar, nullable []bool) []api.Pair {
	var pairs []api.Pair
	for _, p := range g.Prods {
		for i, s := range p.Right {
			if s.Kind == api.SymNon && vanish(nullable, p.Right[:i]) && vanish(nullable, p.Right[i+1:]) {
				pairs = append(pairs, api.Pair{A: p.Left, B: s.N})
			}
		}
	}
	return pairs
}

func vanish(nullable []bool, l []api.Sym) bool {
	for _, s := range l {
		if s.Kind != api.SymNon || !nullable[s.N] {
			return false
		}
	}
	return true
}

// settle goes round over the productions till no step finds anything new.
func settle(prods []api.Prod, step func(api.Prod) bool) {
	for grew := true; grew; {
		grew = false
		for _, p := range prods {
			if step(p) {
				grew = true
			}
		}
	}
}
