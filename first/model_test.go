package first_test

import (
	"math/rand"
	"slices"
	"strconv"

	"gantry/api"
)

func term(n int) api.Sym { return api.Sym{Kind: api.SymTerm, N: n} }
func non(n int) api.Sym  { return api.Sym{Kind: api.SymNon, N: n} }

func syms(l ...api.Sym) []api.Sym { return l }

func prod(left int, right ...api.Sym) api.Prod {
	return api.Prod{Left: left, Right: right, Prec: -1}
}

// numbered are that many names: the letter, and the numbers from 0 on behind it.
func numbered(letter string, n int) []string {
	var l []string
	for i := range n {
		l = append(l, letter+strconv.Itoa(i))
	}
	return l
}

func grammarOf(terms, nons, start int, prods ...api.Prod) api.Grammar {
	return api.Grammar{Terms: numbered("t", terms), Nons: numbered("n", nons), Start: start, Prods: prods}
}

// modelNullable says it as the chapter does: every one is a nonterminal that the claim has.
func modelNullable(nullable []bool, l []api.Sym) bool {
	return !slices.ContainsFunc(l, func(s api.Sym) bool { return s.Kind != api.SymNon || !nullable[s.N] })
}

// modelFirst says it as the chapter does: for each place that has nullable ones alone ahead of it.
func modelFirst(nullable []bool, first [][]int, l []api.Sym) []int {
	var all []int
	for i, s := range l {
		if !modelNullable(nullable, l[:i]) {
			continue
		}
		if s.Kind == api.SymTerm {
			all = append(all, s.N)
		} else {
			all = append(all, first[s.N]...)
		}
	}
	return once(all)
}

// once is the numbers, rising, each once.
func once(l []int) []int {
	l = slices.Clone(l)
	slices.Sort(l)
	return slices.Compact(l)
}

func part(a, b []int) bool {
	return !slices.ContainsFunc(a, func(n int) bool { return !slices.Contains(b, n) })
}

func sameLists(a, b [][]int) bool { return slices.EqualFunc(a, b, slices.Equal) }

// nullableOpen is the first production for which a claim is not closed, -1 for none.
func nullableOpen(g api.Grammar, nullable []bool) int {
	return slices.IndexFunc(g.Prods, func(p api.Prod) bool {
		return modelNullable(nullable, p.Right) && !nullable[p.Left]
	})
}

func firstOpen(g api.Grammar, nullable []bool, first [][]int) int {
	return slices.IndexFunc(g.Prods, func(p api.Prod) bool {
		return !part(modelFirst(nullable, first, p.Right), first[p.Left])
	})
}

// followClosed tells whether the lists are as the chapter asks of follow, be they the least or not.
func followClosed(g api.Grammar, nullable []bool, first, follow [][]int) bool {
	if !slices.Contains(follow[g.Start], len(g.Terms)) {
		return false
	}
	for _, p := range g.Prods {
		for i, s := range p.Right {
			if s.Kind != api.SymNon {
				continue
			}
			behind := p.Right[i+1:]
			if !part(modelFirst(nullable, first, behind), follow[s.N]) {
				return false
			}
			if modelNullable(nullable, behind) && !part(follow[p.Left], follow[s.N]) {
				return false
			}
		}
	}
	return true
}

// eachClaim goes over all lists, for each of nons, of numbers below terms.
func eachClaim(nons, terms int, do func(lists [][]int)) {
	for mask := range 1 << (nons * terms) {
		lists := make([][]int, nons)
		for i := range nons * terms {
			if mask>>i&1 == 1 {
				lists[i/terms] = append(lists[i/terms], i%terms)
			}
		}
		do(lists)
	}
}

// meet keeps of each list what the other has, too; of none so far, all of the other.
func meet(all, other [][]int) [][]int {
	if all == nil {
		return other
	}
	for n := range all {
		all[n] = slices.DeleteFunc(all[n], func(x int) bool { return !slices.Contains(other[n], x) })
	}
	return all
}

// bools is a claim of nullable out of lists of numbers below 1.
func bools(lists [][]int) []bool {
	l := make([]bool, len(lists))
	for n := range lists {
		l[n] = len(lists[n]) > 0
	}
	return l
}

// leastNullable is what all closed claims have.
func leastNullable(g api.Grammar) []bool {
	var all [][]int
	eachClaim(len(g.Nons), 1, func(lists [][]int) {
		if nullableOpen(g, bools(lists)) < 0 {
			all = meet(all, lists)
		}
	})
	return bools(all)
}

func leastFirst(g api.Grammar) [][]int {
	nullable := leastNullable(g)
	var all [][]int
	eachClaim(len(g.Nons), len(g.Terms), func(lists [][]int) {
		if firstOpen(g, nullable, lists) < 0 {
			all = meet(all, lists)
		}
	})
	return all
}

func leastFollow(g api.Grammar) [][]int {
	nullable, first := leastNullable(g), leastFirst(g)
	var all [][]int
	eachClaim(len(g.Nons), len(g.Terms)+1, func(lists [][]int) {
		if followClosed(g, nullable, first, lists) {
			all = meet(all, lists)
		}
	})
	return all
}

// modelHeights asks for each height, from 1 on, which nonterminals have a tree without leaves that is just as high or lower.
func modelHeights(g api.Grammar) []int {
	heights := make([]int, len(g.Nons))
	lower := make([]bool, len(g.Nons))
	for height := 1; height <= len(g.Nons)+1; height++ {
		now := slices.Clone(lower)
		for _, p := range g.Prods {
			if modelNullable(lower, p.Right) {
				now[p.Left] = true
			}
		}
		for n := range now {
			if now[n] && !lower[n] {
				heights[n] = height
			}
		}
		lower = now
	}
	return heights
}

// anySym is a symbol that a grammar of so many has.
func anySym(r *rand.Rand, terms, nons int) api.Sym {
	if n := r.Intn(terms + 2*nons); n < terms {
		return term(n)
	}
	return non(r.Intn(nons))
}

func anySyms(r *rand.Rand, g api.Grammar, most int) []api.Sym {
	var l []api.Sym
	for range r.Intn(most + 1) {
		l = append(l, anySym(r, len(g.Terms), len(g.Nons)))
	}
	return l
}

// anyGrammar has at most so many of each, and no production twice.
func anyGrammar(r *rand.Rand, terms, nons, prods, right int) api.Grammar {
	g := grammarOf(1+r.Intn(terms), 1+r.Intn(nons), 0)
	g.Start = r.Intn(len(g.Nons))
	for range 1 + r.Intn(prods) {
		p := prod(r.Intn(len(g.Nons)), anySyms(r, g, right)...)
		if !slices.ContainsFunc(g.Prods, func(q api.Prod) bool { return q.Left == p.Left && slices.Equal(q.Right, p.Right) }) {
			g.Prods = append(g.Prods, p)
		}
	}
	return g
}

// anyBools and anyLists are claims of any kind; lists rise if they must, else a number may stand anywhere and twice.
func anyBools(r *rand.Rand, n int) []bool {
	l := make([]bool, n)
	for i := range l {
		l[i] = r.Intn(2) == 0
	}
	return l
}

func anyList(r *rand.Rand, below int) []int {
	var l []int
	for range r.Intn(4) {
		l = append(l, r.Intn(below))
	}
	return l
}

func anyLists(r *rand.Rand, n, below int, rise bool) [][]int {
	lists := make([][]int, n)
	for i := range lists {
		lists[i] = anyList(r, below)
		if rise {
			lists[i] = once(lists[i])
		}
	}
	return lists
}
