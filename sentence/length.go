package sentence

import "gantry/api"

// mostLength is what lengths of shortest words are capped at.
const mostLength = 1<<31 - 1

// none is the length of a shortest word where there is no word.
const none = -1

// lengths is how long the shortest word of each nonterminal is. Some shortest word has a tree in which no nonterminal stands below itself, so there are no more rounds than nonterminals, and one.
func lengths(g api.Grammar) []int {
	l := make([]int, len(g.Nons))
	for n := range l {
		l[n] = none
	}
	for changed := true; changed; {
		changed = false
		for _, p := range g.Prods {
			n := lengthOf(l, p.Right)
			if n != none && (l[p.Left] == none || n < l[p.Left]) {
				l[p.Left] = n
				changed = true
			}
		}
	}
	return l
}

// lengthOf is how long the shortest word of all these symbols is, by what is known of nonterminals.
func lengthOf(l []int, right []api.Sym) int {
	sum := 0
	for _, s := range right {
		n := 1
		if s.Kind == api.SymNon {
			n = l[s.N]
		}
		if n == none {
			return none
		}
		sum += min(n, mostLength-sum)
	}
	return sum
}

// sizes is which lengths the words of each nonterminal have, up to MaxLength.
func sizes(g api.Grammar) []set {
	l := make([]set, len(g.Nons))
	for changed := true; changed; {
		changed = false
		for _, p := range g.Prods {
			more := l[p.Left].with(sizeOf(l, p.Right))
			if more != l[p.Left] {
				l[p.Left] = more
				changed = true
			}
		}
	}
	return l
}

// sizeOf is which lengths the words of all these symbols have, by what is known of nonterminals.
func sizeOf(l []set, right []api.Sym) set {
	sums := setOf(0)
	for _, s := range right {
		if s.Kind == api.SymTerm {
			sums = sums.up(1)
		} else {
			sums = sums.plus(l[s.N])
		}
	}
	return sums
}
