package first

import (
	"slices"

	"gantry/api"
	"gantry/grammar"
)

// claim is what is said of each nonterminal: whether it is nullable, and what its strings begin with.
type claim struct {
	nullable []bool
	first    []set
}

func claimOf(nullable []bool, first [][]int) claim {
	return claim{nullable: nullable, first: setsOf(first)}
}

// of is what the symbols and then one of look begin with. It comes from the right, since what stands behind a symbol counts only where that is nullable.
func (c claim) of(l []api.Sym, look set) set {
	for _, s := range slices.Backward(l) {
		look = c.ahead(s, look)
	}
	return look
}

// ahead is what one symbol and then one of look begin with.
func (c claim) ahead(s api.Sym, look set) set {
	if s.Kind == api.SymTerm {
		return setOf([]int{s.N})
	}
	if c.nullable[s.N] {
		return look.with(c.first[s.N])
	}
	return c.first[s.N]
}

func areNullable(nullable []bool, l []api.Sym) bool {
	for _, s := range l {
		if s.Kind != api.SymNon || !nullable[s.N] {
			return false
		}
	}
	return true
}

// askNullable tells what is wrong with the grammar, or with the number of claims.
func askNullable(g api.Grammar, nullable []bool) api.Errno {
	if e, _ := grammar.Check(g); e != api.OK {
		return e
	}
	if len(nullable) != len(g.Nons) {
		return api.ErrCount
	}
	return api.OK
}

func askClaims(g api.Grammar, nullable []bool, first [][]int) api.Errno {
	if e := askNullable(g, nullable); e != api.OK {
		return e
	}
	if len(first) != len(g.Nons) {
		return api.ErrCount
	}
	return api.OK
}

func allIn(g api.Grammar, l []api.Sym) bool {
	for _, s := range l {
		if !grammar.In(g, s) {
			return false
		}
	}
	return true
}

func allBelow(l []int, end int) bool {
	for _, n := range l {
		if n < 0 || n >= end {
			return false
		}
	}
	return true
}

func rises(l []int) bool {
	for i := 1; i < len(l); i++ {
		if l[i-1] >= l[i] {
			return false
		}
	}
	return true
}
