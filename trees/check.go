package trees

import (
	"slices"
	"strings"

	"gantry/api"
	"gantry/grammar"
)

// check is Check of a grammar that may be.
func check(g api.Grammar, t *api.Tree) (api.Errno, int) {
	e, places := api.OK, 0
	var due []api.Sym // what the places that come must have as roots, the next one last
	walk(t, func(at *api.Tree) bool {
		e = ownFault(g, at)
		if e == api.OK && places > 0 {
			e = dueFault(g, at, due[len(due)-1])
			due = due[:len(due)-1]
		}
		if e != api.OK {
			return false
		}
		places++
		if !isLeaf(at) {
			due = pushRight(due, g.Prods[at.Prod].Right)
		}
		return true
	})
	return e, places
}

// rootFault is why a place has no root.
func rootFault(g api.Grammar, t *api.Tree) api.Errno {
	if isLeaf(t) {
		if !grammar.In(g, term(t.Tok.Kind)) {
			return api.ErrLeaf
		}
		return api.OK
	}
	if !isProd(g, t.Prod) {
		return api.ErrTree
	}
	return api.OK
}

// ownFault is what is wrong with a place by itself.
func ownFault(g api.Grammar, t *api.Tree) api.Errno {
	if e := rootFault(g, t); e != api.OK {
		return e
	}
	switch {
	case isLeaf(t):
		if len(t.Kids) != 0 {
			return api.ErrLeaf
		}
	case t.Tok != api.Token{}, len(t.Kids) != len(g.Prods[t.Prod].Right):
		return api.ErrTree
	}
	return api.OK
}

// dueFault is what is wrong with a place's root, which should be s.
func dueFault(g api.Grammar, t *api.Tree, s api.Sym) api.Errno {
	switch {
	case root(g, t) == s:
		return api.OK
	case s.Kind == api.SymTerm || isLeaf(t):
		return api.ErrLeaf
	}
	return api.ErrTree
}

func root(g api.Grammar, t *api.Tree) api.Sym {
	if isLeaf(t) {
		return term(t.Tok.Kind)
	}
	return non(g.Prods[t.Prod].Left)
}

func isProd(g api.Grammar, n int) bool { return n >= 0 && n < len(g.Prods) }

func term(n int) api.Sym { return api.Sym{Kind: api.SymTerm, N: n} }
func non(n int) api.Sym  { return api.Sym{Kind: api.SymNon, N: n} }

// pushRight puts the symbols of a right side onto a stack, so that the first is taken first.
func pushRight(stack []api.Sym, right []api.Sym) []api.Sym {
	for _, s := range slices.Backward(right) {
		stack = append(stack, s)
	}
	return stack
}

// printed is the text of a tree of g.
func printed(g api.Grammar, t *api.Tree) string {
	var text strings.Builder
	walkAround(t, func(at *api.Tree) bool {
		if at != t {
			text.WriteString(" ")
		}
		if isLeaf(at) {
			text.WriteString(g.Terms[at.Tok.Kind])
		} else {
			text.WriteString("(" + g.Nons[g.Prods[at.Prod].Left])
		}
		return true
	}, func(at *api.Tree) {
		if !isLeaf(at) {
			text.WriteString(")")
		}
	})
	return text.String()
}
