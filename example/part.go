package example

import (
	"slices"

	"gantry/api"
)

// role is which words of a part count.
type role int

const (
	whole  role = iota // all
	headed             // those that begin with the lookahead
	inner              // those of a tree that makes the move with a token of its own next
	ending             // those of a tree that makes it behind all its tokens, if the lookahead comes next
)

// part is a symbol, or what a production has from the dot on. Where a tree is to make the move, it counts in which state a parser begins the part.
type part struct {
	role  role
	state int
	what  int
	dot   int
}

// Dots of parts that are symbols.
const (
	nonDot = -1 - iota
	leafDot
)

func leafOf(kind int) part { return part{what: kind, dot: leafDot} }

func nonOf(r role, state, n int) part { return part{role: r, state: state, what: n, dot: nonDot} }

// behind is what the production has behind the symbol, for a role in which the state does not count.
func (p part) behind(r role) part { return part{role: r, what: p.what, dot: p.dot + 1} }

// open puts in how words of a part are made.
func (h *hunt) open(n int) {
	p := h.parts[n]
	switch {
	case p.dot == leafDot:
	case p.dot == nonDot:
		for _, prod := range h.rules[p.what] {
			h.make(n, part{role: p.role, state: p.state, what: prod})
		}
	case p.dot == h.length(p.what):
		h.openEnd(n, p)
	default:
		h.openRest(n, p)
	}
}

func (h *hunt) openEnd(n int, p part) {
	reduces := p.state == h.state && h.act == api.Action{Kind: api.ActReduce, Arg: p.what}
	if p.role == whole || p.role == ending && reduces {
		h.make(n)
	}
}

func (h *hunt) openRest(n int, p part) {
	s := h.grammar.Prods[p.what].Right[p.dot]
	next := p.behind(p.role)
	if p.role == inner || p.role == ending {
		next.state = h.target(p.state, s)
	}
	if s.Kind == api.SymTerm {
		h.openTerm(n, p, s.N, next)
	} else {
		h.openNon(n, p, s.N, next)
	}
}

func (h *hunt) openTerm(n int, p part, kind int, next part) {
	if p.role != headed {
		h.make(n, leafOf(kind), next)
	}
	shifts := p.role == inner && p.state == h.state && h.act.Kind == api.ActShift
	if kind == h.look && (p.role == headed || shifts) {
		h.make(n, leafOf(kind), p.behind(whole))
	}
}

// openNon puts in that the symbol itself plays the role, or what stands behind it.
func (h *hunt) openNon(n int, p part, non int, next part) {
	switch p.role {
	case whole:
		h.make(n, nonOf(whole, 0, non), next)
	case headed:
		h.make(n, nonOf(headed, 0, non), p.behind(whole))
		if h.nullable[non] {
			h.make(n, next)
		}
	case inner:
		h.make(n, nonOf(whole, 0, non), next)
		h.make(n, nonOf(inner, p.state, non), p.behind(whole))
		h.make(n, nonOf(ending, p.state, non), p.behind(headed))
	case ending:
		h.make(n, nonOf(whole, 0, non), next)
		if h.vanishes(h.grammar.Prods[p.what].Right[p.dot+1:]) {
			h.make(n, nonOf(ending, p.state, non))
		}
	}
}

// vanishes tells whether all these symbols may be nothing.
func (h *hunt) vanishes(l []api.Sym) bool {
	return !slices.ContainsFunc(l, func(s api.Sym) bool { return s.Kind == api.SymTerm || !h.nullable[s.N] })
}
