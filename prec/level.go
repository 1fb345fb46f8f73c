package prec

import (
	"slices"

	"gantry/api"
)

const (
	noTerm  = -1 // the own terminal of a production that has none
	noLevel = -1 // the level of what no level has
)

func isTerm(g api.Grammar, term int) bool { return term >= 0 && term < len(g.Terms) }

func isProd(g api.Grammar, prod int) bool { return prod >= 0 && prod < len(g.Prods) }

// levelOf is a terminal's level; noTerm has none, too, as it stands in no list.
func levelOf(g api.Grammar, term int) int {
	return slices.IndexFunc(g.Levels, func(l api.Level) bool { return slices.Contains(l.Terms, term) })
}

// terminalOf is a production's own terminal.
func terminalOf(p api.Prod) int {
	if p.Prec != noTerm {
		return p.Prec
	}
	for _, s := range slices.Backward(p.Right) {
		if s.Kind == api.SymTerm {
			return s.N
		}
	}
	return noTerm
}
