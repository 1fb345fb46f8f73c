package bundle

import "gantry/api"

// most is the greatest number of a bundle. One that may be -1 is laid down with 1 ahead.
const most = 1 << 30

// The numbers of actions: error, acceptance, and the least of shifts and of reductions, which take turns.
const (
	errorNumber  = 0
	acceptNumber = 1
	shiftNumber  = 2
	reduceNumber = 3
	mostAction   = reduceNumber + 2*most
)

// The numbers of symbols: none, and the least of terminals and of nonterminals, which take turns.
const (
	noSymbol   = 0
	termNumber = 1
	nonNumber  = 2
	mostSymbol = nonNumber + 2*most
)

// actionNumber tells false, if there is no such action, whatever its state or production.
func actionNumber(a api.Action) (int, bool) {
	switch a.Kind {
	case api.ActError:
		return errorNumber, a.Arg == 0
	case api.ActAccept:
		return acceptNumber, a.Arg == 0
	case api.ActShift:
		return shiftNumber + 2*a.Arg, true
	case api.ActReduce:
		return reduceNumber + 2*a.Arg, true
	}
	return 0, false
}

// actionOf is actionNumber turned back.
func actionOf(n int) api.Action {
	switch {
	case n == errorNumber:
		return api.Action{Kind: api.ActError}
	case n == acceptNumber:
		return api.Action{Kind: api.ActAccept}
	case n%2 == shiftNumber%2:
		return api.Action{Kind: api.ActShift, Arg: (n - shiftNumber) / 2}
	}
	return api.Action{Kind: api.ActReduce, Arg: (n - reduceNumber) / 2}
}

// symbolNumber tells false, if a symbol is neither none nor of the two kinds.
func symbolNumber(s api.Sym) (int, bool) {
	switch s.Kind {
	case api.SymTerm:
		return termNumber + 2*s.N, true
	case api.SymNon:
		return nonNumber + 2*s.N, true
	}
	return noSymbol, s == api.Sym{}
}

// symbolOf is symbolNumber turned back.
func symbolOf(n int) api.Sym {
	switch {
	case n == noSymbol:
		return api.Sym{}
	case n%2 == termNumber%2:
		return api.Sym{Kind: api.SymTerm, N: (n - termNumber) / 2}
	}
	return api.Sym{Kind: api.SymNon, N: (n - nonNumber) / 2}
}
