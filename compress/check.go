package compress

import "gantry/api"

// hasShape tells whether the lists of p are as many, and as few, as they must be.
func hasShape(p api.Packed) bool {
	rows, places := len(p.Default), len(p.Owner)
	switch {
	case p.Terms < 1 || p.Terms > api.MaxTerms:
		return false
	case p.Nons < 1 || p.Nons > api.MaxNons:
		return false
	case rows < 1 || rows > api.MaxStates:
		return false
	case len(p.ActBase) != rows || len(p.GotoBase) != rows:
		return false
	}
	return len(p.Value) == places && places <= mostPlaces
}

// mayBegin tells whether a row's Default and bases may be.
func mayBegin(p api.Packed, row int) bool {
	d := p.Default[row]
	return (d == noProd || isBelow(d, api.MaxProds)) && isBase(p.ActBase[row]) && isBase(p.GotoBase[row])
}

func isBase(n int) bool { return n >= 0 && n <= mostPlaces }

// mayStand tells whether what stands at a place may stand there, in a p whose rows are in order.
func mayStand(p api.Packed, place int) bool {
	owner, value := p.Owner[place], p.Value[place]
	switch {
	case owner == noOwner:
		return value == noValue
	case !isBelow(owner, 2*len(p.Default)):
		return false
	case isActs(owner):
		r := rowOf(owner)
		return isBelow(place-p.ActBase[r], p.Terms+1) && isAction(p, value) && p.Default[r] == noProd
	}
	return isBelow(place-p.GotoBase[rowOf(owner)], p.Nons) && isBelow(value, len(p.Default))
}

// isAction tells whether a value is that of an action of which there is the state or the production.
func isAction(p api.Packed, value int) bool {
	switch a := actionOf(value); a.Kind {
	case api.ActShift:
		return isBelow(a.Arg, len(p.Default))
	case api.ActReduce:
		return isBelow(a.Arg, api.MaxProds)
	default:
		return a.Kind == api.ActAccept
	}
}

// hasState tells whether a p that nobody checked has all that is said of a state.
func hasState(p api.Packed, state int) bool {
	return isBelow(state, len(p.Default)) && isBelow(state, len(p.ActBase)) && isBelow(state, len(p.GotoBase))
}

// entryAt answers the value at a place of a p that nobody checked, and whether it is there and the owner's. A base near the greatest int makes a place below 0, where nothing stands.
func entryAt(p api.Packed, place, owner int) (int, bool) {
	if !isBelow(place, len(p.Owner)) || !isBelow(place, len(p.Value)) || p.Owner[place] != owner {
		return 0, false
	}
	return p.Value[place], true
}

// emptyRow is a row of p without its entries.
func emptyRow(p api.Packed, row int) api.Row {
	r := api.Row{Default: p.Default[row], Acts: make([]api.Action, p.Terms+1), Gotos: make([]int, p.Nons)}
	for n := range r.Gotos {
		r.Gotos[n] = noState
	}
	return r
}
