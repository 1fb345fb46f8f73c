package prec

import (
	"slices"

	"gantry/api"
)

// noProd is the Prod of a decision that keeps no production.
const noProd = -1

// judge knows each level that a decision may ask for, so that many conflicts of one grammar need them found but once.
type judge struct {
	levels []api.Level
	terms  []int // each terminal's level
	prods  []int // each production's
	equals map[api.Assoc]func(duel) api.Decision
}

func judgeOf(g api.Grammar) *judge {
	j := &judge{levels: g.Levels, equals: equals()}
	for term := range g.Terms {
		j.terms = append(j.terms, levelOf(g, term))
	}
	for _, p := range g.Prods {
		j.prods = append(j.prods, levelOf(g, terminalOf(p)))
	}
	return j
}

// equals is what a level says where a shift and a reduction are both of it.
func equals() map[api.Assoc]func(duel) api.Decision {
	return map[api.Assoc]func(duel) api.Decision{
		api.AssocLeft:  duel.reduce,
		api.AssocRight: duel.shift,
		api.AssocNone:  duel.neither,
	}
}

// decide is what becomes of a shift of term against a reduction by prod.
func (j *judge) decide(prod, term int) api.Decision {
	p, t := j.prods[prod], j.terms[term]
	d := duel{prod: prod, term: term, level: max(p, t)}
	switch {
	case p == noLevel || t == noLevel:
		return undecided(term)
	case p > t:
		return d.reduce()
	case t > p:
		return d.shift()
	}
	return j.equals[j.levels[p].Assoc](d)
}

// resolve is what becomes of a conflict that may be.
func (j *judge) resolve(c api.Conflict) api.Decision {
	if c.Shift == noShift || slices.Contains(c.Reduce, accept) {
		return undecided(c.Look)
	}
	said := map[api.DecideKind][]api.Decision{}
	for _, prod := range c.Reduce {
		d := j.decide(prod, c.Look)
		said[d.Kind] = append(said[d.Kind], d)
	}
	kept, refused := said[api.DecideReduce], said[api.DecideError]
	switch {
	case len(said[api.DecideNone]) > 0 || len(kept) > 1:
		return undecided(c.Look)
	case len(kept) == 1:
		return dropping(kept[0], c.Reduce)
	case len(refused) > 0:
		return dropping(refused[0], c.Reduce)
	}
	return dropping(said[api.DecideShift][0], c.Reduce)
}

// dropping is a decision that drops all those productions but the one that it keeps.
func dropping(d api.Decision, prods []int) api.Decision {
	d.Dropped = slices.DeleteFunc(slices.Clone(prods), func(p int) bool { return p == d.Prod })
	return d
}

// duel is a shift of term against a reduction by prod, which that level decides.
type duel struct{ prod, term, level int }

func (d duel) reduce() api.Decision {
	return api.Decision{Look: d.term, Kind: api.DecideReduce, Prod: d.prod, ShiftDropped: true, By: d.level}
}

func (d duel) shift() api.Decision {
	return api.Decision{Look: d.term, Kind: api.DecideShift, Prod: noProd, Dropped: []int{d.prod}, By: d.level}
}

func (d duel) neither() api.Decision {
	return api.Decision{Look: d.term, Kind: api.DecideError, Prod: noProd, Dropped: []int{d.prod}, ShiftDropped: true, By: d.level}
}

func undecided(look int) api.Decision {
	return api.Decision{Look: look, Kind: api.DecideNone, Prod: noProd, By: noLevel}
}
