package grammar

import (
	"slices"

	"gantry/api"
	"gantry/symbols"
)

// noPrec is the Prec of a production that has no terminal's level.
const noPrec = -1

// claimed is a grammar of which it is not known yet whether it may be. Each of its checks leans on those ahead of it in Check's list.
type claimed api.Grammar

// Check answers api.OK, if g may be, else the first fault and its place.
func Check(g api.Grammar) (api.Errno, int) {
	checks := []func(claimed) (api.Errno, int){
		claimed.checkCounts,
		claimed.checkNames,
		claimed.checkStart,
		claimed.checkProds,
		claimed.checkLevels,
	}
	for _, check := range checks {
		if e, at := check(claimed(g)); e != api.OK {
			return e, at
		}
	}
	return api.OK, 0
}

func (c claimed) checkCounts() (api.Errno, int) {
	switch {
	case len(c.Terms) == 0 || len(c.Terms) > api.MaxTerms:
		return api.ErrTerms, 0
	case len(c.Nons) == 0 || len(c.Nons) > api.MaxNons:
		return api.ErrNons, 0
	}
	return api.OK, 0
}

func (c claimed) checkNames() (api.Errno, int) {
	return symbols.CheckNames(c.Terms, c.Nons)
}

func (c claimed) checkStart() (api.Errno, int) {
	if !isNon(api.Grammar(c), c.Start) {
		return api.ErrStart, 0
	}
	return api.OK, 0
}

func (c claimed) checkProds() (api.Errno, int) {
	if len(c.Prods) == 0 || len(c.Prods) > api.MaxProds {
		return api.ErrProds, 0
	}
	for i := range c.Prods {
		if e := c.checkProd(i); e != api.OK {
			return e, i
		}
	}
	return api.OK, 0
}

func (c claimed) checkProd(n int) api.Errno {
	g, p := api.Grammar(c), c.Prods[n]
	strange := func(s api.Sym) bool { return !In(g, s) }
	same := func(ahead api.Prod) bool {
		return ahead.Left == p.Left && slices.Equal(ahead.Right, p.Right)
	}
	switch {
	case !isNon(g, p.Left):
		return api.ErrSymbol
	case len(p.Right) > api.MaxRight:
		return api.ErrRight
	case slices.ContainsFunc(p.Right, strange):
		return api.ErrSymbol
	case slices.ContainsFunc(g.Prods[:n], same):
		return api.ErrTwice
	case p.Prec != noPrec && !isTerm(g, p.Prec):
		return api.ErrPrec
	}
	return api.OK
}

func (c claimed) checkLevels() (api.Errno, int) {
	if len(c.Levels) > api.MaxLevels {
		return api.ErrLevel, 0
	}
	named := make(map[int]struct{})
	for i, l := range c.Levels {
		if e := c.checkLevel(l, named); e != api.OK {
			return e, i
		}
		for _, n := range l.Terms {
			named[n] = struct{}{}
		}
	}
	return api.OK, 0
}

// checkLevel answers what is wrong with a level, if the levels ahead have named these terminals.
func (c claimed) checkLevel(l api.Level, named map[int]struct{}) api.Errno {
	strange := func(n int) bool { return !isTerm(api.Grammar(c), n) }
	taken := func(n int) bool {
		_, ok := named[n]
		return ok
	}
	switch {
	case !isAssoc(l.Assoc) || len(l.Terms) == 0:
		return api.ErrLevel
	case slices.ContainsFunc(l.Terms, strange):
		return api.ErrRange
	case !rises(l.Terms):
		return api.ErrOrder
	case slices.ContainsFunc(l.Terms, taken):
		return api.ErrTwice
	}
	return api.OK
}

func isAssoc(a api.Assoc) bool {
	return a == api.AssocLeft || a == api.AssocRight || a == api.AssocNone
}

func rises(l []int) bool {
	for i := 1; i < len(l); i++ {
		if l[i-1] >= l[i] {
			return false
		}
	}
	return true
}
