package validate

import (
	"gantry/api"
	"gantry/cert"
	"gantry/first"
	"gantry/grammar"
	"gantry/table"
	"gantry/trim"
)

const (
	startProd = -1 // start's own production: its reduction is acceptance
	noState   = -1 // where no edge leads
)

// check answers the first fault that it finds, and its place.
type check func() (api.Errno, int)

// checker is what is to be taken or not. Each of its checks but those of shapes leans on all of these, and each of these on those ahead of it.
type checker struct {
	grammar api.Grammar
	table   api.Table
	cert    api.Cert
}

func checkerOf(g api.Grammar, b api.Bundle) *checker {
	return &checker{grammar: g, table: b.Table, cert: b.Cert}
}

func (c *checker) shapes() []check {
	return []check{c.checkGrammar, c.checkWell, c.checkTable, c.checkEnd, c.checkCert, c.checkNullable, c.checkFirst}
}

func (c *checker) sound() []check { return []check{c.checkEdges, c.checkStates} }

func (c *checker) complete() []check { return []check{c.checkInitial, c.checkItems} }

func (c *checker) ends() []check { return []check{c.checkLoops} }

// ask goes over the checks in order, and gives up at the first that fails.
func ask(lists ...[]check) (api.Errno, int) {
	for _, checks := range lists {
		for _, next := range checks {
			if e, at := next(); e != api.OK {
				return e, at
			}
		}
	}
	return api.OK, 0
}

func (c *checker) checkGrammar() (api.Errno, int) { return grammar.Check(c.grammar) }

func (c *checker) checkWell() (api.Errno, int) {
	if e, _ := trim.Well(c.grammar); e != api.OK {
		return api.ErrWell, 0
	}
	return api.OK, 0
}

func (c *checker) checkTable() (api.Errno, int) { return table.Shape(c.grammar, c.table) }

// checkEnd asks that the end marker is not shifted: there is no token of it, and it is no edge.
func (c *checker) checkEnd() (api.Errno, int) {
	for state := range c.table.Rows {
		if c.action(state, c.end()).Kind == api.ActShift {
			return api.ErrShape, state
		}
	}
	return api.OK, 0
}

func (c *checker) checkCert() (api.Errno, int) { return cert.Shape(c.grammar, c.table, c.cert) }

func (c *checker) checkNullable() (api.Errno, int) {
	return first.CheckNullable(c.grammar, c.cert.Nullable)
}

func (c *checker) checkFirst() (api.Errno, int) {
	return first.CheckFirst(c.grammar, c.cert.Nullable, c.cert.First)
}

// end is the end marker's number, the greatest of lookaheads.
func (c *checker) end() int { return len(c.grammar.Terms) }

func (c *checker) action(state, look int) api.Action { return table.Action(c.table, state, look) }

// target is where the edge from a state over a symbol leads to.
func (c *checker) target(state int, s api.Sym) int {
	if s.Kind == api.SymNon {
		return table.Goto(c.table, state, s.N)
	}
	if a := c.action(state, s.N); a.Kind == api.ActShift {
		return a.Arg
	}
	return noState
}

// startSym is the symbol that a whole text comes to.
func (c *checker) startSym() api.Sym { return api.Sym{Kind: api.SymNon, N: c.grammar.Start} }

func (c *checker) rightOf(prod int) []api.Sym {
	if prod == startProd {
		return []api.Sym{c.startSym()}
	}
	return c.grammar.Prods[prod].Right
}
