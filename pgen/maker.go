package pgen

import (
	"gantry/api"
	"gantry/bundle"
	"gantry/cert"
	"gantry/lrzero"
	"gantry/prec"
	"gantry/symbols"
	"gantry/table"
	"gantry/trim"
	"gantry/validate"
)

// maker makes a bundle of a grammar's bytes. Each of its steps builds on what the steps ahead have left in it, or gives up with an error and a place.
type maker struct {
	source    []byte
	grammar   api.Grammar
	automaton api.Automaton
	report    api.Report
	bundle    api.Bundle
	frame     []byte
}

// untilGivenUp takes one step behind the other, and answers the error of the first that gives up.
func untilGivenUp(steps ...func() (api.Errno, int)) (api.Errno, int) {
	for _, step := range steps {
		if e, at := step(); e != api.OK {
			return e, at
		}
	}
	return api.OK, 0
}

func (m *maker) read() (e api.Errno, at int) {
	m.grammar, e, at = ReadGrammar(m.source)
	return e, at
}

func (m *maker) askWell() (api.Errno, int) {
	e, s := trim.Well(m.grammar)
	if e == api.OK {
		return api.OK, 0
	}
	at, _ := symbols.Dense(len(m.grammar.Terms), s)
	return e, at
}

func (m *maker) buildAutomaton() (e api.Errno, at int) {
	m.automaton, e = lrzero.Build(m.grammar)
	return e, 0
}

func (m *maker) closeLookaheads() (e api.Errno, at int) {
	m.automaton, e = cert.Close(m.grammar, m.automaton)
	return e, 0
}

func (m *maker) buildTable() (e api.Errno, at int) {
	m.bundle.Table, m.report.Undecided, m.report.Decided, e = table.Build(m.grammar, m.automaton)
	if e != api.OK {
		return e, 0
	}
	m.report.Decisions, e, _ = prec.ResolveAll(m.grammar, m.report.Decided)
	return e, 0
}

// askConflicts gives up on decided conflicts, too: an action that precedence drops is one that the grammar asks for, so no checker would take the table.
func (m *maker) askConflicts() (api.Errno, int) {
	if n := m.conflicts(); n > 0 {
		return api.ErrReport, n
	}
	return api.OK, 0
}

func (m *maker) takeDefaults() (e api.Errno, at int) {
	m.bundle.Table, e = table.Defaults(m.grammar, m.bundle.Table)
	return e, 0
}

func (m *maker) certify() (e api.Errno, at int) {
	m.bundle.Cert, e = cert.Make(m.grammar, m.automaton, m.bundle.Table)
	return e, 0
}

func (m *maker) validate() (api.Errno, int) {
	if _, e, at := validate.Validate(m.grammar, m.bundle); e != api.OK {
		return api.ErrRefused, at
	}
	return api.OK, 0
}

func (m *maker) encode() (e api.Errno, at int) {
	m.frame, e = bundle.Encode(m.bundle)
	return e, 0
}

func (m *maker) conflicts() int {
	return len(m.report.Undecided) + len(m.report.Decided)
}
