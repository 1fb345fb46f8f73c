package interp_test

import (
	"slices"
	"strconv"

	"gantry/api"
	"gantry/trim"
)

func term(n int) api.Sym { return api.Sym{Kind: api.SymTerm, N: n} }
func non(n int) api.Sym  { return api.Sym{Kind: api.SymNon, N: n} }

func prod(left int, right ...api.Sym) api.Prod {
	return api.Prod{Left: left, Right: right, Prec: -1}
}

// to, by, accept and fault are the actions.
func to(state int) api.Action { return api.Action{Kind: api.ActShift, Arg: state} }
func by(prod int) api.Action  { return api.Action{Kind: api.ActReduce, Arg: prod} }

var accept, fault = api.Action{Kind: api.ActAccept}, api.Action{}

func acts(l ...api.Action) []api.Action { return l }

// looks is a row that looks, blind one that does not.
func looks(acts []api.Action, gotos ...int) api.Row {
	return api.Row{Default: -1, Acts: acts, Gotos: gotos}
}

func blind(prod, actions int, gotos ...int) api.Row {
	return api.Row{Default: prod, Acts: make([]api.Action, actions), Gotos: gotos}
}

func rows(l ...api.Row) api.Table { return api.Table{Rows: l} }

// numbered are that many names: the letter, and the numbers from 0 on behind it.
func numbered(letter string, n int) []string {
	var l []string
	for i := range n {
		l = append(l, letter+strconv.Itoa(i))
	}
	return l
}

func grammarOf(terms, nons, start int, prods ...api.Prod) api.Grammar {
	return api.Grammar{Terms: numbered("t", terms), Nons: numbered("n", nons), Start: start, Prods: prods}
}

func must[T any](x T, e api.Errno) T {
	if e != api.OK {
		panic(e)
	}
	return x
}

func isWell(g api.Grammar) bool {
	e, _ := trim.Well(g)
	return e == api.OK
}

// symbolsOf are all symbols of a grammar, terminals ahead, rising.
func symbolsOf(g api.Grammar) []api.Sym {
	var l []api.Sym
	for n := range g.Terms {
		l = append(l, term(n))
	}
	for n := range g.Nons {
		l = append(l, non(n))
	}
	return l
}

// kindsOf are a grammar's terminals.
func kindsOf(g api.Grammar) []int {
	var l []int
	for n := range g.Terms {
		l = append(l, n)
	}
	return l
}

// textOf is a text of these kinds, each token with a payload of its own.
func textOf(kinds ...int) []api.Token {
	var w []api.Token
	for at, k := range kinds {
		w = append(w, api.Token{Kind: k, Text: "at " + strconv.Itoa(at)})
	}
	return w
}

// eachText goes over all lists of at most so many of these kinds.
func eachText(kinds []int, most int, do func(w []int)) {
	level := [][]int{nil}
	for length := range most + 1 {
		var next [][]int
		for _, w := range level {
			do(w)
			if length < most {
				for _, k := range kinds {
					next = append(next, append(slices.Clone(w), k))
				}
			}
		}
		level = next
	}
}

// item of a model's stack.
type item struct {
	state int
	sym   api.Sym
	tree  api.Tree
}

// model is a run that is told step by step as the chapter's words say it, with what it met.
type model struct {
	g          api.Grammar
	y          api.Table
	w          []api.Token
	stack      []item
	shifts     int
	reductions int
	result     api.Result
	over       bool
	stuck      bool
	highest    int // the most entries over the bottom
}

func modelOf(g api.Grammar, y api.Table, w []api.Token) *model {
	return &model{g: g, y: y, w: w, stack: []item{{}}}
}

// action is what the top state does.
func (m *model) action() (api.Action, int) {
	row := m.y.Rows[m.stack[len(m.stack)-1].state]
	look := len(m.g.Terms)
	if m.shifts < len(m.w) {
		look = m.w[m.shifts].Kind
	}
	switch {
	case row.Default != -1:
		return by(row.Default), look
	case m.shifts < len(m.w) && (look < 0 || look >= len(m.g.Terms)):
		return fault, look
	}
	return row.Acts[look], look
}

func (m *model) step() {
	m.result.Steps++
	top := m.stack[len(m.stack)-1]
	a, look := m.action()
	switch {
	case a.Kind == api.ActError:
		m.over = true
		m.result.At = m.shifts
	case a.Kind == api.ActAccept:
		m.over = true
		m.stuck = len(m.stack) != 2 || top.sym != non(m.g.Start)
		m.result.Accepted, m.result.Tree = true, top.tree
	case a.Kind == api.ActShift && look == len(m.g.Terms):
		m.over, m.stuck = true, true
	case a.Kind == api.ActShift:
		m.stack = append(m.stack, item{a.Arg, term(look), api.Tree{Prod: -1, Tok: m.w[m.shifts]}})
		m.shifts++
	default:
		m.reduce(a.Arg)
	}
	m.highest = max(m.highest, len(m.stack)-1)
}

func (m *model) reduce(p int) {
	right, left := m.g.Prods[p].Right, m.g.Prods[p].Left
	at := len(m.stack) - len(right)
	if at < 1 {
		m.over, m.stuck = true, true
		return
	}
	t := api.Tree{Prod: p}
	for n, i := range m.stack[at:] {
		if i.sym != right[n] {
			m.over, m.stuck = true, true
			return
		}
		t.Kids = append(t.Kids, i.tree)
	}
	m.result.Pops += len(right)
	m.reductions++
	state := m.y.Rows[m.stack[at-1].state].Gotos[left]
	if state == -1 {
		m.over, m.stuck = true, true
		return
	}
	m.stack = append(m.stack[:at], item{state, non(left), t})
}

// ran is a model after at most so many steps, and what Run answers.
func ran(g api.Grammar, y api.Table, w []api.Token, most int) (*model, api.Errno) {
	m := modelOf(g, y, w)
	for !m.over && m.result.Steps < most {
		m.step()
	}
	switch {
	case m.stuck:
		return m, api.ErrInternal
	case !m.over:
		return m, api.ErrMany
	}
	return m, api.OK
}

// settled is a model that has shifted all of its text, or is over.
func settled(g api.Grammar, y api.Table, w []api.Token) *model {
	m := modelOf(g, y, w)
	for !m.over && m.shifts < len(w) {
		m.step()
	}
	return m
}

func (m *model) states() []int {
	var l []int
	for _, i := range m.stack {
		l = append(l, i.state)
	}
	return l
}

// wouldGo are the lookaheads under which one gets further behind a text: each is tried from the beginning on.
func wouldGo(g api.Grammar, y api.Table, w []api.Token) []int {
	var l []int
	if settled(g, y, w).over {
		return nil
	}
	for look := range g.Terms {
		if m := settled(g, y, append(slices.Clone(w), api.Token{Kind: look})); m.shifts == len(w)+1 {
			l = append(l, look)
		}
	}
	m := settled(g, y, w)
	for !m.over {
		m.step()
	}
	if m.result.Accepted {
		l = append(l, len(g.Terms))
	}
	return l
}
