package validate_test

import (
	"slices"
	"strconv"

	"gantry/api"
	"gantry/cert"
	"gantry/first"
	"gantry/grammar"
	"gantry/items"
	"gantry/table"
	"gantry/trim"
)

func term(n int) api.Sym { return api.Sym{Kind: api.SymTerm, N: n} }
func non(n int) api.Sym  { return api.Sym{Kind: api.SymNon, N: n} }

func syms(l ...api.Sym) []api.Sym { return l }

func prod(left int, right ...api.Sym) api.Prod {
	return api.Prod{Left: left, Right: right, Prec: -1}
}

func item(prod, dot int, look ...int) api.Item {
	return api.Item{Prod: prod, Dot: dot, Look: look}
}

func list(l ...api.Item) []api.Item { return l }

func edge(from int, s api.Sym, to int) api.Edge { return api.Edge{From: from, Sym: s, To: to} }

// to, by, accept and fault are the actions.
func to(state int) api.Action { return api.Action{Kind: api.ActShift, Arg: state} }
func by(prod int) api.Action  { return api.Action{Kind: api.ActReduce, Arg: prod} }

var accept, fault = api.Action{Kind: api.ActAccept}, api.Action{}

func acts(l ...api.Action) []api.Action { return l }

// looks is a row that looks, blind one that does not.
func looks(acts []api.Action, gotos ...int) api.Row {
	return api.Row{Default: -1, Acts: acts, Gotos: gotos}
}

func blind(prod, actions int, gotos ...int) api.Row {
	return api.Row{Default: prod, Acts: make([]api.Action, actions), Gotos: gotos}
}

// numbered are that many names: the letter, and the numbers from 0 on behind it.
func numbered(letter string, n int) []string {
	var l []string
	for i := range n {
		l = append(l, letter+strconv.Itoa(i))
	}
	return l
}

func grammarOf(terms, nons, start int, prods ...api.Prod) api.Grammar {
	return api.Grammar{Terms: numbered("t", terms), Nons: numbered("n", nons), Start: start, Prods: prods}
}

func must[T any](x T, e api.Errno) T {
	if e != api.OK {
		panic(e)
	}
	return x
}

// once is the numbers, rising, each once.
func once(l []int) []int {
	l = slices.Clone(l)
	slices.Sort(l)
	return slices.Compact(l)
}

func isWell(g api.Grammar) bool {
	e, _ := trim.Well(g)
	return e == api.OK
}

// rightOf is a production's right side; that of start's own is the start alone.
func rightOf(g api.Grammar, prod int) []api.Sym {
	if prod == -1 {
		return syms(non(g.Start))
	}
	return g.Prods[prod].Right
}

// symbolsOf are all symbols of a grammar, terminals ahead, rising.
func symbolsOf(g api.Grammar) []api.Sym {
	var l []api.Sym
	for n := range g.Terms {
		l = append(l, term(n))
	}
	for n := range g.Nons {
		l = append(l, non(n))
	}
	return l
}

// modelTarget is where a row leads to over a symbol, -1 if it does not.
func modelTarget(row api.Row, s api.Sym) int {
	switch {
	case s.Kind == api.SymNon:
		return row.Gotos[s.N]
	case row.Default == -1 && row.Acts[s.N].Kind == api.ActShift:
		return row.Acts[s.N].Arg
	}
	return -1
}

// modelEdges asks of each state over each symbol where it leads.
func modelEdges(g api.Grammar, y api.Table) []api.Edge {
	var all []api.Edge
	for from, row := range y.Rows {
		for _, s := range symbolsOf(g) {
			if n := modelTarget(row, s); n >= 0 {
				all = append(all, edge(from, s, n))
			}
		}
	}
	return all
}

// modelBelow is of a certificate that has the shape.
func modelBelow(c api.Cert, state int) []api.Sym {
	if state == 0 {
		return nil
	}
	return append(syms(c.Incoming[state]), c.PastSyms[state]...)
}

func begins(l, with []api.Sym) bool {
	for at, s := range with {
		if at >= len(l) || l[at] != s {
			return false
		}
	}
	return true
}

// hasAll tells whether the second list has each number of the first.
func hasAll(part, whole []int) bool {
	return !slices.ContainsFunc(part, func(n int) bool { return !slices.Contains(whole, n) })
}

func modelShapes(g api.Grammar, b api.Bundle) (api.Errno, int) {
	if e, at := grammar.Check(g); e != api.OK {
		return e, at
	}
	if !isWell(g) {
		return api.ErrWell, 0
	}
	if e, at := table.Shape(g, b.Table); e != api.OK {
		return e, at
	}
	for state, row := range b.Table.Rows {
		if row.Acts[len(g.Terms)].Kind == api.ActShift {
			return api.ErrShape, state
		}
	}
	if e, at := cert.Shape(g, b.Table, b.Cert); e != api.OK {
		return e, at
	}
	if e, at := first.CheckNullable(g, b.Cert.Nullable); e != api.OK {
		return e, at
	}
	return first.CheckFirst(g, b.Cert.Nullable, b.Cert.First)
}

// modelPast tells whether an edge, whose target is not 0, agrees with what is past of both its ends.
func modelPast(c api.Cert, y api.Edge) bool {
	if !begins(modelBelow(c, y.From), c.PastSyms[y.To]) || !slices.Contains(c.PastStates[y.To][0], y.From) {
		return false
	}
	for i, l := range c.PastStates[y.From] {
		if i+1 < len(c.PastStates[y.To]) && !hasAll(l, c.PastStates[y.To][i+1]) {
			return false
		}
	}
	return true
}

// modelReduces tells whether a row reduces a production.
func modelReduces(row api.Row, p int) bool {
	if row.Default != -1 {
		return row.Default == p
	}
	return slices.Contains(row.Acts, by(p))
}

// modelReduction asks of a state's reduction of a production what the chapter asks.
func modelReduction(g api.Grammar, b api.Bundle, state, p int) api.Errno {
	back := slices.Clone(g.Prods[p].Right)
	slices.Reverse(back)
	if !begins(modelBelow(b.Cert, state), back) {
		return api.ErrReduce
	}
	tops := []int{state}
	if len(back) > 0 {
		tops = b.Cert.PastStates[state][len(back)-1]
	}
	for _, top := range tops {
		if b.Table.Rows[top].Gotos[g.Prods[p].Left] == -1 {
			return api.ErrGoto
		}
	}
	return api.OK
}

// modelAccepts tells whether what a state accepts may be accepted.
func modelAccepts(g api.Grammar, b api.Bundle, state int) bool {
	row := b.Table.Rows[state]
	if slices.Contains(row.Acts[:len(g.Terms)], accept) {
		return false
	}
	if row.Acts[len(g.Terms)] != accept {
		return true
	}
	return b.Cert.Incoming[state] == non(g.Start) && hasAll(b.Cert.PastStates[state][0], []int{0})
}

func modelSound(g api.Grammar, b api.Bundle) (api.Errno, int) {
	if e, at := modelShapes(g, b); e != api.OK {
		return e, at
	}
	for _, y := range modelEdges(g, b.Table) {
		if y.To == 0 || b.Cert.Incoming[y.To] != y.Sym {
			return api.ErrIncoming, y.From
		}
		if !modelPast(b.Cert, y) {
			return api.ErrPast, y.From
		}
	}
	for state, row := range b.Table.Rows {
		for p := range g.Prods {
			if !modelReduces(row, p) {
				continue
			}
			if e := modelReduction(g, b, state, p); e != api.OK {
				return e, state
			}
		}
		if !modelAccepts(g, b, state) {
			return api.ErrAccept, state
		}
	}
	return api.OK, 0
}

// modelHas tells whether there is an item of a core with all these lookaheads.
func modelHas(l []api.Item, prod, dot int, look []int) bool {
	return slices.ContainsFunc(l, func(i api.Item) bool { return i.Prod == prod && i.Dot == dot && hasAll(look, i.Look) })
}

// modelItem asks of an item of a state what the chapter asks.
func modelItem(g api.Grammar, b api.Bundle, state int, i api.Item) api.Errno {
	row, right := b.Table.Rows[state], rightOf(g, i.Prod)
	if i.Dot == len(right) {
		want := by(i.Prod)
		if i.Prod == -1 {
			want = accept
		}
		for _, look := range i.Look {
			if row.Default != -1 && want != by(row.Default) || row.Default == -1 && want != row.Acts[look] {
				return api.ErrAction
			}
		}
		return api.OK
	}
	s := right[i.Dot]
	missing := api.ErrAction
	if s.Kind == api.SymNon {
		missing = api.ErrGoto
		ahead := must(first.Of(g, b.Cert.Nullable, b.Cert.First, right[i.Dot+1:], i.Look))
		for p := range g.Prods {
			if g.Prods[p].Left == s.N && !modelHas(b.Cert.Items[state], p, 0, ahead) {
				return api.ErrClosure
			}
		}
	}
	n := modelTarget(row, s)
	if n == -1 {
		return missing
	}
	if !modelHas(b.Cert.Items[n], i.Prod, i.Dot+1, i.Look) {
		return api.ErrClosure
	}
	return api.OK
}

func modelComplete(g api.Grammar, b api.Bundle) (api.Errno, int) {
	if e, at := modelShapes(g, b); e != api.OK {
		return e, at
	}
	if !modelHas(b.Cert.Items[0], -1, 0, []int{len(g.Terms)}) {
		return api.ErrInitial, 0
	}
	for state, l := range b.Cert.Items {
		for _, i := range l {
			if e := modelItem(g, b, state, i); e != api.OK {
				return e, state
			}
		}
	}
	return api.OK, 0
}

// modelReached is the states to which one edge or more over nullable nonterminals lead.
func modelReached(g api.Grammar, b api.Bundle, from int) []int {
	at := []int{from}
	var seen []int
	for len(at) > 0 {
		var next []int
		for _, y := range modelEdges(g, b.Table) {
			if y.Sym.Kind == api.SymNon && b.Cert.Nullable[y.Sym.N] && slices.Contains(at, y.From) && !slices.Contains(seen, y.To) {
				next, seen = append(next, y.To), append(seen, y.To)
			}
		}
		at = next
	}
	return seen
}

func modelEnds(g api.Grammar, b api.Bundle) (api.Errno, int) {
	if e, at := modelShapes(g, b); e != api.OK {
		return e, at
	}
	for state := range b.Table.Rows {
		if slices.Contains(modelReached(g, b, state), state) {
			return api.ErrLoop, state
		}
	}
	return api.OK, 0
}

// modelValidate asks all four.
func modelValidate(g api.Grammar, b api.Bundle) (api.Errno, int) {
	for _, model := range []func(api.Grammar, api.Bundle) (api.Errno, int){modelShapes, modelSound, modelComplete, modelEnds} {
		if e, at := model(g, b); e != api.OK {
			return e, at
		}
	}
	return api.OK, 0
}

// leastItems are those that a table's states must have at least: what the start brings, advanced along the edges, and closed.
func leastItems(g api.Grammar, y api.Table) [][]api.Item {
	all := make([][]api.Item, len(y.Rows))
	all[0] = must(items.Start(g))
	for again := true; again; {
		again = false
		for n := range all {
			all[n] = must(items.Closure(g, all[n]))
		}
		for _, z := range modelEdges(g, y) {
			if ahead := must(items.Goto(g, all[z.From], z.Sym)); !items.Within(ahead, all[z.To]) {
				all[z.To], again = items.Union(all[z.To], ahead), true
			}
		}
	}
	return all
}

// best is a table with the certificate that claims the least items, and of all else the most: if any other beside it is taken, it is. There is none, if nothing comes into a state, or unlike symbols.
func best(g api.Grammar, y api.Table) (api.Bundle, bool) {
	c, e := cert.Make(g, api.Automaton{States: leastItems(g, y)}, y)
	return api.Bundle{Table: y, Cert: c}, e == api.OK
}
