package cert_test

import (
	"cmp"
	"math"
	"math/rand"
	"slices"
	"strconv"

	"gantry/api"
	"gantry/canon"
	"gantry/first"
	"gantry/grammar"
	"gantry/items"
	"gantry/table"
)

func term(n int) api.Sym { return api.Sym{Kind: api.SymTerm, N: n} }
func non(n int) api.Sym  { return api.Sym{Kind: api.SymNon, N: n} }

func syms(l ...api.Sym) []api.Sym { return l }

func prod(left int, right ...api.Sym) api.Prod {
	return api.Prod{Left: left, Right: right, Prec: -1}
}

func item(prod, dot int, look ...int) api.Item {
	return api.Item{Prod: prod, Dot: dot, Look: look}
}

func list(l ...api.Item) []api.Item { return l }

func states(l ...[]api.Item) [][]api.Item { return l }

func edge(from int, s api.Sym, to int) api.Edge { return api.Edge{From: from, Sym: s, To: to} }

func edges(l ...api.Edge) []api.Edge { return l }

// to, by, accept and fault are the actions.
func to(state int) api.Action { return api.Action{Kind: api.ActShift, Arg: state} }
func by(prod int) api.Action  { return api.Action{Kind: api.ActReduce, Arg: prod} }

var accept, fault = api.Action{Kind: api.ActAccept}, api.Action{}

func acts(l ...api.Action) []api.Action { return l }

// looks is a row that looks, blind one that does not.
func looks(acts []api.Action, gotos ...int) api.Row {
	return api.Row{Default: -1, Acts: acts, Gotos: gotos}
}

func blind(prod, actions int, gotos ...int) api.Row {
	return api.Row{Default: prod, Acts: make([]api.Action, actions), Gotos: gotos}
}

// numbered are that many names: the letter, and the numbers from 0 on behind it.
func numbered(letter string, n int) []string {
	var l []string
	for i := range n {
		l = append(l, letter+strconv.Itoa(i))
	}
	return l
}

func grammarOf(terms, nons, start int, prods ...api.Prod) api.Grammar {
	return api.Grammar{Terms: numbered("t", terms), Nons: numbered("n", nons), Start: start, Prods: prods}
}

func must[T any](x T, e api.Errno) T {
	if e != api.OK {
		panic(e)
	}
	return x
}

func sure[T any](x T, e api.Errno, _ int) T { return must(x, e) }

// once is the numbers, rising, each once.
func once(l []int) []int {
	l = slices.Clone(l)
	slices.Sort(l)
	return slices.Compact(l)
}

func sameItem(a, b api.Item) bool {
	return a.Prod == b.Prod && a.Dot == b.Dot && slices.Equal(a.Look, b.Look)
}

func sameItems(a, b []api.Item) bool { return slices.EqualFunc(a, b, sameItem) }

func sameAutomaton(a, b api.Automaton) bool {
	return slices.Equal(a.Edges, b.Edges) && slices.EqualFunc(a.States, b.States, sameItems)
}

func sameLists(a, b [][]int) bool { return slices.EqualFunc(a, b, slices.Equal) }

func sameSyms(a, b [][]api.Sym) bool { return slices.EqualFunc(a, b, slices.Equal) }

func sameStates(a, b [][][]int) bool { return slices.EqualFunc(a, b, sameLists) }

func sameCert(a, b api.Cert) bool {
	return slices.Equal(a.Nullable, b.Nullable) && sameLists(a.First, b.First) && slices.EqualFunc(a.Items, b.Items, sameItems) &&
		slices.Equal(a.Incoming, b.Incoming) && sameSyms(a.PastSyms, b.PastSyms) && sameStates(a.PastStates, b.PastStates)
}

func isNothing(c api.Cert) bool { return sameCert(c, api.Cert{}) }

// rightOf is a production's right side; that of start's own is the start alone.
func rightOf(g api.Grammar, prod int) []api.Sym {
	if prod == -1 {
		return syms(non(g.Start))
	}
	return g.Prods[prod].Right
}

// symbolsOf are all symbols of a grammar, terminals ahead, rising.
func symbolsOf(g api.Grammar) []api.Sym {
	var l []api.Sym
	for n := range g.Terms {
		l = append(l, term(n))
	}
	for n := range g.Nons {
		l = append(l, non(n))
	}
	return l
}

// modelEdges asks of each state over each symbol where it leads.
func modelEdges(g api.Grammar, x api.Table) []api.Edge {
	var all []api.Edge
	for from, row := range x.Rows {
		for _, s := range symbolsOf(g) {
			switch {
			case s.Kind == api.SymNon && row.Gotos[s.N] >= 0:
				all = append(all, edge(from, s, row.Gotos[s.N]))
			case s.Kind == api.SymTerm && row.Default == -1 && row.Acts[s.N].Kind == api.ActShift:
				all = append(all, edge(from, s, row.Acts[s.N].Arg))
			}
		}
	}
	return all
}

// modelIncoming gathers all symbols of each state, and asks for just one of them.
func modelIncoming(g api.Grammar, x api.Table) ([]api.Sym, api.Errno, int) {
	if e, at := table.Shape(g, x); e != api.OK {
		return nil, e, at
	}
	var all []api.Sym
	for state := range x.Rows {
		into := map[api.Sym]bool{}
		for _, y := range modelEdges(g, x) {
			if y.To == state {
				into[y.Sym] = true
			}
		}
		if state == 0 && len(into) > 0 || state > 0 && len(into) != 1 {
			return nil, api.ErrIncoming, state
		}
		all = append(all, api.Sym{})
		for s := range into {
			all[state] = s
		}
	}
	return all, api.OK, 0
}

// back is the states from which just so many edges lead to a state, rising.
func back(l []api.Edge, state, steps int) []int {
	at := []int{state}
	for range steps {
		var before []int
		for _, x := range l {
			if slices.Contains(at, x.To) {
				before = append(before, x.From)
			}
		}
		at = once(before)
	}
	return at
}

// modelPastSyms goes back from each state step by step: as long as it does not come to state 0, and all states there have the same symbol.
func modelPastSyms(g api.Grammar, x api.Table) ([][]api.Sym, api.Errno, int) {
	incoming, e, at := modelIncoming(g, x)
	if e != api.OK {
		return nil, e, at
	}
	l := modelEdges(g, x)
	all := make([][]api.Sym, len(x.Rows))
	for state := 1; state < len(x.Rows); state++ {
		for len(all[state]) < 16 {
			there := back(l, state, len(all[state])+1)
			s := incoming[there[0]]
			if there[0] == 0 || slices.ContainsFunc(there, func(n int) bool { return incoming[n] != s }) {
				break
			}
			all[state] = append(all[state], s)
		}
	}
	return all, api.OK, 0
}

// modelPastStates goes back as far as past symbols do, and one step more.
func modelPastStates(g api.Grammar, x api.Table) ([][][]int, api.Errno, int) {
	past, e, at := modelPastSyms(g, x)
	if e != api.OK {
		return nil, e, at
	}
	l := modelEdges(g, x)
	all := make([][][]int, len(x.Rows))
	for state := 1; state < len(x.Rows); state++ {
		for n := range len(past[state]) + 1 {
			all[state] = append(all[state], back(l, state, n+1))
		}
	}
	return all, api.OK, 0
}

func modelMake(g api.Grammar, a api.Automaton, x api.Table) (api.Cert, api.Errno) {
	if e, _ := table.Shape(g, x); e != api.OK {
		return api.Cert{}, e
	}
	if len(a.States) != len(x.Rows) {
		return api.Cert{}, api.ErrCert
	}
	for _, l := range a.States {
		if e, _ := items.Check(g, l); e != api.OK {
			return api.Cert{}, api.ErrCert
		}
	}
	incoming, e, _ := modelIncoming(g, x)
	if e != api.OK {
		return api.Cert{}, e
	}
	return api.Cert{
		Nullable: must(first.Nullable(g)), First: must(first.First(g)), Items: a.States,
		Incoming: incoming, PastSyms: sure(modelPastSyms(g, x)), PastStates: sure(modelPastStates(g, x)),
	}, api.OK
}

// among tells whether all numbers are from 0 below a bound, and none stands behind one that is not below it.
func among(l []int, bound int) bool {
	for at, n := range l {
		if n < 0 || n >= bound || at > 0 && l[at-1] >= n {
			return false
		}
	}
	return true
}

// modelShape asks in the order of the chapter's words.
func modelShape(g api.Grammar, x api.Table, c api.Cert) (api.Errno, int) {
	if e, at := table.Shape(g, x); e != api.OK {
		return e, at
	}
	rows := len(x.Rows)
	if len(c.Nullable) != len(g.Nons) || len(c.First) != len(g.Nons) {
		return api.ErrCert, 0
	}
	if len(c.Items) != rows || len(c.Incoming) != rows || len(c.PastSyms) != rows || len(c.PastStates) != rows {
		return api.ErrCert, 0
	}
	for n := range g.Nons {
		if !among(c.First[n], len(g.Terms)) {
			return api.ErrCert, n
		}
	}
	for state := range rows {
		e, _ := items.Check(g, c.Items[state])
		fits := e == api.OK
		if state == 0 {
			fits = fits && c.Incoming[0] == api.Sym{} && len(c.PastSyms[0]) == 0 && len(c.PastStates[0]) == 0
		} else {
			for _, s := range append(syms(c.Incoming[state]), c.PastSyms[state]...) {
				fits = fits && slices.Contains(symbolsOf(g), s)
			}
			fits = fits && len(c.PastSyms[state]) < 17 && len(c.PastStates[state]) == len(c.PastSyms[state])+1
			for _, l := range c.PastStates[state] {
				fits = fits && among(l, rows)
			}
		}
		if !fits {
			return api.ErrCert, state
		}
	}
	return api.OK, 0
}

// modelBelow looks for a number by going over the lists.
func modelBelow(c api.Cert, state int) []api.Sym {
	for n, s := range c.Incoming {
		for k, l := range c.PastSyms {
			if n == state && k == state && state != 0 {
				return slices.Concat(syms(s), l)
			}
		}
	}
	return nil
}

// hasAll tells whether the second list has each number of the first.
func hasAll(part, whole []int) bool {
	return !slices.ContainsFunc(part, func(n int) bool { return !slices.Contains(whole, n) })
}

// modelWithin gives up at the first thing that b claims beyond a.
func modelWithin(a, b api.Cert) bool {
	if len(a.Nullable) != len(b.Nullable) || len(a.First) != len(b.First) || len(a.Items) != len(b.Items) || len(a.Incoming) != len(b.Incoming) || len(a.PastSyms) != len(b.PastSyms) || len(a.PastStates) != len(b.PastStates) {
		return false
	}
	for n, is := range a.Nullable {
		if is && !b.Nullable[n] {
			return false
		}
	}
	for n, l := range a.First {
		if !hasAll(l, b.First[n]) {
			return false
		}
	}
	for n, l := range a.Items {
		if !items.Within(l, b.Items[n]) {
			return false
		}
	}
	for n, s := range a.Incoming {
		if s != b.Incoming[n] {
			return false
		}
	}
	for n, l := range b.PastSyms {
		for at, s := range l {
			if at >= len(a.PastSyms[n]) || a.PastSyms[n][at] != s {
				return false
			}
		}
	}
	for n, lists := range b.PastStates {
		for at, l := range lists {
			if at >= len(a.PastStates[n]) || !hasAll(a.PastStates[n][at], l) {
				return false
			}
		}
	}
	return true
}

// modelClose asks all that the chapter asks of each item, round by round, till no lookahead is new.
func modelClose(g api.Grammar, a api.Automaton) (api.Automaton, api.Errno) {
	if e, _ := canon.Check(g, a); e != api.OK {
		return api.Automaton{}, e
	}
	type key struct{ state, prod, dot, look int }
	nullable, firsts := must(first.Nullable(g)), must(first.First(g))
	in := map[key]bool{{0, -1, 0, len(g.Terms)}: true}
	has := func(n int, i api.Item) []int {
		var l []int
		for look := range len(g.Terms) + 1 {
			if in[key{n, i.Prod, i.Dot, look}] {
				l = append(l, look)
			}
		}
		return l
	}
	for old := 0; old < len(in); {
		old = len(in)
		for n, state := range a.States {
			for _, i := range state {
				right := rightOf(g, i.Prod)
				if i.Dot == len(right) {
					continue
				}
				begins := must(first.Of(g, nullable, firsts, right[i.Dot+1:], has(n, i)))
				for _, j := range state {
					for _, look := range begins {
						if j.Prod >= 0 && j.Dot == 0 && right[i.Dot] == non(g.Prods[j.Prod].Left) {
							in[key{n, j.Prod, 0, look}] = true
						}
					}
				}
				for _, x := range a.Edges {
					for _, look := range has(n, i) {
						if x.From == n && x.Sym == right[i.Dot] {
							in[key{x.To, i.Prod, i.Dot + 1, look}] = true
						}
					}
				}
			}
		}
	}
	all := api.Automaton{Edges: a.Edges}
	for n, state := range a.States {
		var l []api.Item
		for _, i := range state {
			l = append(l, item(i.Prod, i.Dot, has(n, i)...))
		}
		all.States = append(all.States, l)
	}
	return all, api.OK
}

func pick[T any](r *rand.Rand, l []T) T { return l[r.Intn(len(l))] }

// anySyms are symbols of a grammar, nonterminals more often.
func anySyms(r *rand.Rand, g api.Grammar, most int) []api.Sym {
	var l []api.Sym
	for range r.Intn(most + 1) {
		if n := r.Intn(len(g.Terms) + 2*len(g.Nons)); n < len(g.Terms) {
			l = append(l, term(n))
		} else {
			l = append(l, non(r.Intn(len(g.Nons))))
		}
	}
	return l
}

// anyGrammar has at most so many of each, and no production twice.
func anyGrammar(r *rand.Rand, terms, nons, prods, right int) api.Grammar {
	g := grammarOf(1+r.Intn(terms), 1+r.Intn(nons), 0)
	g.Start = r.Intn(len(g.Nons))
	for range 1 + r.Intn(prods) {
		p := prod(r.Intn(len(g.Nons)), anySyms(r, g, right)...)
		if !slices.ContainsFunc(g.Prods, func(q api.Prod) bool { return q.Left == p.Left && slices.Equal(q.Right, p.Right) }) {
			g.Prods = append(g.Prods, p)
		}
	}
	return g
}

// eachSmall goes over every grammar of one terminal, two nonterminals and at most three short productions.
func eachSmall(do func(api.Grammar)) {
	all := []api.Prod{prod(0), prod(1)}
	two := symbolsOf(grammarOf(1, 2, 0))
	for _, a := range two {
		all = append(all, prod(0, a), prod(1, a))
		for _, b := range two {
			all = append(all, prod(0, a, b), prod(1, a, b))
		}
	}
	for start := range 2 {
		for i := range all {
			do(grammarOf(1, 2, start, all[i]))
			for j := range i {
				do(grammarOf(1, 2, start, all[i], all[j]))
				for k := range j {
					do(grammarOf(1, 2, start, all[i], all[j], all[k]))
				}
			}
		}
	}
}

// odd are numbers that are out of most ranges.
func odd(r *rand.Rand, size int) int {
	return pick(r, []int{-2, -1, 0, size, size + 1, math.MinInt, math.MaxInt})
}

// put lets an edge leave a state of a table; whatever was there is gone.
func put(x api.Table, y api.Edge) {
	if row := x.Rows[y.From]; y.Sym.Kind == api.SymTerm {
		row.Acts[y.Sym.N] = to(y.To)
	} else {
		row.Gotos[y.Sym.N] = y.To
	}
}

func target(x api.Table, from int, s api.Sym) int {
	if s.Kind == api.SymNon {
		return table.Goto(x, from, s.N)
	}
	if c := table.Action(x, from, s.N); c.Kind == api.ActShift {
		return c.Arg
	}
	return -1
}

// bare is a table of so many rows without edges: reductions, acceptance and shifts under the end marker are none.
func bare(r *rand.Rand, g api.Grammar, rows int) api.Table {
	var x api.Table
	for range rows {
		row := looks(make([]api.Action, len(g.Terms)+1), slices.Repeat([]int{-1}, len(g.Nons))...)
		for n := range row.Acts {
			if r.Intn(3) == 0 {
				row.Acts[n] = by(r.Intn(len(g.Prods)))
			}
		}
		row.Acts[len(g.Terms)] = pick(r, acts(fault, accept, to(r.Intn(rows))))
		x.Rows = append(x.Rows, row)
	}
	return x
}

// anyWeb is a table most of whose states have one symbol that comes in, often in long chains, loops that are not reached from state 0 among them.
func anyWeb(r *rand.Rand, g api.Grammar, most int) api.Table {
	rows := 1 + r.Intn(most)
	x := bare(r, g, rows)
	for q := 1; q < rows; q++ {
		s := pick(r, symbolsOf(g))
		for range 1 + r.Intn(3)/2 {
			from := pick(r, []int{q - 1, q - 1, q - 1, q - 1, q, r.Intn(rows)})
			if target(x, from, s) < 0 {
				put(x, edge(from, s, q))
			}
		}
	}
	if r.Intn(2) == 0 { // more edges into what is there, over the same symbols
		for _, y := range modelEdges(g, x) {
			if from := r.Intn(rows); target(x, from, y.Sym) < 0 {
				put(x, edge(from, y.Sym, y.To))
			}
		}
	}
	return x
}

// turnedTable is a table with something changed.
func turnedTable(r *rand.Rand, g api.Grammar, x api.Table) api.Table {
	state := r.Intn(len(x.Rows))
	row := &x.Rows[state]
	switch r.Intn(6) {
	case 0:
		put(x, edge(state, pick(r, symbolsOf(g)), r.Intn(len(x.Rows))))
	case 1:
		put(x, edge(state, pick(r, symbolsOf(g)), odd(r, len(x.Rows))))
	case 2:
		row.Acts = make([]api.Action, r.Intn(len(g.Terms)+3))
	case 3:
		*row = blind(r.Intn(len(g.Prods)), len(g.Terms)+1, row.Gotos...)
	case 4:
		row.Default = odd(r, len(g.Prods))
	case 5:
		row.Gotos = slices.Repeat([]int{-1}, len(g.Nons))
	}
	return x
}

// anyItems is a list that may be.
func anyItems(r *rand.Rand, g api.Grammar, most int) []api.Item {
	var l []api.Item
	for range r.Intn(most + 1) {
		p := r.Intn(len(g.Prods)+1) - 1
		l = append(l, item(p, r.Intn(len(rightOf(g, p))+1), anyNumbers(r, len(g.Terms)+1, 2)...))
	}
	return must(items.Normal(g, l))
}

// anyNumbers are at most so many numbers below a bound, rising.
func anyNumbers(r *rand.Rand, bound, most int) []int {
	var l []int
	for range r.Intn(most + 1) {
		l = append(l, r.Intn(bound))
	}
	return once(l)
}

// anyAutomaton is one that may be, of items that have nothing to do with each other.
func anyAutomaton(r *rand.Rand, g api.Grammar, most, items int) api.Automaton {
	var a api.Automaton
	for range 1 + r.Intn(most) {
		a.States = append(a.States, anyItems(r, g, items))
	}
	for from := range a.States {
		for _, s := range symbolsOf(g) {
			if r.Intn(3) > 0 {
				a.Edges = append(a.Edges, edge(from, s, r.Intn(len(a.States))))
			}
		}
	}
	return a
}

func compareCores(a, b api.Item) int {
	return cmp.Or(cmp.Compare(a.Prod, b.Prod), cmp.Compare(a.Dot, b.Dot))
}

// turnedAutomaton is an automaton with something changed; it may be still, or not.
func turnedAutomaton(r *rand.Rand, g api.Grammar, a api.Automaton) api.Automaton {
	a = deep(a)
	if len(a.Edges) == 0 {
		return a
	}
	state, at := r.Intn(len(a.States)), r.Intn(len(a.Edges))
	l := &a.States[state]
	switch r.Intn(9) {
	case 0, 1:
		*l = items.Union(*l, anyItems(r, g, 3))
	case 2:
		*l = slices.DeleteFunc(*l, func(api.Item) bool { return r.Intn(3) == 0 })
	case 3:
		a.Edges = slices.Delete(a.Edges, at, at+1)
	case 4:
		a.Edges[at].To = r.Intn(len(a.States))
	case 5:
		for i := range *l {
			(*l)[i].Look = anyNumbers(r, len(g.Terms)+1, 4)
		}
	case 6:
		*l = append(*l, item(odd(r, len(g.Prods)), odd(r, 3), odd(r, len(g.Terms))))
	case 7:
		a.Edges[at] = edge(odd(r, len(a.States)), pick(r, append(symbolsOf(g), term(len(g.Terms)))), odd(r, len(a.States)))
	case 8:
		a.Edges = append(a.Edges, a.Edges[at])
	}
	return a
}

func deep(a api.Automaton) api.Automaton {
	a.States, a.Edges = deepItems(a.States), slices.Clone(a.Edges)
	return a
}

func deepItems(l [][]api.Item) [][]api.Item {
	l = slices.Clone(l)
	for n := range l {
		l[n] = slices.Clone(l[n])
		for i := range l[n] {
			l[n][i].Look = slices.Clone(l[n][i].Look)
		}
	}
	return l
}

func deepLists(l [][]int) [][]int {
	l = slices.Clone(l)
	for n := range l {
		l[n] = slices.Clone(l[n])
	}
	return l
}

func deepCert(c api.Cert) api.Cert {
	c.Nullable, c.First, c.Items, c.Incoming = slices.Clone(c.Nullable), deepLists(c.First), deepItems(c.Items), slices.Clone(c.Incoming)
	c.PastSyms, c.PastStates = slices.Clone(c.PastSyms), slices.Clone(c.PastStates)
	for n := range c.PastSyms {
		c.PastSyms[n] = slices.Clone(c.PastSyms[n])
	}
	for n := range c.PastStates {
		c.PastStates[n] = deepLists(c.PastStates[n])
	}
	return c
}

// turnedCert is a certificate with something changed.
func turnedCert(r *rand.Rand, g api.Grammar, c api.Cert) api.Cert {
	c = deepCert(c)
	rows := min(len(c.Items), len(c.Incoming), len(c.PastSyms), len(c.PastStates))
	if rows == 0 || len(c.First) == 0 || len(c.Nullable) == 0 {
		return c
	}
	state, n := r.Intn(rows), r.Intn(min(len(c.First), len(c.Nullable)))
	strange := pick(r, append(symbolsOf(g), api.Sym{}, term(len(g.Terms)), non(len(g.Nons)), api.Sym{Kind: 3}, term(-1)))
	switch r.Intn(14) {
	case 0:
		c.Nullable[n] = !c.Nullable[n]
	case 1:
		c.First[n] = pick(r, [][]int{nil, {0}, {0, 0}, {len(g.Terms)}, {-1}, {1, 0}, append(slices.Clone(c.First[n]), odd(r, 2))})
	case 2:
		c.Items[state] = items.Union(c.Items[state], anyItems(r, g, 3))
	case 3:
		c.Items[state] = append(c.Items[state], item(odd(r, len(g.Prods)), odd(r, 2), odd(r, len(g.Terms))))
	case 4:
		c.Items[state] = c.Items[state][:r.Intn(len(c.Items[state])+1)]
	case 5:
		c.Incoming[state] = strange
	case 6:
		c.PastSyms[state] = append(c.PastSyms[state], strange)
	case 7:
		c.PastSyms[state] = c.PastSyms[state][:r.Intn(len(c.PastSyms[state])+1)]
		c.PastStates[state] = c.PastStates[state][:min(len(c.PastSyms[state])+1, len(c.PastStates[state]))]
	case 8:
		c.PastStates[state] = append(c.PastStates[state], anyNumbers(r, rows, 3))
	case 9:
		c.PastSyms[state] = append(c.PastSyms[state], pick(r, symbolsOf(g)))
		c.PastStates[state] = append(c.PastStates[state], anyNumbers(r, rows, 3))
	case 10, 11:
		if l := c.PastStates[state]; len(l) > 0 {
			at := r.Intn(len(l))
			l[at] = pick(r, [][]int{nil, anyNumbers(r, rows, rows), once(append(anyNumbers(r, rows, rows), l[at]...)), append(slices.Clone(l[at]), l[at]...), {odd(r, rows)}})
		}
	case 12:
		c.PastStates = append(c.PastStates, nil)
	case 13:
		c.Nullable = append(c.Nullable, false)
	}
	return c
}

// wellEnough tells of a grammar that someone's bytes made whether it may be.
func wellEnough(g api.Grammar) bool {
	e, _ := grammar.Check(g)
	return e == api.OK
}
