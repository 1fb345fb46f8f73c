package table_test

import (
	"math"
	"math/rand"
	"slices"
	"strconv"

	"gantry/api"
	"gantry/grammar"
	"gantry/prec"
)

func term(n int) api.Sym { return api.Sym{Kind: api.SymTerm, N: n} }
func non(n int) api.Sym  { return api.Sym{Kind: api.SymNon, N: n} }

func syms(l ...api.Sym) []api.Sym { return l }

func prod(left int, right ...api.Sym) api.Prod {
	return api.Prod{Left: left, Right: right, Prec: -1}
}

func item(prod, dot int, look ...int) api.Item {
	return api.Item{Prod: prod, Dot: dot, Look: look}
}

func list(l ...api.Item) []api.Item { return l }

func states(l ...[]api.Item) [][]api.Item { return l }

func edge(from int, s api.Sym, to int) api.Edge { return api.Edge{From: from, Sym: s, To: to} }

func edges(l ...api.Edge) []api.Edge { return l }

func level(a api.Assoc, terms ...int) api.Level { return api.Level{Assoc: a, Terms: terms} }

func left(terms ...int) api.Level    { return level(api.AssocLeft, terms...) }
func right(terms ...int) api.Level   { return level(api.AssocRight, terms...) }
func neither(terms ...int) api.Level { return level(api.AssocNone, terms...) }

// to, by, accept and fault are the actions.
func to(state int) api.Action { return api.Action{Kind: api.ActShift, Arg: state} }
func by(prod int) api.Action  { return api.Action{Kind: api.ActReduce, Arg: prod} }

var accept, fault = api.Action{Kind: api.ActAccept}, api.Action{}

func acts(l ...api.Action) []api.Action { return l }

// looks is a row that looks, blind one that does not.
func looks(acts []api.Action, gotos ...int) api.Row {
	return api.Row{Default: -1, Acts: acts, Gotos: gotos}
}

func blind(prod, actions int, gotos ...int) api.Row {
	return api.Row{Default: prod, Acts: make([]api.Action, actions), Gotos: gotos}
}

func clash(state, look, shift int, reduce ...int) api.Conflict {
	return api.Conflict{State: state, Look: look, Shift: shift, Reduce: reduce}
}

// numbered are that many names: the letter, and the numbers from 0 on behind it.
func numbered(letter string, n int) []string {
	var l []string
	for i := range n {
		l = append(l, letter+strconv.Itoa(i))
	}
	return l
}

func grammarOf(terms, nons, start int, prods ...api.Prod) api.Grammar {
	return api.Grammar{Terms: numbered("t", terms), Nons: numbered("n", nons), Start: start, Prods: prods}
}

func must[T any](x T, e api.Errno) T {
	if e != api.OK {
		panic(e)
	}
	return x
}

func sameRow(a, b api.Row) bool {
	return a.Default == b.Default && slices.Equal(a.Acts, b.Acts) && slices.Equal(a.Gotos, b.Gotos)
}

func same(a, b api.Table) bool { return slices.EqualFunc(a.Rows, b.Rows, sameRow) }

func sameConflicts(a, b []api.Conflict) bool {
	return slices.EqualFunc(a, b, func(x, y api.Conflict) bool {
		return x.State == y.State && x.Look == y.Look && x.Shift == y.Shift && slices.Equal(x.Reduce, y.Reduce)
	})
}

// rightOf is a production's right side; that of start's own is the start alone.
func rightOf(g api.Grammar, prod int) []api.Sym {
	if prod == -1 {
		return syms(non(g.Start))
	}
	return g.Prods[prod].Right
}

// symbolsOf are all symbols of a grammar, terminals ahead, rising.
func symbolsOf(g api.Grammar) []api.Sym {
	var l []api.Sym
	for n := range g.Terms {
		l = append(l, term(n))
	}
	for n := range g.Nons {
		l = append(l, non(n))
	}
	return l
}

// modelFault asks in the order of the chapter's words.
func modelFault(g api.Grammar, a api.Automaton) api.Errno {
	if e, _ := grammar.Check(g); e != api.OK {
		return e
	}
	if len(a.States) < 1 || len(a.States) > 2048 {
		return api.ErrStates
	}
	for _, i := range slices.Concat(a.States...) {
		if i.Prod < -1 || i.Prod > len(g.Prods)-1 || i.Dot < 0 || i.Dot > len(rightOf(g, i.Prod)) {
			return api.ErrItem
		}
		for _, look := range i.Look {
			if look < 0 || look > len(g.Terms) {
				return api.ErrItem
			}
		}
	}
	for _, x := range a.Edges {
		if !slices.Contains(symbolsOf(g), x.Sym) || min(x.From, x.To) < 0 || max(x.From, x.To) > len(a.States)-1 {
			return api.ErrSymbol
		}
	}
	for at, x := range a.Edges {
		for _, y := range a.Edges[:at] {
			if x.From == y.From && x.Sym == y.Sym {
				return api.ErrTwice
			}
		}
	}
	return api.OK
}

// modelTarget goes over all edges.
func modelTarget(a api.Automaton, state int, s api.Sym) int {
	for _, x := range a.Edges {
		if x.From == state && x.Sym == s {
			return x.To
		}
	}
	return -1
}

// modelWant asks of each production, rising, whether its end stands in the state.
func modelWant(g api.Grammar, a api.Automaton, state, look int) api.Conflict {
	c := clash(state, look, -1)
	if look < len(g.Terms) {
		c.Shift = modelTarget(a, state, term(look))
	}
	for p := -1; p < len(g.Prods); p++ {
		if slices.ContainsFunc(a.States[state], func(i api.Item) bool {
			return i.Prod == p && i.Dot == len(rightOf(g, p)) && slices.Contains(i.Look, look)
		}) {
			c.Reduce = append(c.Reduce, p)
		}
	}
	return c
}

// modelThings is all that a state wants under a lookahead, as actions: the shift, acceptance, reductions, in the order in which they are taken where nothing else decides.
func modelThings(want api.Conflict) []api.Action {
	var l []api.Action
	if want.Shift != -1 {
		l = append(l, to(want.Shift))
	}
	for _, p := range want.Reduce {
		if p == -1 {
			l = append(l, accept)
		} else {
			l = append(l, by(p))
		}
	}
	return l
}

// modelConflicts asks each state under each lookahead.
func modelConflicts(g api.Grammar, a api.Automaton) ([]api.Conflict, api.Errno) {
	if e := modelFault(g, a); e != api.OK {
		return nil, e
	}
	var all []api.Conflict
	for state := range a.States {
		for look := range len(g.Terms) + 1 {
			if want := modelWant(g, a, state, look); len(modelThings(want)) > 1 {
				all = append(all, want)
			}
		}
	}
	return all, api.OK
}

// built is all that Build answers.
type built struct {
	table              api.Table
	undecided, decided []api.Conflict
	err                api.Errno
}

func sameBuilt(a, b built) bool {
	return same(a.table, b.table) && sameConflicts(a.undecided, b.undecided) && sameConflicts(a.decided, b.decided) && a.err == b.err
}

// modelBuild lets precedence drop what it drops of each conflict's things, and takes the first that is left.
func modelBuild(g api.Grammar, a api.Automaton) built {
	if e := modelFault(g, a); e != api.OK {
		return built{err: e}
	}
	var b built
	for state := range a.States {
		row := looks(nil)
		for look := range len(g.Terms) + 1 {
			want := modelWant(g, a, state, look)
			things := modelThings(want)
			if len(things) > 1 {
				d := must(prec.Resolve(g, want))
				if d.Kind == api.DecideNone {
					b.undecided = append(b.undecided, want)
				} else {
					b.decided = append(b.decided, want)
				}
				things = slices.DeleteFunc(things, func(x api.Action) bool {
					return x.Kind == api.ActShift && d.ShiftDropped || x.Kind == api.ActReduce && slices.Contains(d.Dropped, x.Arg)
				})
			}
			row.Acts = append(row.Acts, append(things, fault)[0])
		}
		for n := range g.Nons {
			row.Gotos = append(row.Gotos, modelTarget(a, state, non(n)))
		}
		b.table.Rows = append(b.table.Rows, row)
	}
	return b
}

// modelShape asks in the order of the chapter's words.
func modelShape(g api.Grammar, t api.Table) (api.Errno, int) {
	if e, _ := grammar.Check(g); e != api.OK {
		return e, 0
	}
	if len(t.Rows) == 0 || len(t.Rows) >= 2049 {
		return api.ErrStates, 0
	}
	for n, row := range t.Rows {
		if len(row.Acts)-1 != len(g.Terms) || len(row.Gotos) != len(g.Nons) {
			return api.ErrShape, n
		}
		top := map[api.ActKind]int{api.ActError: 1, api.ActShift: len(t.Rows), api.ActReduce: len(g.Prods), api.ActAccept: 1}
		fits := row.Default >= -1 && row.Default < len(g.Prods)
		busy := false
		for _, x := range row.Acts {
			fits = fits && x.Arg >= 0 && x.Arg < top[x.Kind]
			busy = busy || x.Kind != api.ActError
		}
		for _, state := range row.Gotos {
			fits = fits && state >= -1 && state < len(t.Rows)
		}
		if !fits {
			return api.ErrRange, n
		}
		if row.Default != -1 && busy {
			return api.ErrAction, n
		}
	}
	return api.OK, 0
}

// modelDefaults gathers what each row does at all.
func modelDefaults(g api.Grammar, t api.Table) (api.Table, api.Errno) {
	if e, _ := modelShape(g, t); e != api.OK {
		return api.Table{}, e
	}
	var all api.Table
	for _, row := range t.Rows {
		done := map[api.Action]bool{}
		for _, x := range row.Acts {
			done[x] = true
		}
		delete(done, fault)
		for x := range done {
			if row.Default == -1 && len(done) == 1 && x.Kind == api.ActReduce {
				row = blind(x.Arg, len(row.Acts), row.Gotos...)
			}
		}
		all.Rows = append(all.Rows, row)
	}
	return all, api.OK
}

// modelAction and modelGoto look for a number by going over the lists.
func modelAction(t api.Table, state, look int) api.Action {
	for n, row := range t.Rows {
		if n == state && row.Default != -1 {
			return by(row.Default)
		}
		for k, x := range row.Acts {
			if n == state && k == look {
				return x
			}
		}
	}
	return fault
}

func modelGoto(t api.Table, state, non int) int {
	for n, row := range t.Rows {
		for k, behind := range row.Gotos {
			if n == state && k == non {
				return behind
			}
		}
	}
	return -1
}

func pick[T any](r *rand.Rand, l []T) T { return l[r.Intn(len(l))] }

// anySyms are symbols of a grammar, nonterminals more often.
func anySyms(r *rand.Rand, g api.Grammar, most int) []api.Sym {
	var l []api.Sym
	for range r.Intn(most + 1) {
		if n := r.Intn(len(g.Terms) + 2*len(g.Nons)); n < len(g.Terms) {
			l = append(l, term(n))
		} else {
			l = append(l, non(r.Intn(len(g.Nons))))
		}
	}
	return l
}

// anyLevels puts terminals into levels, most of them into one.
func anyLevels(r *rand.Rand, terms int) []api.Level {
	var levels []api.Level
	order := r.Perm(terms)
	for at := r.Intn(2); at < terms; {
		n := min(1+r.Intn(3), terms-at)
		l := slices.Clone(order[at : at+n])
		slices.Sort(l)
		levels = append(levels, level(api.Assoc(1+r.Intn(3)), l...))
		at += n
	}
	return levels
}

// anyGrammar has at most so many of each, no production twice, and levels.
func anyGrammar(r *rand.Rand, terms, nons, prods, right int) api.Grammar {
	g := grammarOf(1+r.Intn(terms), 1+r.Intn(nons), 0)
	g.Start = r.Intn(len(g.Nons))
	g.Levels = anyLevels(r, len(g.Terms))
	for range 1 + r.Intn(prods) {
		p := prod(r.Intn(len(g.Nons)), anySyms(r, g, right)...)
		if r.Intn(4) == 0 {
			p.Prec = r.Intn(len(g.Terms))
		}
		if !slices.ContainsFunc(g.Prods, func(q api.Prod) bool { return q.Left == p.Left && slices.Equal(q.Right, p.Right) }) {
			g.Prods = append(g.Prods, p)
		}
	}
	return g
}

// eachSmall goes over every grammar of one terminal, two nonterminals and at most three short productions.
func eachSmall(do func(api.Grammar)) {
	all := []api.Prod{prod(0), prod(1)}
	two := symbolsOf(grammarOf(1, 2, 0))
	for _, a := range two {
		all = append(all, prod(0, a), prod(1, a))
		for _, b := range two {
			all = append(all, prod(0, a, b), prod(1, a, b))
		}
	}
	for start := range 2 {
		for i := range all {
			do(grammarOf(1, 2, start, all[i]))
			for j := range i {
				do(grammarOf(1, 2, start, all[i], all[j]))
				for k := range j {
					do(grammarOf(1, 2, start, all[i], all[j], all[k]))
				}
			}
		}
	}
}

// subsets are all lists of those numbers that keep their order.
func subsets(l []int) [][]int {
	all := [][]int{nil}
	for _, n := range l {
		for _, s := range slices.Clone(all) {
			all = append(all, append(slices.Clone(s), n))
		}
	}
	return all
}

// eachLevels goes over all lists of levels of terminals 0 to n - 1, some of them left out.
func eachLevels(n int, do func([]api.Level)) {
	var all []int
	for t := range n {
		all = append(all, t)
	}
	var add func(levels []api.Level, free []int)
	add = func(levels []api.Level, free []int) {
		do(levels)
		for _, terms := range subsets(free)[1:] {
			others := slices.DeleteFunc(slices.Clone(free), func(t int) bool { return slices.Contains(terms, t) })
			for a := api.AssocLeft; a <= api.AssocNone; a++ {
				add(append(slices.Clip(levels), level(a, terms...)), others)
			}
		}
	}
	add(nil, all)
}

func deep(a api.Automaton) api.Automaton {
	a.States, a.Edges = slices.Clone(a.States), slices.Clone(a.Edges)
	for n := range a.States {
		a.States[n] = slices.Clone(a.States[n])
		for i := range a.States[n] {
			a.States[n][i].Look = slices.Clone(a.States[n][i].Look)
		}
	}
	return a
}

// odd are numbers that are out of most ranges.
func odd(r *rand.Rand, size int) int {
	return pick(r, []int{-2, -1, 0, size, size + 1, math.MinInt, math.MaxInt})
}

// turn changes one thing of an automaton that has states; all changes but the last five leave it one of which a table is made.
func turn(r *rand.Rand, g api.Grammar, a *api.Automaton) {
	state, end := r.Intn(len(a.States)), len(g.Terms)
	p := r.Intn(len(g.Prods)+1) - 1
	l := &a.States[state]
	switch r.Intn(13) {
	case 0:
		r.Shuffle(len(*l), func(i, j int) { (*l)[i], (*l)[j] = (*l)[j], (*l)[i] })
	case 1:
		r.Shuffle(len(a.Edges), func(i, j int) { a.Edges[i], a.Edges[j] = a.Edges[j], a.Edges[i] })
	case 2, 3:
		*l = append(*l, item(p, len(rightOf(g, p)), r.Intn(end+1), r.Intn(end+1)))
	case 4:
		for i := range *l {
			(*l)[i].Look = append(append([]int{r.Intn(end + 1)}, (*l)[i].Look...), (*l)[i].Look...)
		}
	case 5:
		if len(*l) > 0 {
			*l = append(slices.Delete(*l, 0, 1), pick(r, *l))
		}
	case 6:
		if len(a.Edges) > 0 {
			at := r.Intn(len(a.Edges))
			a.Edges = slices.Delete(a.Edges, at, at+1)
		}
	case 7:
		if s := pick(r, symbolsOf(g)); modelTarget(*a, state, s) < 0 {
			a.Edges = append(edges(edge(state, s, r.Intn(len(a.States)))), a.Edges...)
		}
	case 8:
		*l = append(*l, item(odd(r, len(g.Prods)), 0))
	case 9:
		*l = append(*l, item(p, odd(r, len(rightOf(g, p))), odd(r, end)))
	case 10:
		s := pick(r, append(syms(term(end), non(len(g.Nons)), api.Sym{}, api.Sym{Kind: 3}), symbolsOf(g)...))
		a.Edges = append(a.Edges, edge(state, s, odd(r, len(a.States))))
	case 11:
		a.Edges = append(a.Edges, edge(odd(r, len(a.States)), pick(r, symbolsOf(g)), state))
	case 12:
		if len(a.Edges) > 0 {
			a.Edges = append(a.Edges, pick(r, a.Edges))
		}
	}
}

// turned is an automaton with some things changed.
func turned(r *rand.Rand, g api.Grammar, a api.Automaton) api.Automaton {
	a = deep(a)
	for range r.Intn(4) {
		turn(r, g, &a)
	}
	return a
}

// anyAction is one of a table of so many rows, rarely another one.
func anyAction(r *rand.Rand, g api.Grammar, rows int) api.Action {
	switch r.Intn(40) {
	case 0:
		return api.Action{Kind: api.ActKind(r.Intn(7) - 2), Arg: odd(r, max(rows, len(g.Prods)))}
	case 1, 2, 3:
		return to(r.Intn(rows))
	case 4:
		return accept
	case 5, 6, 7, 8, 9, 10, 11, 12:
		return by(r.Intn(len(g.Prods)))
	}
	return fault
}

// anyRow has now and then an action, a goto or a Default that may not be, or too many of them.
func anyRow(r *rand.Rand, g api.Grammar, rows int) api.Row {
	row := looks(nil)
	for range len(g.Terms) + 1 + r.Intn(30)/29 {
		row.Acts = append(row.Acts, anyAction(r, g, rows))
	}
	for range len(g.Nons) + r.Intn(30)/29 {
		row.Gotos = append(row.Gotos, r.Intn(rows+1)-1)
	}
	switch r.Intn(30) {
	case 0:
		row.Default = odd(r, len(g.Prods))
	case 1, 2, 3:
		row.Default = r.Intn(len(g.Prods))
		clear(row.Acts)
	case 4:
		row.Gotos[0] = odd(r, rows)
	}
	return row
}

// anyTable has few rows.
func anyTable(r *rand.Rand, g api.Grammar) api.Table {
	var t api.Table
	n := 1 + r.Intn(4)
	for range n {
		t.Rows = append(t.Rows, anyRow(r, g, n))
	}
	return t
}
