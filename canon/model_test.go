package canon_test

import (
	"cmp"
	"math/rand"
	"slices"
	"strconv"

	"gantry/api"
	"gantry/first"
	"gantry/grammar"
	"gantry/items"
)

func term(n int) api.Sym { return api.Sym{Kind: api.SymTerm, N: n} }
func non(n int) api.Sym  { return api.Sym{Kind: api.SymNon, N: n} }

func syms(l ...api.Sym) []api.Sym { return l }

func prod(left int, right ...api.Sym) api.Prod {
	return api.Prod{Left: left, Right: right, Prec: -1}
}

func item(prod, dot int, look ...int) api.Item {
	return api.Item{Prod: prod, Dot: dot, Look: look}
}

func list(l ...api.Item) []api.Item { return l }

func edge(from int, s api.Sym, to int) api.Edge { return api.Edge{From: from, Sym: s, To: to} }

// numbered are that many names: the letter, and the numbers from 0 on behind it.
func numbered(letter string, n int) []string {
	var l []string
	for i := range n {
		l = append(l, letter+strconv.Itoa(i))
	}
	return l
}

func grammarOf(terms, nons, start int, prods ...api.Prod) api.Grammar {
	return api.Grammar{Terms: numbered("t", terms), Nons: numbered("n", nons), Start: start, Prods: prods}
}

func must[T any](x T, e api.Errno) T {
	if e != api.OK {
		panic(e)
	}
	return x
}

// once is the numbers, rising, each once.
func once(l []int) []int {
	l = slices.Clone(l)
	slices.Sort(l)
	return slices.Compact(l)
}

func coreOf(i api.Item) api.Core { return api.Core{Prod: i.Prod, Dot: i.Dot} }

func compareCores(a, b api.Core) int {
	return cmp.Or(cmp.Compare(a.Prod, b.Prod), cmp.Compare(a.Dot, b.Dot))
}

func compareSyms(a, b api.Sym) int {
	return cmp.Or(cmp.Compare(a.Kind, b.Kind), cmp.Compare(a.N, b.N))
}

func sameItem(a, b api.Item) bool { return coreOf(a) == coreOf(b) && slices.Equal(a.Look, b.Look) }

func same(a, b []api.Item) bool { return slices.EqualFunc(a, b, sameItem) }

func sameCores(a, b []api.Item) bool {
	return slices.EqualFunc(a, b, func(x, y api.Item) bool { return coreOf(x) == coreOf(y) })
}

func sameAutomaton(a, b api.Automaton) bool {
	return slices.Equal(a.Edges, b.Edges) && slices.EqualFunc(a.States, b.States, same)
}

func isEmpty(a api.Automaton) bool { return len(a.States)+len(a.Edges) == 0 }

// rightOf is a production's right side; that of start's own is the start alone.
func rightOf(g api.Grammar, prod int) []api.Sym {
	if prod == -1 {
		return syms(non(g.Start))
	}
	return g.Prods[prod].Right
}

// symbolsOf are all symbols of a grammar, terminals ahead, rising.
func symbolsOf(g api.Grammar) []api.Sym {
	var l []api.Sym
	for n := range g.Terms {
		l = append(l, term(n))
	}
	for n := range g.Nons {
		l = append(l, non(n))
	}
	return l
}

// normal has of each core, in order, all lookaheads that any item has for it.
func normal(l []api.Item) []api.Item {
	var cores []api.Core
	looks := map[api.Core][]int{}
	for _, i := range l {
		cores = append(cores, coreOf(i))
		looks[coreOf(i)] = append(looks[coreOf(i)], i.Look...)
	}
	slices.SortFunc(cores, compareCores)
	var all []api.Item
	for _, c := range slices.Compact(cores) {
		all = append(all, item(c.Prod, c.Dot, once(looks[c])...))
	}
	return all
}

// claims is the least nullable and first, which layer 6 tells.
type claims struct {
	nullable []bool
	first    [][]int
}

func claimsOf(g api.Grammar) claims {
	return claims{must(first.Nullable(g)), must(first.First(g))}
}

// begins is what the symbols, and then one of look, begin with.
func (c claims) begins(l []api.Sym, look []int) []int {
	var all []int
	for _, s := range l {
		if s.Kind == api.SymTerm {
			return append(all, s.N)
		}
		all = append(all, c.first[s.N]...)
		if !c.nullable[s.N] {
			return all
		}
	}
	return append(all, look...)
}

// modelClosure adds what the items ask for, round by round.
func modelClosure(g api.Grammar, c claims, l []api.Item) []api.Item {
	l = normal(l)
	for {
		var asked []api.Item
		for _, i := range l {
			right := rightOf(g, i.Prod)
			if i.Dot == len(right) || right[i.Dot].Kind != api.SymNon {
				continue
			}
			for p := range g.Prods {
				if g.Prods[p].Left == right[i.Dot].N {
					asked = append(asked, item(p, 0, c.begins(right[i.Dot+1:], i.Look)...))
				}
			}
		}
		more := normal(slices.Concat(l, asked))
		if same(more, l) {
			return l
		}
		l = more
	}
}

// modelGoto is the state's items that have s behind the dot, advanced.
func modelGoto(g api.Grammar, state []api.Item, s api.Sym) []api.Item {
	var l []api.Item
	for _, i := range state {
		if right := rightOf(g, i.Prod); i.Dot < len(right) && right[i.Dot] == s {
			l = append(l, item(i.Prod, i.Dot+1, i.Look...))
		}
	}
	return l
}

// modelCanonical holds each goto's closure against all states.
func modelCanonical(g api.Grammar) api.Automaton {
	c := claimsOf(g)
	a := api.Automaton{States: [][]api.Item{modelClosure(g, c, list(item(-1, 0, len(g.Terms))))}}
	for from := 0; from < len(a.States); from++ {
		for _, s := range symbolsOf(g) {
			l := modelGoto(g, a.States[from], s)
			if len(l) == 0 {
				continue
			}
			l = modelClosure(g, c, l)
			to := slices.IndexFunc(a.States, func(state []api.Item) bool { return same(state, l) })
			if to < 0 {
				to = len(a.States)
				a.States = append(a.States, l)
			}
			a.Edges = append(a.Edges, edge(from, s, to))
		}
	}
	return a
}

func isState(a api.Automaton, n int) bool { return n >= 0 && n < len(a.States) }

// above tells whether an edge stands above another: by From, then by its symbol.
func above(a, b api.Edge) bool {
	return cmp.Or(cmp.Compare(a.From, b.From), compareSyms(a.Sym, b.Sym)) > 0
}

// modelCheck asks in the order of the chapter's words.
func modelCheck(g api.Grammar, a api.Automaton) (api.Errno, int) {
	if e, _ := grammar.Check(g); e != api.OK {
		return e, 0
	}
	if len(a.States) < 1 || len(a.States) > 2048 {
		return api.ErrStates, 0
	}
	place := 0
	for _, state := range a.States {
		if e, _ := items.Check(g, state); e != api.OK {
			return e, place
		}
		place++
	}
	for at, x := range a.Edges {
		switch {
		case !isState(a, x.From), !isState(a, x.To):
			return api.ErrRange, place
		case !slices.Contains(symbolsOf(g), x.Sym):
			return api.ErrSymbol, place
		case at > 0 && !above(x, a.Edges[at-1]):
			return api.ErrOrder, place
		}
		place++
	}
	return api.OK, place
}

// leaving are a state's edges, by their symbols.
func leaving(a api.Automaton, state int) []api.Edge {
	var l []api.Edge
	for _, x := range a.Edges {
		if x.From == state {
			l = append(l, x)
		}
	}
	slices.SortStableFunc(l, func(x, y api.Edge) int { return compareSyms(x.Sym, y.Sym) })
	return l
}

func modelOrder(a api.Automaton) (api.Automaton, []int, api.Errno) {
	if len(a.States) == 0 || slices.ContainsFunc(a.Edges, func(x api.Edge) bool { return !isState(a, x.From) || !isState(a, x.To) }) {
		return api.Automaton{}, nil, api.ErrRange
	}
	for at, x := range a.Edges {
		if slices.ContainsFunc(a.Edges[:at], func(y api.Edge) bool { return x.From == y.From && x.Sym == y.Sym }) {
			return api.Automaton{}, nil, api.ErrTwice
		}
	}
	was := []int{0}
	var all api.Automaton
	for n := 0; n < len(was); n++ {
		all.States = append(all.States, a.States[was[n]])
		for _, x := range leaving(a, was[n]) {
			if !slices.Contains(was, x.To) {
				was = append(was, x.To)
			}
			all.Edges = append(all.Edges, edge(n, x.Sym, slices.Index(was, x.To)))
		}
	}
	return all, was, api.OK
}

// agree tells whether two states' edges are over the same symbols, to states of one core.
func agree(a api.Automaton, x, y int) bool {
	return slices.EqualFunc(leaving(a, x), leaving(a, y), func(p, q api.Edge) bool {
		return p.Sym == q.Sym && sameCores(a.States[p.To], a.States[q.To])
	})
}

// modelMerge lays the states of one core together, with the edges of the first, and then all in order.
func modelMerge(g api.Grammar, a api.Automaton) (api.Automaton, api.Errno) {
	if e, _ := modelCheck(g, a); e != api.OK {
		return api.Automaton{}, e
	}
	firsts := make([]int, len(a.States))
	all := api.Automaton{States: make([][]api.Item, len(a.States))}
	for n, state := range a.States {
		firsts[n] = slices.IndexFunc(a.States, func(other []api.Item) bool { return sameCores(state, other) })
		for k := range n {
			if sameCores(a.States[k], state) && !agree(a, k, n) {
				return api.Automaton{}, api.ErrArg
			}
		}
		all.States[firsts[n]] = normal(slices.Concat(all.States[firsts[n]], state))
	}
	if ordered, _, e := modelOrder(a); e != api.OK || !sameAutomaton(ordered, a) {
		return api.Automaton{}, api.ErrOrder
	}
	for _, x := range a.Edges {
		if firsts[x.From] == x.From {
			all.Edges = append(all.Edges, edge(x.From, x.Sym, firsts[x.To]))
		}
	}
	all, _, _ = modelOrder(all)
	return all, api.OK
}

// modelConflicts asks each state under each lookahead for all that could be done.
func modelConflicts(g api.Grammar, a api.Automaton) ([]api.Conflict, api.Errno) {
	if e, _ := modelCheck(g, a); e != api.OK {
		return nil, e
	}
	var all []api.Conflict
	for state := range a.States {
		for look := range len(g.Terms) + 1 {
			c := api.Conflict{State: state, Look: look, Shift: -1}
			if look < len(g.Terms) {
				c.Shift = modelNext(a, state, term(look))
			}
			for _, i := range a.States[state] {
				if i.Dot == len(rightOf(g, i.Prod)) && slices.Contains(i.Look, look) {
					c.Reduce = append(c.Reduce, i.Prod)
				}
			}
			if len(c.Reduce) > 1 || len(c.Reduce) == 1 && c.Shift >= 0 {
				all = append(all, c)
			}
		}
	}
	return all, api.OK
}

func sameConflicts(a, b []api.Conflict) bool {
	return slices.EqualFunc(a, b, func(x, y api.Conflict) bool {
		return x.State == y.State && x.Look == y.Look && x.Shift == y.Shift && slices.Equal(x.Reduce, y.Reduce)
	})
}

func modelNext(a api.Automaton, state int, s api.Sym) int {
	at := slices.IndexFunc(a.Edges, func(x api.Edge) bool { return x.From == state && x.Sym == s })
	if at < 0 {
		return -1
	}
	return a.Edges[at].To
}

func modelWalk(a api.Automaton, l []api.Sym) (int, int) {
	state := 0
	for gone, s := range l {
		to := modelNext(a, state, s)
		if to == -1 {
			return state, gone
		}
		state = to
	}
	return state, len(l)
}

// eachList goes over all lists of so many symbols.
func eachList(of []api.Sym, length int, do func([]api.Sym)) {
	l := make([]api.Sym, length)
	var fill func(at int)
	fill = func(at int) {
		if at == length {
			do(l)
			return
		}
		for _, s := range of {
			l[at] = s
			fill(at + 1)
		}
	}
	fill(0)
}

// anySyms are symbols of a grammar, nonterminals more often.
func anySyms(r *rand.Rand, g api.Grammar, most int) []api.Sym {
	var l []api.Sym
	for range r.Intn(most + 1) {
		if n := r.Intn(len(g.Terms) + 2*len(g.Nons)); n < len(g.Terms) {
			l = append(l, term(n))
		} else {
			l = append(l, non(r.Intn(len(g.Nons))))
		}
	}
	return l
}

// anyGrammar has at most so many of each, and no production twice.
func anyGrammar(r *rand.Rand, terms, nons, prods, right int) api.Grammar {
	g := grammarOf(1+r.Intn(terms), 1+r.Intn(nons), 0)
	g.Start = r.Intn(len(g.Nons))
	for range 1 + r.Intn(prods) {
		p := prod(r.Intn(len(g.Nons)), anySyms(r, g, right)...)
		if !slices.ContainsFunc(g.Prods, func(q api.Prod) bool { return q.Left == p.Left && slices.Equal(q.Right, p.Right) }) {
			g.Prods = append(g.Prods, p)
		}
	}
	return g
}

// shortRights are all right sides of at most two symbols.
func shortRights(terms, nons int) [][]api.Sym {
	rights := [][]api.Sym{nil}
	all := symbolsOf(grammarOf(terms, nons, 0))
	for _, a := range all {
		rights = append(rights, syms(a))
		for _, b := range all {
			rights = append(rights, syms(a, b))
		}
	}
	return rights
}

// eachSmall goes over every grammar of one terminal, two nonterminals and at most three short productions.
func eachSmall(do func(api.Grammar)) {
	var all []api.Prod
	for _, right := range shortRights(1, 2) {
		all = append(all, prod(0, right...), prod(1, right...))
	}
	for start := range 2 {
		for i := range all {
			do(grammarOf(1, 2, start, all[i]))
			for j := range i {
				do(grammarOf(1, 2, start, all[i], all[j]))
				for k := range j {
					do(grammarOf(1, 2, start, all[i], all[j], all[k]))
				}
			}
		}
	}
}
