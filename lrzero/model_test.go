package lrzero_test

import (
	"cmp"
	"math/rand"
	"slices"
	"strconv"

	"gantry/api"
)

func term(n int) api.Sym { return api.Sym{Kind: api.SymTerm, N: n} }
func non(n int) api.Sym  { return api.Sym{Kind: api.SymNon, N: n} }

func syms(l ...api.Sym) []api.Sym { return l }

func prod(left int, right ...api.Sym) api.Prod {
	return api.Prod{Left: left, Right: right, Prec: -1}
}

func core(prod, dot int) api.Core { return api.Core{Prod: prod, Dot: dot} }

func list(l ...api.Core) []api.Core { return l }

func edge(from int, s api.Sym, to int) api.Edge { return api.Edge{From: from, Sym: s, To: to} }

// numbered are that many names: the letter, and the numbers from 0 on behind it.
func numbered(letter string, n int) []string {
	var l []string
	for i := range n {
		l = append(l, letter+strconv.Itoa(i))
	}
	return l
}

func grammarOf(terms, nons, start int, prods ...api.Prod) api.Grammar {
	return api.Grammar{Terms: numbered("t", terms), Nons: numbered("n", nons), Start: start, Prods: prods}
}

func must[T any](x T, e api.Errno) T {
	if e != api.OK {
		panic(e)
	}
	return x
}

// rightOf is a production's right side; that of start's own is the start alone.
func rightOf(g api.Grammar, prod int) []api.Sym {
	if prod == -1 {
		return syms(non(g.Start))
	}
	return g.Prods[prod].Right
}

// coresOf are all items that there are, in order.
func coresOf(g api.Grammar) []api.Core {
	var l []api.Core
	for p := -1; p < len(g.Prods); p++ {
		for dot := range len(rightOf(g, p)) + 1 {
			l = append(l, core(p, dot))
		}
	}
	return l
}

// symbolsOf are all symbols of a grammar, terminals ahead, rising.
func symbolsOf(g api.Grammar) []api.Sym {
	var l []api.Sym
	for n := range g.Terms {
		l = append(l, term(n))
	}
	for n := range g.Nons {
		l = append(l, non(n))
	}
	return l
}

// stands tells whether the dot of an item stands ahead of s.
func stands(g api.Grammar, i api.Core, s api.Sym) bool {
	right := rightOf(g, i.Prod)
	return i.Dot < len(right) && right[i.Dot] == s
}

// once is the items, rising, each once.
func once(l []api.Core) []api.Core {
	l = slices.Clone(l)
	slices.SortFunc(l, func(a, b api.Core) int { return cmp.Or(cmp.Compare(a.Prod, b.Prod), cmp.Compare(a.Dot, b.Dot)) })
	return slices.Compact(l)
}

func within(a, b []api.Core) bool {
	return !slices.ContainsFunc(a, func(i api.Core) bool { return !slices.Contains(b, i) })
}

// askedBy are all items that a list must have if it is closed, as the chapter says it.
func askedBy(g api.Grammar, l []api.Core) []api.Core {
	var all []api.Core
	for p := range g.Prods {
		if slices.ContainsFunc(l, func(i api.Core) bool { return stands(g, i, non(g.Prods[p].Left)) }) {
			all = append(all, core(p, 0))
		}
	}
	return all
}

func isClosed(g api.Grammar, l []api.Core) bool { return within(askedBy(g, l), l) }

// modelClosure adds what is asked for, round by round.
func modelClosure(g api.Grammar, l []api.Core) []api.Core {
	l = once(l)
	for !isClosed(g, l) {
		l = once(slices.Concat(l, askedBy(g, l)))
	}
	return l
}

// modelGoto is that of a state.
func modelGoto(g api.Grammar, state []api.Core, s api.Sym) []api.Core {
	var l []api.Core
	for _, i := range state {
		if stands(g, i, s) {
			l = append(l, core(i.Prod, i.Dot+1))
		}
	}
	return modelClosure(g, l)
}

// plain is an automaton whose states are lists of cores.
type plain struct {
	states [][]api.Core
	edges  []api.Edge
}

// modelBuild holds each goto against all states.
func modelBuild(g api.Grammar) plain {
	m := plain{states: [][]api.Core{modelClosure(g, list(core(-1, 0)))}}
	for from := 0; from < len(m.states); from++ {
		for _, s := range symbolsOf(g) {
			l := modelGoto(g, m.states[from], s)
			if len(l) == 0 {
				continue
			}
			to := slices.IndexFunc(m.states, func(state []api.Core) bool { return slices.Equal(state, l) })
			if to < 0 {
				to = len(m.states)
				m.states = append(m.states, l)
			}
			m.edges = append(m.edges, edge(from, s, to))
		}
	}
	return m
}

// plainOf is an automaton without lookaheads; false, if an item has some.
func plainOf(a api.Automaton) (plain, bool) {
	m, bare := plain{edges: a.Edges}, true
	for _, state := range a.States {
		var l []api.Core
		for _, i := range state {
			l = append(l, core(i.Prod, i.Dot))
			bare = bare && len(i.Look) == 0
		}
		m.states = append(m.states, l)
	}
	return m, bare
}

func samePlain(a, b plain) bool {
	return slices.Equal(a.edges, b.edges) && slices.EqualFunc(a.states, b.states, slices.Equal[[]api.Core])
}

// hand is an automaton that no call made: so many states without items, and edges.
func hand(states int, edges ...api.Edge) api.Automaton {
	return api.Automaton{States: make([][]api.Item, states), Edges: edges}
}

func modelWalk(a api.Automaton, from int, l []api.Sym) (int, bool) {
	if from < 0 || from >= len(a.States) {
		return 0, false
	}
	for _, s := range l {
		at := slices.IndexFunc(a.Edges, func(e api.Edge) bool { return e.From == from && e.Sym == s })
		if at < 0 || a.Edges[at].To < 0 || a.Edges[at].To >= len(a.States) {
			return 0, false
		}
		from = a.Edges[at].To
	}
	return from, true
}

// eachList goes over all lists of so many symbols, in the order of these, till do answers true.
func eachList(of []api.Sym, length int, do func([]api.Sym) bool) bool {
	l := make([]api.Sym, length)
	var fill func(at int) bool
	fill = func(at int) bool {
		if at == length {
			return do(l)
		}
		for _, s := range of {
			if l[at] = s; fill(at + 1) {
				return true
			}
		}
		return false
	}
	return fill(0)
}

// alphabet are the symbols of all edges, in order.
func alphabet(a api.Automaton) []api.Sym {
	var l []api.Sym
	for _, e := range a.Edges {
		l = append(l, e.Sym)
	}
	slices.SortFunc(l, func(a, b api.Sym) int { return cmp.Or(cmp.Compare(a.Kind, b.Kind), cmp.Compare(a.N, b.N)) })
	return slices.Compact(l)
}

// modelAccess tries all lists, the shortest first, each length's in order; a way that is longer than there are states has a shorter one.
func modelAccess(a api.Automaton, state int) ([]api.Sym, bool) {
	var way []api.Sym
	for length := range len(a.States) {
		found := eachList(alphabet(a), length, func(l []api.Sym) bool {
			to, ok := modelWalk(a, 0, l)
			if !ok || to != state {
				return false
			}
			way = slices.Clone(l)
			return true
		})
		if found {
			return way, true
		}
	}
	return nil, false
}

func modelIncoming(a api.Automaton, state int) (api.Sym, bool) {
	var l []api.Sym
	for _, e := range a.Edges {
		if e.To == state {
			l = append(l, e.Sym)
		}
	}
	if state < 0 || state >= len(a.States) || len(l) == 0 || len(slices.Compact(slices.Clone(l))) != 1 {
		return api.Sym{}, false
	}
	return l[0], true
}

// spelt is a key of a list of symbols.
func spelt(l []api.Sym) string {
	text := ""
	for _, s := range l {
		text += strconv.Itoa(int(s.Kind)) + ":" + strconv.Itoa(s.N) + " "
	}
	return text
}

// line is a line of a rightmost derivation, as far as the nonterminal that is replaced next. What stands behind that one is left out: terminals, and nonterminals that stand for themselves.
type line struct {
	ahead []api.Sym
	next  int
}

// knuth are all beginnings of lines, of at most so many symbols, that end at the right end of the handle or ahead of it.
func knuth(g api.Grammar, most int) map[string]bool {
	all := map[string]bool{}
	known := map[string]bool{}
	var lines []line
	reach := func(l line) {
		if key := spelt(l.ahead) + strconv.Itoa(l.next); len(l.ahead) <= most && !known[key] {
			known[key] = true
			lines = append(lines, l)
		}
	}
	write := func(ahead, handle []api.Sym) {
		whole := slices.Concat(ahead, handle)
		for n := range min(len(whole), most) + 1 {
			all[spelt(whole[:n])] = true
		}
		for at, s := range handle {
			if s.Kind == api.SymNon {
				reach(line{whole[:len(ahead)+at], s.N})
			}
		}
	}
	write(nil, syms(non(g.Start)))
	for at := 0; at < len(lines); at++ {
		for _, p := range g.Prods {
			if p.Left == lines[at].next {
				write(lines[at].ahead, p.Right)
			}
		}
	}
	return all
}

// anySyms are symbols of a grammar, nonterminals more often.
func anySyms(r *rand.Rand, g api.Grammar, most int) []api.Sym {
	var l []api.Sym
	for range r.Intn(most + 1) {
		if n := r.Intn(len(g.Terms) + 2*len(g.Nons)); n < len(g.Terms) {
			l = append(l, term(n))
		} else {
			l = append(l, non(r.Intn(len(g.Nons))))
		}
	}
	return l
}

// anyGrammar has at most so many of each, and no production twice.
func anyGrammar(r *rand.Rand, terms, nons, prods, right int) api.Grammar {
	g := grammarOf(1+r.Intn(terms), 1+r.Intn(nons), 0)
	g.Start = r.Intn(len(g.Nons))
	for range 1 + r.Intn(prods) {
		p := prod(r.Intn(len(g.Nons)), anySyms(r, g, right)...)
		if !slices.ContainsFunc(g.Prods, func(q api.Prod) bool { return q.Left == p.Left && slices.Equal(q.Right, p.Right) }) {
			g.Prods = append(g.Prods, p)
		}
	}
	return g
}

// anyItems are some of all items, in any order, some of them twice.
func anyItems(r *rand.Rand, g api.Grammar, most int) []api.Core {
	all := coresOf(g)
	var l []api.Core
	for range r.Intn(most + 1) {
		l = append(l, all[r.Intn(len(all))])
	}
	return l
}

// anyAutomaton has few states and symbols, its edges in any order, some twice, some from or to no state.
func anyAutomaton(r *rand.Rand) api.Automaton {
	a := hand(r.Intn(5))
	for range r.Intn(9) {
		s := api.Sym{Kind: api.SymKind(r.Intn(3) + r.Intn(2)), N: r.Intn(3) - 1}
		a.Edges = append(a.Edges, edge(r.Intn(len(a.States)+2)-1, s, r.Intn(len(a.States)+2)-1))
	}
	return a
}

// shortRights are all right sides of at most two symbols.
func shortRights(terms, nons int) [][]api.Sym {
	rights := [][]api.Sym{nil}
	all := symbolsOf(grammarOf(terms, nons, 0))
	for _, a := range all {
		rights = append(rights, syms(a))
		for _, b := range all {
			rights = append(rights, syms(a, b))
		}
	}
	return rights
}

// eachSmall goes over every grammar of one terminal, two nonterminals and at most three short productions.
func eachSmall(do func(api.Grammar)) {
	var all []api.Prod
	for _, right := range shortRights(1, 2) {
		all = append(all, prod(0, right...), prod(1, right...))
	}
	for start := range 2 {
		for i := range all {
			do(grammarOf(1, 2, start, all[i]))
			for j := range i {
				do(grammarOf(1, 2, start, all[i], all[j]))
				for k := range j {
					do(grammarOf(1, 2, start, all[i], all[j], all[k]))
				}
			}
		}
	}
}
