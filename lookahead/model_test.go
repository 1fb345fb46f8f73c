package lookahead_test

import (
	"math/rand"
	"slices"
	"strconv"

	"gantry/api"
	"gantry/lrzero"
)

func term(n int) api.Sym { return api.Sym{Kind: api.SymTerm, N: n} }
func non(n int) api.Sym  { return api.Sym{Kind: api.SymNon, N: n} }

func syms(l ...api.Sym) []api.Sym { return l }

func prod(left int, right ...api.Sym) api.Prod {
	return api.Prod{Left: left, Right: right, Prec: -1}
}

func item(prod, dot int, look ...int) api.Item {
	return api.Item{Prod: prod, Dot: dot, Look: look}
}

func list(l ...api.Item) []api.Item { return l }

func edge(from int, s api.Sym, to int) api.Edge { return api.Edge{From: from, Sym: s, To: to} }

func pair(a, b int) api.Pair { return api.Pair{A: a, B: b} }

// numbered are that many names: the letter, and the numbers from 0 on behind it.
func numbered(letter string, n int) []string {
	var l []string
	for i := range n {
		l = append(l, letter+strconv.Itoa(i))
	}
	return l
}

func grammarOf(terms, nons, start int, prods ...api.Prod) api.Grammar {
	return api.Grammar{Terms: numbered("t", terms), Nons: numbered("n", nons), Start: start, Prods: prods}
}

func must[T any](x T, e api.Errno) T {
	if e != api.OK {
		panic(e)
	}
	return x
}

// once is the numbers, rising, each once.
func once(l []int) []int {
	l = slices.Clone(l)
	slices.Sort(l)
	return slices.Compact(l)
}

func sameLists(a, b [][]int) bool { return slices.EqualFunc(a, b, slices.Equal[[]int]) }

func sameItem(a, b api.Item) bool {
	return a.Prod == b.Prod && a.Dot == b.Dot && slices.Equal(a.Look, b.Look)
}

func same(a, b []api.Item) bool { return slices.EqualFunc(a, b, sameItem) }

func sameAutomaton(a, b api.Automaton) bool {
	return slices.Equal(a.Edges, b.Edges) && slices.EqualFunc(a.States, b.States, same)
}

func isEmpty(a api.Automaton) bool { return len(a.States)+len(a.Edges) == 0 }

func isState(a api.Automaton, n int) bool { return n >= 0 && n < len(a.States) }

// rightOf is a production's right side; that of start's own is the start alone.
func rightOf(g api.Grammar, prod int) []api.Sym {
	if prod == -1 {
		return syms(non(g.Start))
	}
	return g.Prods[prod].Right
}

// symbolsOf are all symbols of a grammar, terminals ahead, rising.
func symbolsOf(g api.Grammar) []api.Sym {
	var l []api.Sym
	for n := range g.Terms {
		l = append(l, term(n))
	}
	for n := range g.Nons {
		l = append(l, non(n))
	}
	return l
}

// empties are the nonterminals that give the empty list, found round by round.
func empties(g api.Grammar) []bool {
	all := make([]bool, len(g.Nons))
	for range g.Nons {
		for _, p := range g.Prods {
			all[p.Left] = all[p.Left] || areEmpty(all, p.Right)
		}
	}
	return all
}

func areEmpty(empties []bool, l []api.Sym) bool {
	return !slices.ContainsFunc(l, func(s api.Sym) bool { return s.Kind == api.SymTerm || !empties[s.N] })
}

// leads tells whether symbols lead from one state to another.
func leads(a api.Automaton, from int, l []api.Sym, to int) bool {
	at, ok := lrzero.Walk(a, from, l)
	return ok && at == to
}

func modelTransitions(a api.Automaton) []api.Edge {
	return slices.DeleteFunc(slices.Clone(a.Edges), func(e api.Edge) bool { return e.Sym.Kind != api.SymNon })
}

// modelDirect asks for each terminal, and then for the end marker.
func modelDirect(g api.Grammar, a api.Automaton) [][]int {
	var lists [][]int
	for _, t := range modelTransitions(a) {
		var l []int
		for n := range g.Terms {
			if slices.ContainsFunc(a.Edges, func(e api.Edge) bool { return e.From == t.To && e.Sym == term(n) }) {
				l = append(l, n)
			}
		}
		if t.From == 0 && t.Sym == non(g.Start) {
			l = append(l, len(g.Terms))
		}
		lists = append(lists, l)
	}
	return lists
}

// related are all pairs of transitions of which is is true.
func related(a api.Automaton, is func(x, y api.Edge) bool) []api.Pair {
	var l []api.Pair
	for m, x := range modelTransitions(a) {
		for n, y := range modelTransitions(a) {
			if is(x, y) {
				l = append(l, pair(m, n))
			}
		}
	}
	return l
}

func modelReads(g api.Grammar, a api.Automaton) []api.Pair {
	nothing := empties(g)
	return related(a, func(x, y api.Edge) bool { return x.To == y.From && nothing[y.Sym.N] })
}

// modelIncludes tries each place of each production of the one that is included.
func modelIncludes(g api.Grammar, a api.Automaton) []api.Pair {
	nothing := empties(g)
	return related(a, func(x, y api.Edge) bool {
		return slices.ContainsFunc(g.Prods, func(p api.Prod) bool {
			for at, s := range p.Right {
				if non(p.Left) == y.Sym && s == x.Sym && areEmpty(nothing, p.Right[at+1:]) && leads(a, y.From, p.Right[:at], x.From) {
					return true
				}
			}
			return false
		})
	})
}

// modelLookback asks in the order of the chapter's words.
func modelLookback(g api.Grammar, a api.Automaton, state, prod int) ([]int, api.Errno) {
	if !isState(a, state) {
		return nil, api.ErrRange
	}
	if prod < 0 || prod >= len(g.Prods) || !slices.ContainsFunc(a.States[state], func(i api.Item) bool { return i.Prod == prod && i.Dot == len(g.Prods[prod].Right) }) {
		return nil, api.ErrItem
	}
	var l []int
	for x, t := range modelTransitions(a) {
		if t.Sym == non(g.Prods[prod].Left) && leads(a, t.From, g.Prods[prod].Right, state) {
			l = append(l, x)
		}
	}
	return l, api.OK
}

// spread hands what each number has on to those that are related to it, till nothing is new.
func spread(lists [][]int, l []api.Pair) [][]int {
	lists = slices.Clone(lists)
	for more := true; more; {
		more = false
		for _, p := range l {
			all := once(slices.Concat(lists[p.A], lists[p.B]))
			more = more || len(all) > len(lists[p.A])
			lists[p.A] = all
		}
	}
	return lists
}

func modelFollow(g api.Grammar, a api.Automaton) [][]int {
	return spread(spread(modelDirect(g, a), modelReads(g, a)), modelIncludes(g, a))
}

// modelLook is the lookaheads of an item of a state.
func modelLook(g api.Grammar, a api.Automaton, follow [][]int, state int, i api.Item) []int {
	if i.Dot < len(rightOf(g, i.Prod)) {
		return nil
	}
	if i.Prod == -1 {
		return []int{len(g.Terms)}
	}
	var all []int
	for _, x := range must(modelLookback(g, a, state, i.Prod)) {
		all = append(all, follow[x]...)
	}
	return once(all)
}

func modelAttach(g api.Grammar, a api.Automaton) api.Automaton {
	follow := modelFollow(g, a)
	all := api.Automaton{Edges: a.Edges}
	for n, state := range a.States {
		var l []api.Item
		for _, i := range state {
			l = append(l, item(i.Prod, i.Dot, modelLook(g, a, follow, n, i)...))
		}
		all.States = append(all.States, l)
	}
	return all
}

// anySyms are symbols of a grammar, nonterminals more often.
func anySyms(r *rand.Rand, g api.Grammar, most int) []api.Sym {
	var l []api.Sym
	for range r.Intn(most + 1) {
		if n := r.Intn(len(g.Terms) + 2*len(g.Nons)); n < len(g.Terms) {
			l = append(l, term(n))
		} else {
			l = append(l, non(r.Intn(len(g.Nons))))
		}
	}
	return l
}

// anyGrammar has at most so many of each, and no production twice.
func anyGrammar(r *rand.Rand, terms, nons, prods, right int) api.Grammar {
	g := grammarOf(1+r.Intn(terms), 1+r.Intn(nons), 0)
	g.Start = r.Intn(len(g.Nons))
	for range 1 + r.Intn(prods) {
		p := prod(r.Intn(len(g.Nons)), anySyms(r, g, right)...)
		if !slices.ContainsFunc(g.Prods, func(q api.Prod) bool { return q.Left == p.Left && slices.Equal(q.Right, p.Right) }) {
			g.Prods = append(g.Prods, p)
		}
	}
	return g
}

// shortRights are all right sides of at most two symbols.
func shortRights(terms, nons int) [][]api.Sym {
	rights := [][]api.Sym{nil}
	all := symbolsOf(grammarOf(terms, nons, 0))
	for _, a := range all {
		rights = append(rights, syms(a))
		for _, b := range all {
			rights = append(rights, syms(a, b))
		}
	}
	return rights
}

// eachSmall goes over every grammar of one terminal, two nonterminals and at most three short productions.
func eachSmall(do func(api.Grammar)) {
	var all []api.Prod
	for _, right := range shortRights(1, 2) {
		all = append(all, prod(0, right...), prod(1, right...))
	}
	for start := range 2 {
		for i := range all {
			do(grammarOf(1, 2, start, all[i]))
			for j := range i {
				do(grammarOf(1, 2, start, all[i], all[j]))
				for k := range j {
					do(grammarOf(1, 2, start, all[i], all[j], all[k]))
				}
			}
		}
	}
}
