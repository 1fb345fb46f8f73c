package prec_test

import (
	"math/rand"
	"slices"
	"strconv"
	"strings"

	"gantry/api"
)

func term(n int) api.Sym { return api.Sym{Kind: api.SymTerm, N: n} }
func non(n int) api.Sym  { return api.Sym{Kind: api.SymNon, N: n} }

func prod(left int, right ...api.Sym) api.Prod {
	return api.Prod{Left: left, Right: right, Prec: -1}
}

// with is a production that has a terminal's level.
func with(prec int, p api.Prod) api.Prod {
	p.Prec = prec
	return p
}

func level(a api.Assoc, terms ...int) api.Level { return api.Level{Assoc: a, Terms: terms} }

func left(terms ...int) api.Level    { return level(api.AssocLeft, terms...) }
func right(terms ...int) api.Level   { return level(api.AssocRight, terms...) }
func neither(terms ...int) api.Level { return level(api.AssocNone, terms...) }

// clash is a conflict with a shift, clashes one without.
func clash(look int, reduce ...int) api.Conflict {
	return api.Conflict{State: 3, Look: look, Shift: 4, Reduce: reduce}
}

func clashes(look int, reduce ...int) api.Conflict {
	return api.Conflict{State: 3, Look: look, Shift: -1, Reduce: reduce}
}

// none, shift, reduce and fail are decisions of each kind.
func none(look int) api.Decision { return api.Decision{Look: look, Prod: -1, By: -1} }

func shift(look, by int, dropped ...int) api.Decision {
	return api.Decision{Look: look, Kind: api.DecideShift, Prod: -1, Dropped: dropped, By: by}
}

func reduce(look, by, prod int, dropped ...int) api.Decision {
	return api.Decision{Look: look, Kind: api.DecideReduce, Prod: prod, Dropped: dropped, ShiftDropped: true, By: by}
}

func fail(look, by int, dropped ...int) api.Decision {
	return api.Decision{Look: look, Kind: api.DecideError, Prod: -1, Dropped: dropped, ShiftDropped: true, By: by}
}

func same(a, b api.Decision) bool {
	return a.Look == b.Look && a.Kind == b.Kind && a.Prod == b.Prod && slices.Equal(a.Dropped, b.Dropped) && a.ShiftDropped == b.ShiftDropped && a.By == b.By
}

// isZero tells whether nothing is told beside an error.
func isZero(d api.Decision) bool { return same(d, api.Decision{}) }

// numbered are that many names: the letter, and the numbers from 0 on behind it.
func numbered(letter string, n int) []string {
	var l []string
	for i := range n {
		l = append(l, letter+strconv.Itoa(i))
	}
	return l
}

func grammarOf(terms, nons, start int, prods ...api.Prod) api.Grammar {
	return api.Grammar{Terms: numbered("t", terms), Nons: numbered("n", nons), Start: start, Prods: prods}
}

func must[T any](x T, e api.Errno) T {
	if e != api.OK {
		panic(e)
	}
	return x
}

// modelLevel goes over all levels and terminals.
func modelLevel(g api.Grammar, term int) int {
	found := -1
	for n, l := range g.Levels {
		for _, t := range l.Terms {
			if t == term {
				found = n
			}
		}
	}
	return found
}

// modelTerminal lets each terminal of a right side take the place of the one ahead of it, and Prec that of all.
func modelTerminal(g api.Grammar, prod int) int {
	own := -1
	for _, s := range g.Prods[prod].Right {
		if s.Kind == api.SymTerm {
			own = s.N
		}
	}
	if g.Prods[prod].Prec >= 0 {
		own = g.Prods[prod].Prec
	}
	return own
}

func modelProdLevel(g api.Grammar, prod int) int { return modelLevel(g, modelTerminal(g, prod)) }

// verdict is what a shift against one reduction comes to: s (the shift stays), r (the reduction does), e (neither) or n (it is not decided).
func verdict(g api.Grammar, prod, term int) string {
	p, t := modelProdLevel(g, prod), modelLevel(g, term)
	if p < 0 || t < 0 {
		return "n"
	}
	if p != t {
		return map[bool]string{true: "r", false: "s"}[p > t]
	}
	return map[api.Assoc]string{api.AssocLeft: "r", api.AssocRight: "s", api.AssocNone: "e"}[g.Levels[p].Assoc]
}

func modelDecide(g api.Grammar, prod, term int) api.Decision {
	switch verdict(g, prod, term) {
	case "s":
		return shift(term, modelLevel(g, term), prod)
	case "r":
		return reduce(term, modelProdLevel(g, prod), prod)
	case "e":
		return fail(term, modelLevel(g, term), prod)
	}
	return none(term)
}

// modelFault asks in the order of the chapter's words.
func modelFault(g api.Grammar, c api.Conflict) api.Errno {
	if c.Look < 0 || c.Look > len(g.Terms) || c.Shift < -1 {
		return api.ErrRange
	}
	for _, p := range c.Reduce {
		if p < -1 || p > len(g.Prods)-1 {
			return api.ErrRange
		}
	}
	for a := range c.Reduce {
		for b := range a {
			if c.Reduce[b] >= c.Reduce[a] {
				return api.ErrOrder
			}
		}
	}
	if c.Shift == -1 && len(c.Reduce) < 2 || c.Shift != -1 && (len(c.Reduce) == 0 || c.Look == len(g.Terms)) {
		return api.ErrArg
	}
	return api.OK
}

// modelResolve reads the verdicts of all reductions as one word.
func modelResolve(g api.Grammar, c api.Conflict) (api.Decision, api.Errno) {
	if e := modelFault(g, c); e != api.OK {
		return api.Decision{}, e
	}
	if c.Shift == -1 || c.Reduce[0] == -1 {
		return none(c.Look), api.OK
	}
	word := ""
	for _, p := range c.Reduce {
		word += verdict(g, p, c.Look)
	}
	if strings.Contains(word, "n") || strings.Count(word, "r") > 1 {
		return none(c.Look), api.OK
	}
	if at := strings.Index(word, "r"); at >= 0 {
		p := c.Reduce[at]
		return reduce(c.Look, modelProdLevel(g, p), p, slices.Concat(c.Reduce[:at], c.Reduce[at+1:])...), api.OK
	}
	if at := strings.Index(word, "e"); at >= 0 {
		return fail(c.Look, modelProdLevel(g, c.Reduce[at]), c.Reduce...), api.OK
	}
	return shift(c.Look, modelLevel(g, c.Look), c.Reduce...), api.OK
}

// subsets are all lists of those numbers that keep their order.
func subsets(l []int) [][]int {
	all := [][]int{nil}
	for _, n := range l {
		for _, s := range slices.Clone(all) {
			all = append(all, append(slices.Clone(s), n))
		}
	}
	return all
}

// eachLevels goes over all lists of levels of terminals 0 to n - 1, some of them left out.
func eachLevels(n int, do func([]api.Level)) {
	var all []int
	for t := range n {
		all = append(all, t)
	}
	var add func(levels []api.Level, left []int)
	add = func(levels []api.Level, left []int) {
		do(levels)
		for _, terms := range subsets(left)[1:] {
			others := slices.DeleteFunc(slices.Clone(left), func(t int) bool { return slices.Contains(terms, t) })
			for a := api.AssocLeft; a <= api.AssocNone; a++ {
				add(append(slices.Clip(levels), level(a, terms...)), others)
			}
		}
	}
	add(nil, all)
}

// anySyms are symbols of a grammar, terminals as often as nonterminals.
func anySyms(r *rand.Rand, g api.Grammar, most int) []api.Sym {
	var l []api.Sym
	for range r.Intn(most + 1) {
		if r.Intn(2) == 0 {
			l = append(l, term(r.Intn(len(g.Terms))))
		} else {
			l = append(l, non(r.Intn(len(g.Nons))))
		}
	}
	return l
}

// anyLevels puts terminals into levels, most of them into one.
func anyLevels(r *rand.Rand, terms int) []api.Level {
	var levels []api.Level
	order := r.Perm(terms)
	for at := r.Intn(2); at < terms; {
		n := min(1+r.Intn(3), terms-at)
		l := slices.Clone(order[at : at+n])
		slices.Sort(l)
		if len(levels) < api.MaxLevels {
			levels = append(levels, level(api.Assoc(1+r.Intn(3)), l...))
		}
		at += n
	}
	return levels
}

// anyGrammar has at most so many of each, no production twice, and levels.
func anyGrammar(r *rand.Rand, terms, nons, prods, right int) api.Grammar {
	g := grammarOf(1+r.Intn(terms), 1+r.Intn(nons), 0)
	g.Start = r.Intn(len(g.Nons))
	g.Levels = anyLevels(r, len(g.Terms))
	for range 1 + r.Intn(prods) {
		p := prod(r.Intn(len(g.Nons)), anySyms(r, g, right)...)
		if r.Intn(4) == 0 {
			p.Prec = r.Intn(len(g.Terms))
		}
		if !slices.ContainsFunc(g.Prods, func(q api.Prod) bool { return q.Left == p.Left && slices.Equal(q.Right, p.Right) }) {
			g.Prods = append(g.Prods, p)
		}
	}
	return g
}

// anyConflict is one that may be, with a shift more often than without.
func anyConflict(r *rand.Rand, g api.Grammar) api.Conflict {
	for {
		c := api.Conflict{State: r.Intn(9), Look: r.Intn(len(g.Terms) + 1), Shift: r.Intn(9) - 1}
		for p := -1; p < len(g.Prods); p++ {
			if r.Intn(3) == 0 && (p >= 0 || r.Intn(4) == 0) {
				c.Reduce = append(c.Reduce, p)
			}
		}
		if modelFault(g, c) == api.OK {
			return c
		}
		if len(g.Prods) == 1 && r.Intn(9) == 0 {
			return clash(r.Intn(len(g.Terms)), 0)
		}
	}
}
