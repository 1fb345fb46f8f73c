package trim_test

import (
	"math/rand"
	"slices"
	"strconv"

	"gantry/api"
)

func term(n int) api.Sym { return api.Sym{Kind: api.SymTerm, N: n} }
func non(n int) api.Sym  { return api.Sym{Kind: api.SymNon, N: n} }

func syms(l ...api.Sym) []api.Sym { return l }

func prod(left int, right ...api.Sym) api.Prod {
	return api.Prod{Left: left, Right: right, Prec: -1}
}

// numbered are that many names: the letter, and the numbers from 0 on behind it.
func numbered(letter string, n int) []string {
	var l []string
	for i := range n {
		l = append(l, letter+strconv.Itoa(i))
	}
	return l
}

func grammarOf(terms, nons, start int, prods ...api.Prod) api.Grammar {
	return api.Grammar{Terms: numbered("t", terms), Nons: numbered("n", nons), Start: start, Prods: prods}
}

// symbolsOf are all symbols, in Unreached's order.
func symbolsOf(g api.Grammar) []api.Sym {
	var l []api.Sym
	for n := range g.Terms {
		l = append(l, term(n))
	}
	for n := range g.Nons {
		l = append(l, non(n))
	}
	return l
}

// told is what is of use in a grammar, by some model.
type told struct {
	barren   []int
	reached  []api.Sym
	circular []int
}

// given are all lists that a nonterminal gives, as the chapter says it, as long as no list on the way has more than most symbols.
func given(g api.Grammar, n, most int) [][]api.Sym {
	seen := map[string]int{}
	var all [][]api.Sym
	replace := func(l []api.Sym) {
		for i, s := range l {
			for _, p := range g.Prods {
				if s != non(p.Left) {
					continue
				}
				next := slices.Concat(l[:i], p.Right, l[i+1:])
				key := spelling(next)
				if len(next) <= most && seen[key] == 0 {
					seen[key]++
					all = append(all, next)
				}
			}
		}
	}
	replace(syms(non(n)))
	for at := 0; at < len(all); at++ {
		replace(all[at])
	}
	return all
}

func spelling(l []api.Sym) string {
	var b []byte
	for _, s := range l {
		b = append(b, byte(s.Kind), byte(s.N))
	}
	return string(b)
}

// bare is a grammar without the terminals of right sides: what gives a list of terminals there gives nothing here.
func bare(g api.Grammar) api.Grammar {
	g.Prods = slices.Clone(g.Prods)
	for i, p := range g.Prods {
		g.Prods[i].Right = slices.DeleteFunc(slices.Clone(p.Right), func(s api.Sym) bool { return s.Kind == api.SymTerm })
	}
	return g
}

// tellByLists asks the lists that nonterminals give. Five symbols are enough, if there are at most three nonterminals and right sides of two symbols: one that is to go is replaced till it is gone, ahead of its neighbour, and stands no more than three deep.
func tellByLists(g api.Grammar) told {
	const enough = 5
	reached := syms(non(g.Start))
	for _, l := range given(g, g.Start, enough) {
		reached = append(reached, l...)
	}
	var all told
	for _, s := range symbolsOf(g) {
		if slices.Contains(reached, s) {
			all.reached = append(all.reached, s)
		}
	}
	for n := range g.Nons {
		if !slices.ContainsFunc(given(bare(g), n, enough), func(l []api.Sym) bool { return len(l) == 0 }) {
			all.barren = append(all.barren, n)
		}
		if slices.ContainsFunc(given(g, n, enough), func(l []api.Sym) bool { return slices.Equal(l, syms(non(n))) }) {
			all.circular = append(all.circular, n)
		}
	}
	return all
}

// least is what all sets of the symbols that are closed have.
func least(all []api.Sym, closed func(has func(api.Sym) bool) bool) []api.Sym {
	common := all
	for mask := range 1 << len(all) {
		has := func(s api.Sym) bool { return mask>>slices.Index(all, s)&1 == 1 }
		if closed(has) {
			common = slices.DeleteFunc(slices.Clone(common), func(s api.Sym) bool { return !has(s) })
		}
	}
	return common
}

func nonsOf(g api.Grammar) []api.Sym { return symbolsOf(g)[len(g.Terms):] }

func every(l []api.Sym, is func(api.Sym) bool) bool {
	return !slices.ContainsFunc(l, func(s api.Sym) bool { return !is(s) })
}

// fruitfulSet has each nonterminal that some right side of it, with terminals and members alone, makes one.
func fruitfulSet(g api.Grammar) []api.Sym {
	return least(nonsOf(g), func(has func(api.Sym) bool) bool {
		return !slices.ContainsFunc(g.Prods, func(p api.Prod) bool {
			return !has(non(p.Left)) && every(p.Right, func(s api.Sym) bool { return s.Kind == api.SymTerm || has(s) })
		})
	})
}

func reachedSet(g api.Grammar) []api.Sym {
	return least(symbolsOf(g), func(has func(api.Sym) bool) bool {
		return has(non(g.Start)) && !slices.ContainsFunc(g.Prods, func(p api.Prod) bool {
			return has(non(p.Left)) && !every(p.Right, has)
		})
	})
}

// aloneSet is all that a nonterminal gives alone: nonterminals beside which all goes.
func aloneSet(g api.Grammar, n int) []api.Sym {
	var noLeaves api.Grammar
	noLeaves.Nons = g.Nons
	for _, p := range g.Prods {
		if every(p.Right, func(s api.Sym) bool { return s.Kind == api.SymNon }) {
			noLeaves.Prods = append(noLeaves.Prods, p)
		}
	}
	nullable := fruitfulSet(noLeaves)
	goes := func(s api.Sym) bool { return slices.Contains(nullable, s) }
	return least(nonsOf(g), func(has func(api.Sym) bool) bool {
		for _, p := range noLeaves.Prods {
			for i, s := range p.Right {
				from := p.Left == n || has(non(p.Left))
				if from && !has(s) && every(p.Right[:i], goes) && every(p.Right[i+1:], goes) {
					return false
				}
			}
		}
		return true
	})
}

// tellBySets asks for the least sets that are closed, among all sets that there are.
func tellBySets(g api.Grammar) told {
	all := told{reached: reachedSet(g)}
	fruitful := fruitfulSet(g)
	for n := range g.Nons {
		if !slices.Contains(fruitful, non(n)) {
			all.barren = append(all.barren, n)
		}
		if slices.Contains(aloneSet(g, n), non(n)) {
			all.circular = append(all.circular, n)
		}
	}
	return all
}

// unreached is all that is not reached.
func (t told) unreached(g api.Grammar) []api.Sym {
	return slices.DeleteFunc(symbolsOf(g), func(s api.Sym) bool { return slices.Contains(t.reached, s) })
}

// modelWell asks in the chapter's order.
func modelWell(g api.Grammar, all told) (api.Errno, api.Sym) {
	if len(all.barren) > 0 {
		return api.ErrBarren, non(all.barren[0])
	}
	if l := all.unreached(g); len(l) > 0 {
		return api.ErrUnreached, l[0]
	}
	if len(all.circular) > 0 {
		return api.ErrCycle, non(all.circular[0])
	}
	return api.OK, api.Sym{}
}

// modelTrim takes out production by production and symbol by symbol; a symbol's new number is the place of its name.
func modelTrim(g api.Grammar, tell func(api.Grammar) told) (api.Grammar, api.Errno) {
	barren := tell(g).barren
	if slices.Contains(barren, g.Start) {
		return api.Grammar{}, api.ErrBarren
	}
	left := g
	left.Prods = slices.DeleteFunc(slices.Clone(g.Prods), func(p api.Prod) bool {
		return slices.Contains(barren, p.Left) || !every(p.Right, func(s api.Sym) bool { return s.Kind == api.SymTerm || !slices.Contains(barren, s.N) })
	})
	reached := tell(left).reached
	stays := func(s api.Sym) bool { return slices.Contains(reached, s) }
	var out api.Grammar
	for _, s := range symbolsOf(g) {
		if stays(s) && s.Kind == api.SymTerm {
			out.Terms = append(out.Terms, g.Terms[s.N])
		} else if stays(s) {
			out.Nons = append(out.Nons, g.Nons[s.N])
		}
	}
	if len(out.Terms) == 0 {
		return api.Grammar{}, api.ErrTerms
	}
	newTerm := func(n int) int { return slices.Index(out.Terms, g.Terms[n]) }
	newNon := func(n int) int { return slices.Index(out.Nons, g.Nons[n]) }
	out.Start = newNon(g.Start)
	for _, p := range left.Prods {
		if !stays(non(p.Left)) {
			continue
		}
		q := prod(newNon(p.Left))
		for _, s := range p.Right {
			if s.Kind == api.SymTerm {
				q.Right = append(q.Right, term(newTerm(s.N)))
			} else {
				q.Right = append(q.Right, non(newNon(s.N)))
			}
		}
		if p.Prec >= 0 {
			q.Prec = newTerm(p.Prec) // -1, if it went
		}
		out.Prods = append(out.Prods, q)
	}
	for _, v := range g.Levels {
		w := api.Level{Assoc: v.Assoc}
		for _, n := range v.Terms {
			if stays(term(n)) {
				w.Terms = append(w.Terms, newTerm(n))
			}
		}
		if len(w.Terms) > 0 {
			out.Levels = append(out.Levels, w)
		}
	}
	return out, api.OK
}

// same tells whether two grammars are, nil and empty lists being one.
func same(a, b api.Grammar) bool {
	sameProd := func(p, q api.Prod) bool {
		return p.Left == q.Left && p.Prec == q.Prec && slices.Equal(p.Right, q.Right)
	}
	sameLevel := func(v, w api.Level) bool { return v.Assoc == w.Assoc && slices.Equal(v.Terms, w.Terms) }
	return slices.Equal(a.Terms, b.Terms) && slices.Equal(a.Nons, b.Nons) && a.Start == b.Start &&
		slices.EqualFunc(a.Prods, b.Prods, sameProd) && slices.EqualFunc(a.Levels, b.Levels, sameLevel)
}

func isZero(g api.Grammar) bool { return same(g, api.Grammar{}) }

// anySyms are symbols of a grammar, nonterminals more often.
func anySyms(r *rand.Rand, g api.Grammar, most int) []api.Sym {
	var l []api.Sym
	for range r.Intn(most + 1) {
		if n := r.Intn(len(g.Terms) + 2*len(g.Nons)); n < len(g.Terms) {
			l = append(l, term(n))
		} else {
			l = append(l, non(r.Intn(len(g.Nons))))
		}
	}
	return l
}

// anyLevels puts some terminals into levels, each into one.
func anyLevels(r *rand.Rand, terms int) []api.Level {
	levels := make([]api.Level, 1+r.Intn(4))
	for n := range terms {
		if at := r.Intn(len(levels) + 1); at < len(levels) {
			levels[at].Assoc = api.Assoc(1 + r.Intn(3))
			levels[at].Terms = append(levels[at].Terms, n)
		}
	}
	return slices.DeleteFunc(levels, func(v api.Level) bool { return len(v.Terms) == 0 })
}

// anyGrammar has at most so many of each, no production twice, and precedences.
func anyGrammar(r *rand.Rand, terms, nons, prods, right int) api.Grammar {
	g := grammarOf(1+r.Intn(terms), 1+r.Intn(nons), 0)
	g.Start = r.Intn(len(g.Nons))
	for range 1 + r.Intn(prods) {
		p := prod(r.Intn(len(g.Nons)), anySyms(r, g, right)...)
		p.Prec = r.Intn(len(g.Terms)+1) - 1
		if !slices.ContainsFunc(g.Prods, func(q api.Prod) bool { return q.Left == p.Left && slices.Equal(q.Right, p.Right) }) {
			g.Prods = append(g.Prods, p)
		}
	}
	g.Levels = anyLevels(r, len(g.Terms))
	return g
}
