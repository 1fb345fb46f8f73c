package items_test

import (
	"cmp"
	"math/rand"
	"slices"
	"strconv"

	"gantry/api"
	"gantry/first"
)

func term(n int) api.Sym { return api.Sym{Kind: api.SymTerm, N: n} }
func non(n int) api.Sym  { return api.Sym{Kind: api.SymNon, N: n} }

func syms(l ...api.Sym) []api.Sym { return l }

func prod(left int, right ...api.Sym) api.Prod {
	return api.Prod{Left: left, Right: right, Prec: -1}
}

func item(prod, dot int, look ...int) api.Item {
	return api.Item{Prod: prod, Dot: dot, Look: look}
}

func list(l ...api.Item) []api.Item { return l }

// numbered are that many names: the letter, and the numbers from 0 on behind it.
func numbered(letter string, n int) []string {
	var l []string
	for i := range n {
		l = append(l, letter+strconv.Itoa(i))
	}
	return l
}

func grammarOf(terms, nons, start int, prods ...api.Prod) api.Grammar {
	return api.Grammar{Terms: numbered("t", terms), Nons: numbered("n", nons), Start: start, Prods: prods}
}

func must[T any](x T, e api.Errno) T {
	if e != api.OK {
		panic(e)
	}
	return x
}

// once is the numbers, rising, each once.
func once(l []int) []int {
	l = slices.Clone(l)
	slices.Sort(l)
	return slices.Compact(l)
}

func part(a, b []int) bool {
	return !slices.ContainsFunc(a, func(n int) bool { return !slices.Contains(b, n) })
}

func coreOf(i api.Item) api.Core { return api.Core{Prod: i.Prod, Dot: i.Dot} }

func compareCores(a, b api.Core) int {
	return cmp.Or(cmp.Compare(a.Prod, b.Prod), cmp.Compare(a.Dot, b.Dot))
}

func same(a, b []api.Item) bool {
	return slices.EqualFunc(a, b, func(x, y api.Item) bool {
		return coreOf(x) == coreOf(y) && slices.Equal(x.Look, y.Look)
	})
}

// rightOf is a production's right side; that of start's own is the start alone.
func rightOf(g api.Grammar, prod int) []api.Sym {
	if prod == -1 {
		return syms(non(g.Start))
	}
	return g.Prods[prod].Right
}

// coresOf are all cores that there are, in order.
func coresOf(g api.Grammar) []api.Core {
	var l []api.Core
	for p := -1; p < len(g.Prods); p++ {
		for dot := range len(rightOf(g, p)) + 1 {
			l = append(l, api.Core{Prod: p, Dot: dot})
		}
	}
	return l
}

// behindOf is the symbol behind the dot, zero of a complete item.
func behindOf(g api.Grammar, i api.Item) api.Sym {
	if right := rightOf(g, i.Prod); i.Dot < len(right) {
		return right[i.Dot]
	}
	return api.Sym{}
}

// modelNormal has of each core, in order, all lookaheads that any item has for it.
func modelNormal(l []api.Item) []api.Item {
	var cores []api.Core
	for _, i := range l {
		cores = append(cores, coreOf(i))
	}
	slices.SortFunc(cores, compareCores)
	var all []api.Item
	for _, c := range slices.Compact(cores) {
		var look []int
		for _, i := range l {
			if coreOf(i) == c {
				look = append(look, i.Look...)
			}
		}
		all = append(all, item(c.Prod, c.Dot, once(look)...))
	}
	return all
}

// modelWithin holds each item against each.
func modelWithin(a, b []api.Item) bool {
	for _, i := range a {
		if !slices.ContainsFunc(b, func(j api.Item) bool { return coreOf(i) == coreOf(j) && part(i.Look, j.Look) }) {
			return false
		}
	}
	return true
}

// claims is the least nullable and first, which layer 6 tells.
type claims struct {
	nullable []bool
	first    [][]int
}

func claimsOf(g api.Grammar) claims {
	return claims{must(first.Nullable(g)), must(first.First(g))}
}

// askedBy are all items that a list must have if it is closed, as the chapter says it.
func askedBy(g api.Grammar, c claims, l []api.Item) []api.Item {
	var all []api.Item
	for _, i := range l {
		s := behindOf(g, i)
		if s.Kind != api.SymNon {
			continue
		}
		look := must(first.Of(g, c.nullable, c.first, rightOf(g, i.Prod)[i.Dot+1:], i.Look))
		for p := range g.Prods {
			if g.Prods[p].Left == s.N {
				all = append(all, item(p, 0, look...))
			}
		}
	}
	return all
}

func isClosed(g api.Grammar, c claims, l []api.Item) bool {
	return modelWithin(askedBy(g, c, l), l)
}

// modelClosure adds what is asked for, round by round.
func modelClosure(g api.Grammar, c claims, l []api.Item) []api.Item {
	for {
		more := modelNormal(slices.Concat(l, askedBy(g, c, l)))
		if same(l, more) {
			return l
		}
		l = more
	}
}

func modelGoto(g api.Grammar, l []api.Item, s api.Sym) []api.Item {
	var all []api.Item
	for _, i := range l {
		if behindOf(g, i) == s {
			all = append(all, item(i.Prod, i.Dot+1, i.Look...))
		}
	}
	return all
}

// symbolsOf are all symbols of a grammar, terminals ahead, rising.
func symbolsOf(g api.Grammar) []api.Sym {
	var l []api.Sym
	for n := range g.Terms {
		l = append(l, term(n))
	}
	for n := range g.Nons {
		l = append(l, non(n))
	}
	return l
}

func modelSymbols(g api.Grammar, l []api.Item) []api.Sym {
	return slices.DeleteFunc(symbolsOf(g), func(s api.Sym) bool {
		return !slices.ContainsFunc(l, func(i api.Item) bool { return behindOf(g, i) == s })
	})
}

// modelPrint puts a blank ahead of each word but the first.
func modelPrint(g api.Grammar, i api.Item) string {
	text := "$start"
	if i.Prod >= 0 {
		text = g.Nons[g.Prods[i.Prod].Left]
	}
	text += " ->"
	right := rightOf(g, i.Prod)
	for at := range len(right) + 1 {
		if at == i.Dot {
			text += " ."
		}
		if at < len(right) && right[at].Kind == api.SymTerm {
			text += " " + g.Terms[right[at].N]
		} else if at < len(right) {
			text += " " + g.Nons[right[at].N]
		}
	}
	text += " ,"
	for _, n := range i.Look {
		text += " " + append(slices.Clone(g.Terms), "$")[n]
	}
	return text
}

// modelItemThere tells whether Prod and Dot may be.
func modelItemThere(g api.Grammar, i api.Item) bool { return slices.Contains(coresOf(g), coreOf(i)) }

func modelInRange(g api.Grammar, look []int) bool {
	return !slices.ContainsFunc(look, func(n int) bool { return n < 0 || n > len(g.Terms) })
}

// modelCheck is the first fault of a list and its place, item by item.
func modelCheck(g api.Grammar, l []api.Item) (api.Errno, int) {
	for at, i := range l {
		switch {
		case !modelItemThere(g, i):
			return api.ErrItem, at
		case !modelInRange(g, i.Look):
			return api.ErrRange, at
		case !slices.Equal(i.Look, once(i.Look)):
			return api.ErrOrder, at
		case at > 0 && compareCores(coreOf(l[at-1]), coreOf(i)) != -1:
			return api.ErrOrder, at
		}
	}
	return api.OK, len(l)
}

// modelNormalFault asks the whole list for one fault ahead of the next one.
func modelNormalFault(g api.Grammar, l []api.Item) api.Errno {
	if slices.ContainsFunc(l, func(i api.Item) bool { return !modelItemThere(g, i) }) {
		return api.ErrItem
	}
	if slices.ContainsFunc(l, func(i api.Item) bool { return !modelInRange(g, i.Look) }) {
		return api.ErrRange
	}
	return api.OK
}

// anySyms are symbols of a grammar, nonterminals more often.
func anySyms(r *rand.Rand, g api.Grammar, most int) []api.Sym {
	var l []api.Sym
	for range r.Intn(most + 1) {
		if n := r.Intn(len(g.Terms) + 2*len(g.Nons)); n < len(g.Terms) {
			l = append(l, term(n))
		} else {
			l = append(l, non(r.Intn(len(g.Nons))))
		}
	}
	return l
}

// anyGrammar has at most so many of each, and no production twice.
func anyGrammar(r *rand.Rand, terms, nons, prods, right int) api.Grammar {
	g := grammarOf(1+r.Intn(terms), 1+r.Intn(nons), 0)
	g.Start = r.Intn(len(g.Nons))
	for range 1 + r.Intn(prods) {
		p := prod(r.Intn(len(g.Nons)), anySyms(r, g, right)...)
		if !slices.ContainsFunc(g.Prods, func(q api.Prod) bool { return q.Left == p.Left && slices.Equal(q.Right, p.Right) }) {
			g.Prods = append(g.Prods, p)
		}
	}
	return g
}

// anyItems is a list that may be; of every few cores one is in it.
func anyItems(r *rand.Rand, g api.Grammar, few int) []api.Item {
	var l []api.Item
	for _, c := range coresOf(g) {
		if r.Intn(few) > 0 {
			continue
		}
		var look []int
		for n := range len(g.Terms) + 1 {
			if r.Intn(3) == 0 {
				look = append(look, n)
			}
		}
		l = append(l, item(c.Prod, c.Dot, look...))
	}
	return l
}

// strangeItems are items of few cores and lookaheads, in any order, as often as they like, no grammar's.
func strangeItems(r *rand.Rand, most int) []api.Item {
	var l []api.Item
	for range r.Intn(most + 1) {
		i := item(r.Intn(4)-2, r.Intn(3)-1)
		for range r.Intn(4) {
			i.Look = append(i.Look, r.Intn(5)-2)
		}
		l = append(l, i)
	}
	return l
}

// shortRights are all right sides of at most two symbols.
func shortRights(terms, nons int) [][]api.Sym {
	rights := [][]api.Sym{nil}
	all := symbolsOf(grammarOf(terms, nons, 0))
	for _, a := range all {
		rights = append(rights, syms(a))
		for _, b := range all {
			rights = append(rights, syms(a, b))
		}
	}
	return rights
}

// eachSmall goes over every grammar of one terminal, two nonterminals and at most three short productions.
func eachSmall(do func(api.Grammar)) {
	var all []api.Prod
	for _, right := range shortRights(1, 2) {
		all = append(all, prod(0, right...), prod(1, right...))
	}
	for start := range 2 {
		for i := range all {
			do(grammarOf(1, 2, start, all[i]))
			for j := range i {
				do(grammarOf(1, 2, start, all[i], all[j]))
				for k := range j {
					do(grammarOf(1, 2, start, all[i], all[j], all[k]))
				}
			}
		}
	}
}
