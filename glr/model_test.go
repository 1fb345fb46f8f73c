package glr_test

import (
	"math/rand"
	"slices"
	"strconv"
	"strings"
	"testing"

	"gantry/api"
	"gantry/grammar"
	"gantry/notation"
)

func term(n int) api.Sym { return api.Sym{Kind: api.SymTerm, N: n} }
func non(n int) api.Sym  { return api.Sym{Kind: api.SymNon, N: n} }

func syms(l ...api.Sym) []api.Sym { return l }

func prod(left int, right ...api.Sym) api.Prod {
	return api.Prod{Left: left, Right: right, Prec: -1}
}

// numbered are that many names: the letter, and the numbers from 0 on behind it.
func numbered(letter string, n int) []string {
	var l []string
	for i := range n {
		l = append(l, letter+strconv.Itoa(i))
	}
	return l
}

func grammarOf(terms, nons, start int, prods ...api.Prod) api.Grammar {
	return api.Grammar{Terms: numbered("t", terms), Nons: numbered("n", nons), Start: start, Prods: prods}
}

func readOf(t testing.TB, source string) api.Grammar {
	t.Helper()
	g, e, at := notation.Parse(source)
	if e != api.OK {
		t.Fatal(source, e, at)
	}
	return g
}

// text has tokens of these kinds, each with a payload of its own.
func text(kinds ...int) []api.Token {
	var w []api.Token
	for i, k := range kinds {
		w = append(w, api.Token{Kind: k, Text: "x" + strconv.Itoa(i)})
	}
	return w
}

func kindsOf(w []api.Token) []int {
	var l []int
	for _, tok := range w {
		l = append(l, tok.Kind)
	}
	return l
}

func must[T any](x T, e api.Errno) T {
	if e != api.OK {
		panic(e)
	}
	return x
}

// nodeOf is a forest's node; an alternative is a list of numbers, the production ahead of the kids.
func nodeOf(s api.Sym, from, to int, alts ...[]int) api.ForestNode {
	n := api.ForestNode{Sym: s, From: from, To: to}
	for _, l := range alts {
		n.Alts = append(n.Alts, api.ForestAlt{Prod: l[0], Kids: l[1:]})
	}
	return n
}

func forestOf(nodes ...api.ForestNode) api.Forest { return api.Forest{Nodes: nodes} }

func sameForest(a, b api.Forest) bool {
	return slices.EqualFunc(a.Nodes, b.Nodes, func(m, n api.ForestNode) bool {
		return m.Sym == n.Sym && m.From == n.From && m.To == n.To && slices.EqualFunc(m.Alts, n.Alts, func(a, b api.ForestAlt) bool {
			return a.Prod == b.Prod && slices.Equal(a.Kids, b.Kids)
		})
	})
}

func copyOf(f api.Forest) api.Forest {
	f.Nodes = slices.Clone(f.Nodes)
	for n := range f.Nodes {
		f.Nodes[n].Alts = slices.Clone(f.Nodes[n].Alts)
		for i := range f.Nodes[n].Alts {
			f.Nodes[n].Alts[i].Kids = slices.Clone(f.Nodes[n].Alts[i].Kids)
		}
	}
	return f
}

func altsOf(f api.Forest) int {
	n := 0
	for _, node := range f.Nodes {
		n += len(node.Alts)
	}
	return n
}

// over is a symbol over part of a text.
type over struct {
	sym      api.Sym
	from, to int
}

// model is which parts of a text nonterminals give: by rounds, till no round finds more.
type model struct {
	g     api.Grammar
	w     []api.Token
	gives map[over]bool
}

func modelOf(g api.Grammar, w []api.Token) *model {
	m := &model{g, w, map[over]bool{}}
	for before := -1; before < len(m.gives); {
		before = len(m.gives)
		for _, p := range g.Prods {
			for from := range len(w) + 1 {
				for to := from; to <= len(w); to++ {
					if m.row(p.Right, from, to) {
						m.gives[over{non(p.Left), from, to}] = true
					}
				}
			}
		}
	}
	return m
}

func (m *model) is(o over) bool {
	if o.sym.Kind == api.SymTerm {
		return o.to == o.from+1 && m.w[o.from].Kind == o.sym.N
	}
	return m.gives[o]
}

func (m *model) row(l []api.Sym, from, to int) bool {
	if len(l) == 0 {
		return from == to
	}
	for at := from; at <= to; at++ {
		if m.is(over{l[0], from, at}) && m.row(l[1:], at, to) {
			return true
		}
	}
	return false
}

// rows is all ways in which symbols give a part, lower places ahead.
func (m *model) rows(l []api.Sym, from, to int) [][]over {
	if len(l) == 0 && from == to {
		return [][]over{nil}
	}
	var all [][]over
	for at := from; len(l) > 0 && at <= to; at++ {
		if o := (over{l[0], from, at}); m.is(o) {
			for _, rest := range m.rows(l[1:], at, to) {
				all = append(all, slices.Concat([]over{o}, rest))
			}
		}
	}
	return all
}

// modelForest is the forest by the chapter's words.
func modelForest(g api.Grammar, w []api.Token) api.Forest {
	m := modelOf(g, w)
	met := []over{{non(g.Start), 0, len(w)}}
	if !m.is(met[0]) {
		return api.Forest{}
	}
	var f api.Forest
	for i := 0; i < len(met); i++ {
		n := api.ForestNode{Sym: met[i].sym, From: met[i].from, To: met[i].to}
		for p, production := range g.Prods {
			if n.Sym != non(production.Left) {
				continue
			}
			for _, row := range m.rows(production.Right, n.From, n.To) {
				alt := api.ForestAlt{Prod: p}
				for _, o := range row {
					if !slices.Contains(met, o) {
						met = append(met, o)
					}
					alt.Kids = append(alt.Kids, slices.Index(met, o))
				}
				n.Alts = append(n.Alts, alt)
			}
		}
		f.Nodes = append(f.Nodes, n)
	}
	return f
}

// modelMayBe is what P24.2 asks of one node, in its order.
func modelMayBe(g api.Grammar, f api.Forest, i int) bool {
	n := f.Nodes[i]
	switch {
	case n.Sym.Kind == api.SymTerm && grammar.In(g, n.Sym):
		if n.To != n.From+1 || len(n.Alts) > 0 {
			return false
		}
	case n.Sym.Kind == api.SymNon && grammar.In(g, n.Sym):
		if len(n.Alts) == 0 {
			return false
		}
	default:
		return false
	}
	if n.From < 0 || n.To < n.From {
		return false
	}
	var ahead []int
	for _, alt := range n.Alts {
		key, ok := modelKey(g, f, n, alt)
		if !ok || slices.Compare(key, ahead) <= 0 {
			return false
		}
		ahead = key
	}
	return !slices.ContainsFunc(f.Nodes[:i], func(m api.ForestNode) bool {
		return m.Sym == n.Sym && m.From == n.From && m.To == n.To
	})
}

// modelKey is what alternatives stand in order by, if one may be.
func modelKey(g api.Grammar, f api.Forest, n api.ForestNode, alt api.ForestAlt) ([]int, bool) {
	if alt.Prod < 0 || alt.Prod >= len(g.Prods) || non(g.Prods[alt.Prod].Left) != n.Sym {
		return nil, false
	}
	right := g.Prods[alt.Prod].Right
	if len(alt.Kids) != len(right) {
		return nil, false
	}
	key := []int{alt.Prod}
	places := []int{n.From}
	for i, kid := range alt.Kids {
		if kid < 0 || kid >= len(f.Nodes) || f.Nodes[kid].Sym != right[i] {
			return nil, false
		}
		places = append(places, f.Nodes[kid].From, f.Nodes[kid].To)
		key = append(key, f.Nodes[kid].To)
	}
	places = append(places, n.To)
	for i := 0; i < len(places); i += 2 {
		if places[i] != places[i+1] {
			return nil, false
		}
	}
	return key, true
}

// modelCheck is P24.2.
func modelCheck(g api.Grammar, f api.Forest) (api.Errno, int) {
	if e, _ := grammar.Check(g); e != api.OK {
		return e, 0
	}
	for i := range f.Nodes {
		if !modelMayBe(g, f, i) {
			return api.ErrForest, i
		}
	}
	if len(f.Nodes) == 0 {
		return api.OK, 0
	}
	if f.Nodes[0].Sym != non(g.Start) || f.Nodes[0].From != 0 {
		return api.ErrForest, len(f.Nodes)
	}
	met := []int{0}
	for i := 0; i < len(met); i++ {
		for _, alt := range f.Nodes[met[i]].Alts {
			for _, kid := range alt.Kids {
				if !slices.Contains(met, kid) {
					met = append(met, kid)
				}
			}
		}
	}
	if len(met) != len(f.Nodes) || !slices.IsSorted(met) {
		return api.ErrForest, len(f.Nodes)
	}
	return api.OK, len(f.Nodes)
}

// modelLoops is what leads to itself, by all pairs.
func modelLoops(f api.Forest) []int {
	leads := map[[2]int]bool{}
	for n, node := range f.Nodes {
		for _, alt := range node.Alts {
			for _, kid := range alt.Kids {
				if kid >= 0 && kid < len(f.Nodes) {
					leads[[2]int{n, kid}] = true
				}
			}
		}
	}
	for k := range f.Nodes {
		for i := range f.Nodes {
			for j := range f.Nodes {
				if leads[[2]int{i, k}] && leads[[2]int{k, j}] {
					leads[[2]int{i, j}] = true
				}
			}
		}
	}
	var l []int
	for n := range f.Nodes {
		if leads[[2]int{n, n}] {
			l = append(l, n)
		}
	}
	return l
}

// saturated is where the model's counts stop; no test asks for more trees of a model.
const saturated = 1 << 20

// modelCounts is how many trees nodes have that are at most so high, leaves not counted.
func modelCounts(f api.Forest, height int) []int {
	counts := make([]int, len(f.Nodes))
	leaf := func(n api.ForestNode) bool { return len(n.Alts) == 0 && n.Sym.Kind == api.SymTerm }
	for n, node := range f.Nodes {
		if leaf(node) {
			counts[n] = 1
		}
	}
	for range height {
		next := slices.Clone(counts)
		for n, node := range f.Nodes {
			if leaf(node) {
				continue
			}
			next[n] = 0
			for _, alt := range node.Alts {
				product := 1
				for _, kid := range alt.Kids {
					if kid < 0 || kid >= len(f.Nodes) {
						product = 0
					} else {
						product = min(product*counts[kid], saturated)
					}
				}
				next[n] = min(next[n]+product, saturated)
			}
		}
		counts = next
	}
	return counts
}

// modelCount is how many trees node 0 has, at most saturated. If there is a tree with a node above itself, there are such trees of a height above the number of nodes and at most twice that; if there is none, no tree is higher than there are nodes.
func modelCount(f api.Forest) int {
	if len(f.Nodes) == 0 {
		return 0
	}
	few, all := modelCounts(f, len(f.Nodes))[0], modelCounts(f, 2*len(f.Nodes)+1)[0]
	if all > few {
		return saturated
	}
	return all
}

// modelTrees is the trees of a node, none of which has a node above itself.
func modelTrees(f api.Forest, w []api.Token, n int, above []int) []api.Tree {
	node := f.Nodes[n]
	if node.Sym.Kind == api.SymTerm {
		return []api.Tree{{Prod: -1, Tok: w[node.From]}}
	}
	if slices.Contains(above, n) {
		return nil
	}
	above = slices.Concat(above, []int{n})
	var all []api.Tree
	for _, alt := range node.Alts {
		rows := [][]api.Tree{nil}
		for _, kid := range alt.Kids {
			var more [][]api.Tree
			for _, row := range rows {
				for _, t := range modelTrees(f, w, kid, above) {
					more = append(more, slices.Concat(row, []api.Tree{t}))
				}
			}
			rows = more
		}
		for _, row := range rows {
			all = append(all, api.Tree{Prod: alt.Prod, Kids: row})
		}
	}
	return all
}

// modelIs tells whether a tree is one of a node's.
func modelIs(f api.Forest, n int, t api.Tree) bool {
	node := f.Nodes[n]
	if t.Prod == -1 {
		return node.Sym == term(t.Tok.Kind)
	}
	return slices.ContainsFunc(node.Alts, func(alt api.ForestAlt) bool {
		if alt.Prod != t.Prod || len(alt.Kids) != len(t.Kids) {
			return false
		}
		for i, kid := range alt.Kids {
			if !modelIs(f, kid, t.Kids[i]) {
				return false
			}
		}
		return true
	})
}

// modelPrint is a forest as text.
func modelPrint(g api.Grammar, f api.Forest) string {
	out := ""
	for n, node := range f.Nodes {
		name := map[api.SymKind][]string{api.SymTerm: g.Terms, api.SymNon: g.Nons}[node.Sym.Kind][node.Sym.N]
		words := []string{strconv.Itoa(n), name, strconv.Itoa(node.From), strconv.Itoa(node.To)}
		for _, alt := range node.Alts {
			words = append(words, "|", strconv.Itoa(alt.Prod))
			for _, kid := range alt.Kids {
				words = append(words, strconv.Itoa(kid))
			}
		}
		out += strings.Join(words, " ") + "\n"
	}
	return out
}

// eachWord goes over all words of at most so many of the numbers.
func eachWord(numbers []int, most int, do func([]int)) {
	var grow func(w []int)
	grow = func(w []int) {
		do(slices.Clone(w))
		if len(w) < most {
			for _, n := range numbers {
				grow(append(w, n))
			}
		}
	}
	grow(nil)
}

// below are the numbers from 0 up to one below n.
func below(n int) []int {
	var l []int
	for i := range n {
		l = append(l, i)
	}
	return l
}

// shortRights are all right sides of at most two symbols.
func shortRights(terms, nons int) [][]api.Sym {
	var all []api.Sym
	for n := range terms {
		all = append(all, term(n))
	}
	for n := range nons {
		all = append(all, non(n))
	}
	rights := [][]api.Sym{nil}
	for _, a := range all {
		rights = append(rights, syms(a))
		for _, b := range all {
			rights = append(rights, syms(a, b))
		}
	}
	return rights
}

// eachSmall goes over every grammar of these symbols with at most three short productions.
func eachSmall(terms, nons int, do func(api.Grammar)) {
	var all []api.Prod
	for _, right := range shortRights(terms, nons) {
		for n := range nons {
			all = append(all, prod(n, right...))
		}
	}
	for i := range all {
		do(grammarOf(terms, nons, 0, all[i]))
		for j := range i {
			do(grammarOf(terms, nons, 0, all[i], all[j]))
			for k := range j {
				do(grammarOf(terms, nons, 0, all[i], all[j], all[k]))
			}
		}
	}
}

// anySyms are symbols of a grammar, nonterminals more often.
func anySyms(r *rand.Rand, g api.Grammar, most int) []api.Sym {
	var l []api.Sym
	for range r.Intn(most + 1) {
		if n := r.Intn(len(g.Terms) + 2*len(g.Nons)); n < len(g.Terms) {
			l = append(l, term(n))
		} else {
			l = append(l, non(r.Intn(len(g.Nons))))
		}
	}
	return l
}

// anyGrammar has at most so many of each, and no production twice.
func anyGrammar(r *rand.Rand, terms, nons, prods, right int) api.Grammar {
	g := grammarOf(1+r.Intn(terms), 1+r.Intn(nons), 0)
	g.Start = r.Intn(len(g.Nons))
	for range 1 + r.Intn(prods) {
		g.Prods = withProd(g.Prods, prod(r.Intn(len(g.Nons)), anySyms(r, g, right)...))
	}
	return g
}

// withProd puts one in, unless it is there.
func withProd(l []api.Prod, p api.Prod) []api.Prod {
	if slices.ContainsFunc(l, func(q api.Prod) bool { return q.Left == p.Left && slices.Equal(q.Right, p.Right) }) {
		return l
	}
	return append(l, p)
}

// layered has no circular nonterminal, but many that may be nothing: productions without terminals have only higher ones.
func layered(r *rand.Rand, terms, nons, prods, right int) api.Grammar {
	g := anyGrammar(r, terms, nons, prods, right)
	g.Start = 0
	for n := range g.Nons {
		if r.Intn(2) == 0 {
			g.Prods = withProd(g.Prods, prod(n))
		}
	}
	g.Prods = slices.DeleteFunc(g.Prods, func(p api.Prod) bool {
		anyTerm := slices.ContainsFunc(p.Right, func(s api.Sym) bool { return s.Kind == api.SymTerm })
		return !anyTerm && slices.ContainsFunc(p.Right, func(s api.Sym) bool { return s.N <= p.Left })
	})
	g.Prods = withProd(g.Prods, prod(len(g.Nons)-1, term(0)))
	return g
}

// anyKinds has at most so many numbers, now and then one that is no terminal's.
func anyKinds(r *rand.Rand, g api.Grammar, most int) []int {
	var w []int
	for range r.Intn(most + 1) {
		w = append(w, r.Intn(len(g.Terms)))
	}
	if len(w) > 0 && r.Intn(8) == 0 {
		w[r.Intn(len(w))] = strange(r, g)
	}
	return w
}

// strange is no terminal's number.
func strange(r *rand.Rand, g api.Grammar) int {
	const most = int(^uint(0) >> 1)
	return []int{-1, len(g.Terms), len(g.Terms) + 1, most, -most - 1}[r.Intn(5)]
}

func seenAll(t *testing.T, seen map[string]int, least int, names ...string) {
	t.Helper()
	for _, name := range names {
		if seen[name] < least {
			t.Error("too seldom:", name, seen)
		}
	}
}
