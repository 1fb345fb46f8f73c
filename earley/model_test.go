package earley_test

import (
	"math/rand"
	"slices"
	"strconv"

	"gantry/api"
	"gantry/earley"
)

func term(n int) api.Sym { return api.Sym{Kind: api.SymTerm, N: n} }
func non(n int) api.Sym  { return api.Sym{Kind: api.SymNon, N: n} }

func syms(l ...api.Sym) []api.Sym { return l }

func prod(left int, right ...api.Sym) api.Prod {
	return api.Prod{Left: left, Right: right, Prec: -1}
}

// numbered are that many names: the letter, and the numbers from 0 on behind it.
func numbered(letter string, n int) []string {
	var l []string
	for i := range n {
		l = append(l, letter+strconv.Itoa(i))
	}
	return l
}

func grammarOf(terms, nons, start int, prods ...api.Prod) api.Grammar {
	return api.Grammar{Terms: numbered("t", terms), Nons: numbered("n", nons), Start: start, Prods: prods}
}

func leaf(kind int) api.Tree { return api.Tree{Prod: -1, Tok: api.Token{Kind: kind}} }

func node(prod int, kids ...api.Tree) api.Tree { return api.Tree{Prod: prod, Kids: kids} }

func isZero(t api.Tree) bool { return t.Prod == 0 && t.Tok == (api.Token{}) && t.Kids == nil }

func must[T any](x T, e api.Errno) T {
	if e != api.OK {
		panic(e)
	}
	return x
}

// over is a symbol, or a place ahead of it, over part of a text.
type over struct {
	sym      api.Sym
	from, to int
}

// model is what the chapter's words say of a grammar and a text: each by rounds, till no round finds more.
type model struct {
	g      api.Grammar
	w      []int
	gives  map[over]bool // does a nonterminal give the part?
	begins map[over]bool // may a nonterminal begin at from?
	fruit  []bool        // does a nonterminal give any text at all?
	opens  map[over]bool // does some text of a nonterminal begin with all that stands from from on?
}

func modelOf(g api.Grammar, w []int) *model {
	m := &model{g: g, w: w, gives: map[over]bool{}, begins: map[over]bool{{sym: non(g.Start)}: true}, fruit: make([]bool, len(g.Nons)), opens: map[over]bool{}}
	m.settle(m.moreGiven)
	m.settle(m.moreBegun)
	m.settle(m.moreFruit)
	m.settle(m.moreOpened)
	return m
}

func (m *model) settle(round func() bool) {
	for round() {
	}
}

// row tells whether symbols give a part.
func (m *model) row(l []api.Sym, from, to int) bool {
	if len(l) == 0 {
		return from == to
	}
	if l[0].Kind == api.SymTerm {
		return from < to && m.w[from] == l[0].N && m.row(l[1:], from+1, to)
	}
	for at := from; at <= to; at++ {
		if m.gives[over{l[0], from, at}] && m.row(l[1:], at, to) {
			return true
		}
	}
	return false
}

func (m *model) moreGiven() bool {
	before := len(m.gives)
	for _, p := range m.g.Prods {
		for from := len(m.w); from >= 0; from-- {
			for to := from; to <= len(m.w); to++ {
				if m.row(p.Right, from, to) {
					m.gives[over{non(p.Left), from, to}] = true
				}
			}
		}
	}
	return len(m.gives) > before
}

func (m *model) moreBegun() bool {
	before := len(m.begins)
	for _, p := range m.g.Prods {
		for dot, s := range p.Right {
			for j := range len(m.w) + 1 {
				for k := j; k <= len(m.w); k++ {
					if s.Kind == api.SymNon && m.begins[over{sym: non(p.Left), from: j}] && m.row(p.Right[:dot], j, k) {
						m.begins[over{sym: s, from: k}] = true
					}
				}
			}
		}
	}
	return len(m.begins) > before
}

func (m *model) fruitful(l []api.Sym) bool {
	return !slices.ContainsFunc(l, func(s api.Sym) bool { return s.Kind == api.SymNon && !m.fruit[s.N] })
}

func (m *model) moreFruit() bool {
	grew := false
	for _, p := range m.g.Prods {
		if !m.fruit[p.Left] && m.fruitful(p.Right) {
			m.fruit[p.Left] = true
			grew = true
		}
	}
	return grew
}

func (m *model) moreOpened() bool {
	before := len(m.opens)
	n := len(m.w)
	for _, p := range m.g.Prods {
		if !m.fruitful(p.Right) {
			continue
		}
		for from := n; from >= 0; from-- {
			if m.rowOpens(p.Right, from) {
				m.opens[over{sym: non(p.Left), from: from}] = true
			}
		}
	}
	return len(m.opens) > before
}

// rowOpens: all that is left is nothing, or some first symbols give a part of it, and the next one's text begins with the rest.
func (m *model) rowOpens(l []api.Sym, from int) bool {
	n := len(m.w)
	if from == n {
		return true
	}
	for dot, s := range l {
		for at := from; at < n; at++ {
			opens := s.Kind == api.SymTerm && at == n-1 && m.w[at] == s.N || m.opens[over{sym: s, from: at}]
			if opens && m.row(l[:dot], from, at) {
				return true
			}
		}
	}
	return false
}

// text tells whether start gives the whole text, beginning whether a text of start begins with it.
func (m *model) text() bool      { return m.gives[over{non(m.g.Start), 0, len(m.w)}] }
func (m *model) beginning() bool { return m.opens[over{sym: non(m.g.Start)}] }

// modelChart asks each item of each place.
func modelChart(g api.Grammar, w []int) [][]earley.State {
	m := modelOf(g, w)
	all := make([][]earley.State, len(w)+1)
	for i := range all {
		for dot := range 2 {
			if m.row(syms(non(g.Start))[:dot], 0, i) {
				all[i] = append(all[i], earley.State{Prod: -1, Dot: dot})
			}
		}
		for n, p := range g.Prods {
			for dot := range len(p.Right) + 1 {
				for from := range i + 1 {
					if m.begins[over{sym: non(p.Left), from: from}] && m.row(p.Right[:dot], from, i) {
						all[i] = append(all[i], earley.State{Prod: n, Dot: dot, From: from})
					}
				}
			}
		}
	}
	return all
}

// modelNext asks each terminal.
func modelNext(g api.Grammar, w []int) []int {
	var l []int
	for t := range g.Terms {
		if modelOf(g, slices.Concat(w, []int{t})).beginning() {
			l = append(l, t)
		}
	}
	if modelOf(g, w).text() {
		l = append(l, len(g.Terms))
	}
	return l
}

// modelDead asks each beginning.
func modelDead(g api.Grammar, w []int) (int, bool) {
	if modelOf(g, w).text() {
		return 0, false
	}
	for i := range w {
		if !modelOf(g, w[:i+1]).beginning() {
			return i, true
		}
	}
	return len(w), true
}

// rest is what of a production stands behind a dot, over part of a text.
type rest struct {
	prod, dot, from, to int
}

// teller counts and tells the trees of a text, of a grammar without circular nonterminals: by the first kid and then those behind it.
type teller struct {
	*model
	counted map[rest]int
}

func tellerOf(g api.Grammar, w []int) *teller { return &teller{modelOf(g, w), map[rest]int{}} }

// trees is how many there are, at most 4097.
func (m *teller) trees(s api.Sym, from, to int) int {
	if s.Kind == api.SymTerm {
		return 1
	}
	n := 0
	for i, p := range m.g.Prods {
		if p.Left == s.N {
			n += m.rows(rest{i, 0, from, to})
		}
	}
	return min(n, 4097)
}

// rows counts only what there is, so that it never asks for itself.
func (m *teller) rows(r rest) int {
	right := m.g.Prods[r.prod].Right[r.dot:]
	if len(right) == 0 || !m.row(right, r.from, r.to) {
		if len(right) == 0 && r.from == r.to {
			return 1
		}
		return 0
	}
	if n, known := m.counted[r]; known {
		return n
	}
	n := 0
	for at := r.from; at <= r.to; at++ {
		if m.row(right[:1], r.from, at) && m.row(right[1:], at, r.to) {
			n += m.trees(right[0], r.from, at) * m.rows(rest{r.prod, r.dot + 1, at, r.to})
		}
	}
	m.counted[r] = min(n, 4097)
	return m.counted[r]
}

// first is the first tree of what has one: the lowest production, then the shortest kids, then each kid's first tree.
func (m *teller) first(s api.Sym, from, to int) api.Tree {
	if s.Kind == api.SymTerm {
		return leaf(s.N)
	}
	for i, p := range m.g.Prods {
		if p.Left != s.N || !m.row(p.Right, from, to) {
			continue
		}
		t := node(i)
		for dot, kid := range p.Right {
			at := from
			for !m.row(p.Right[dot:dot+1], from, at) || !m.row(p.Right[dot+1:], at, to) {
				at++
			}
			t.Kids = append(t.Kids, m.first(kid, from, at))
			from = at
		}
		return t
	}
	panic("there is none")
}

// eachWord goes over all words of at most so many of the numbers.
func eachWord(numbers []int, most int, do func([]int)) {
	var grow func(w []int)
	grow = func(w []int) {
		do(slices.Clone(w))
		if len(w) < most {
			for _, n := range numbers {
				grow(append(w, n))
			}
		}
	}
	grow(nil)
}

// below are the numbers from 0 up to one below n.
func below(n int) []int {
	var l []int
	for i := range n {
		l = append(l, i)
	}
	return l
}

// shortRights are all right sides of at most two symbols.
func shortRights(terms, nons int) [][]api.Sym {
	var all []api.Sym
	for n := range terms {
		all = append(all, term(n))
	}
	for n := range nons {
		all = append(all, non(n))
	}
	rights := [][]api.Sym{nil}
	for _, a := range all {
		rights = append(rights, syms(a))
		for _, b := range all {
			rights = append(rights, syms(a, b))
		}
	}
	return rights
}

// eachSmall goes over every grammar of these symbols with at most three short productions.
func eachSmall(terms, nons int, do func(api.Grammar)) {
	var all []api.Prod
	for _, right := range shortRights(terms, nons) {
		for n := range nons {
			all = append(all, prod(n, right...))
		}
	}
	for i := range all {
		do(grammarOf(terms, nons, 0, all[i]))
		for j := range i {
			do(grammarOf(terms, nons, 0, all[i], all[j]))
			for k := range j {
				do(grammarOf(terms, nons, 0, all[i], all[j], all[k]))
			}
		}
	}
}

// anySyms are symbols of a grammar, nonterminals more often.
func anySyms(r *rand.Rand, g api.Grammar, most int) []api.Sym {
	var l []api.Sym
	for range r.Intn(most + 1) {
		if n := r.Intn(len(g.Terms) + 2*len(g.Nons)); n < len(g.Terms) {
			l = append(l, term(n))
		} else {
			l = append(l, non(r.Intn(len(g.Nons))))
		}
	}
	return l
}

// anyGrammar has at most so many of each, and no production twice.
func anyGrammar(r *rand.Rand, terms, nons, prods, right int) api.Grammar {
	g := grammarOf(1+r.Intn(terms), 1+r.Intn(nons), 0)
	g.Start = r.Intn(len(g.Nons))
	for range 1 + r.Intn(prods) {
		g.Prods = withProd(g.Prods, prod(r.Intn(len(g.Nons)), anySyms(r, g, right)...))
	}
	return g
}

// withProd puts one in, unless it is there.
func withProd(l []api.Prod, p api.Prod) []api.Prod {
	if slices.ContainsFunc(l, func(q api.Prod) bool { return q.Left == p.Left && slices.Equal(q.Right, p.Right) }) {
		return l
	}
	return append(l, p)
}
