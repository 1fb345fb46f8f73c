package sentence_test

import (
	"cmp"
	"maps"
	"math/rand"
	"slices"
	"strconv"

	"gantry/api"
)

func term(n int) api.Sym { return api.Sym{Kind: api.SymTerm, N: n} }
func non(n int) api.Sym  { return api.Sym{Kind: api.SymNon, N: n} }

func syms(l ...api.Sym) []api.Sym { return l }

func prod(left int, right ...api.Sym) api.Prod {
	return api.Prod{Left: left, Right: right, Prec: -1}
}

// numbered are that many names: the letter, and the numbers from 0 on behind it.
func numbered(letter string, n int) []string {
	var l []string
	for i := range n {
		l = append(l, letter+strconv.Itoa(i))
	}
	return l
}

func grammarOf(terms, nons, start int, prods ...api.Prod) api.Grammar {
	return api.Grammar{Terms: numbered("t", terms), Nons: numbered("n", nons), Start: start, Prods: prods}
}

func leaf(kind int) api.Tree { return api.Tree{Prod: -1, Tok: api.Token{Kind: kind}} }

func node(prod int, kids ...api.Tree) api.Tree { return api.Tree{Prod: prod, Kids: kids} }

// texts is words, a byte for each number: their order is that of lists of numbers.
type texts map[string]bool

func text(w []int) string {
	var b []byte
	for _, n := range w {
		b = append(b, byte(n))
	}
	return string(b)
}

func list(text string) []int {
	var l []int
	for _, b := range []byte(text) {
		l = append(l, int(b))
	}
	return l
}

// joined is each of the one set ahead of each of the other, if that has at most so many.
func joined(a, b texts, most int) texts {
	all := texts{}
	for u := range a {
		for v := range b {
			if len(u)+len(v) <= most {
				all[u+v] = true
			}
		}
	}
	return all
}

// grown lays for each nonterminal together what its productions give by the sets that are there, till none grows.
func grown(g api.Grammar, gives func(p api.Prod, known []texts) texts) []texts {
	known := make([]texts, len(g.Nons))
	for n := range known {
		known[n] = texts{}
	}
	for changed := true; changed; {
		changed = false
		for _, p := range g.Prods {
			before := len(known[p.Left])
			maps.Copy(known[p.Left], gives(p, known))
			changed = changed || len(known[p.Left]) > before
		}
	}
	return known
}

func of(known []texts, s api.Sym) texts {
	if s.Kind == api.SymTerm {
		return texts{text([]int{s.N}): true}
	}
	return known[s.N]
}

// modelWords is, by nonterminals, all words that they give, of at most so many terminals.
func modelWords(g api.Grammar, most int) []texts {
	return grown(g, func(p api.Prod, known []texts) texts {
		all := texts{"": true}
		for _, s := range p.Right {
			all = joined(all, of(known, s), most)
		}
		return all
	})
}

// ofLength is the words of a length, in their order.
func ofLength(all texts, length int) [][]int {
	var l [][]int
	for _, w := range slices.Sorted(maps.Keys(all)) {
		if len(w) == length {
			l = append(l, list(w))
		}
	}
	return l
}

// modelFruitful tells which nonterminals give a word, however long.
func modelFruitful(g api.Grammar) []texts {
	return grown(g, func(p api.Prod, known []texts) texts {
		if slices.ContainsFunc(p.Right, func(s api.Sym) bool { return s.Kind == api.SymNon && len(known[s.N]) == 0 }) {
			return nil
		}
		return texts{"": true}
	})
}

// modelBeginnings is, by nonterminals, all lists of at most so many terminals with which words of theirs begin: whole words of some first symbols, and then a beginning of the next one's.
func modelBeginnings(g api.Grammar, most int) []texts {
	words, fruitful := modelWords(g, most), modelFruitful(g)
	return grown(g, func(p api.Prod, known []texts) texts {
		if slices.ContainsFunc(p.Right, func(s api.Sym) bool { return s.Kind == api.SymNon && len(fruitful[s.N]) == 0 }) {
			return nil
		}
		ahead := texts{"": true}
		all := texts{"": true}
		for _, s := range p.Right {
			maps.Copy(all, joined(ahead, of(known, s), most))
			ahead = joined(ahead, of(words, s), most)
		}
		return all
	})
}

// modelLengths searches by rounds: in each round trees may be one higher. A length is at most 2^31 - 1.
func modelLengths(g api.Grammar) []int {
	l := slices.Repeat([]int{-1}, len(g.Nons))
	for range len(g.Nons) + 1 {
		next := slices.Clone(l)
		for _, p := range g.Prods {
			sum := 0
			for _, s := range p.Right {
				switch {
				case s.Kind == api.SymTerm:
					sum++
				case l[s.N] < 0:
					sum += 1 << 50
				default:
					sum += l[s.N]
				}
			}
			if sum < 1<<50 && (next[p.Left] < 0 || sum < next[p.Left]) {
				next[p.Left] = min(sum, 1<<31-1)
			}
		}
		l = next
	}
	return l
}

// forest is all trees of symbols over the parts of a word.
type forest struct {
	grammar api.Grammar
	word    []int
	found   map[place][]api.Tree
}

type place struct {
	sym                api.Sym
	from, to, atHeight int
}

// modelTrees is all trees of a nonterminal and a word, of a grammar without circular ones, in their order. On no way down a nonterminal stands twice over one part of the word: trees are no higher than this.
func modelTrees(g api.Grammar, n int, word []int) []api.Tree {
	f := forest{g, word, map[place][]api.Tree{}}
	height := len(g.Nons) * (len(word) + 1)
	all := slices.Clone(f.trees(place{non(n), 0, len(word), height}))
	if len(f.trees(place{non(n), 0, len(word), height + 1})) != len(all) {
		panic("there are higher trees")
	}
	slices.SortFunc(all, modelCompare)
	return all
}

// trees are those of at most that height.
func (f forest) trees(p place) []api.Tree {
	if p.sym.Kind == api.SymTerm {
		if p.to == p.from+1 && f.word[p.from] == p.sym.N {
			return []api.Tree{leaf(p.sym.N)}
		}
		return nil
	}
	all, known := f.found[p]
	if known || p.atHeight == 0 {
		return all
	}
	for i, q := range f.grammar.Prods {
		if q.Left == p.sym.N {
			for _, row := range f.rows(q.Right, p.from, p.to, p.atHeight-1) {
				all = append(all, node(i, row...))
			}
		}
	}
	f.found[p] = all
	return all
}

// rows are all rows of trees of these symbols.
func (f forest) rows(right []api.Sym, from, to, height int) [][]api.Tree {
	if len(right) == 0 {
		if from == to {
			return [][]api.Tree{nil}
		}
		return nil
	}
	var all [][]api.Tree
	for at := from; at <= to; at++ {
		firsts := f.trees(place{right[0], from, at, height})
		if len(firsts) == 0 {
			continue
		}
		for _, rest := range f.rows(right[1:], at, to, height) {
			for _, first := range firsts {
				all = append(all, slices.Concat([]api.Tree{first}, rest))
			}
		}
	}
	return all
}

func kinds(t api.Tree) []int {
	if t.Prod == -1 {
		return []int{t.Tok.Kind}
	}
	var w []int
	for _, kid := range t.Kids {
		w = append(w, kinds(kid)...)
	}
	return w
}

// modelCompare is the order of trees as the chapter says it.
func modelCompare(a, b api.Tree) int {
	if a.Prod != b.Prod {
		return cmp.Compare(a.Prod, b.Prod)
	}
	for i := range a.Kids {
		if c := cmp.Compare(len(kinds(a.Kids[i])), len(kinds(b.Kids[i]))); c != 0 {
			return c
		}
	}
	for i := range a.Kids {
		if c := modelCompare(a.Kids[i], b.Kids[i]); c != 0 {
			return c
		}
	}
	return 0
}

func sameTree(a, b api.Tree) bool {
	return a.Prod == b.Prod && a.Tok == b.Tok && slices.EqualFunc(a.Kids, b.Kids, sameTree)
}

func sameWords(a, b [][]int) bool { return slices.EqualFunc(a, b, slices.Equal) }

// eachWord goes over all words of at most so many terminals.
func eachWord(terms, most int, do func([]int)) {
	var grow func(w []int)
	grow = func(w []int) {
		do(slices.Clone(w))
		if len(w) < most {
			for n := range terms {
				grow(append(w, n))
			}
		}
	}
	grow(nil)
}

// shortRights are all right sides of at most two symbols.
func shortRights(terms, nons int) [][]api.Sym {
	var all []api.Sym
	for n := range terms {
		all = append(all, term(n))
	}
	for n := range nons {
		all = append(all, non(n))
	}
	rights := [][]api.Sym{nil}
	for _, a := range all {
		rights = append(rights, syms(a))
		for _, b := range all {
			rights = append(rights, syms(a, b))
		}
	}
	return rights
}

// eachSmall goes over every grammar of these symbols with at most three short productions.
func eachSmall(terms, nons int, do func(api.Grammar)) {
	var all []api.Prod
	for _, right := range shortRights(terms, nons) {
		for n := range nons {
			all = append(all, prod(n, right...))
		}
	}
	for i := range all {
		do(grammarOf(terms, nons, 0, all[i]))
		for j := range i {
			do(grammarOf(terms, nons, 0, all[i], all[j]))
			for k := range j {
				do(grammarOf(terms, nons, 0, all[i], all[j], all[k]))
			}
		}
	}
}

// anySyms are symbols of a grammar, nonterminals more often.
func anySyms(r *rand.Rand, g api.Grammar, most int) []api.Sym {
	var l []api.Sym
	for range r.Intn(most + 1) {
		if n := r.Intn(len(g.Terms) + 2*len(g.Nons)); n < len(g.Terms) {
			l = append(l, term(n))
		} else {
			l = append(l, non(r.Intn(len(g.Nons))))
		}
	}
	return l
}

// anyGrammar has at most so many of each, and no production twice.
func anyGrammar(r *rand.Rand, terms, nons, prods, right int) api.Grammar {
	g := grammarOf(1+r.Intn(terms), 1+r.Intn(nons), 0)
	g.Start = r.Intn(len(g.Nons))
	for range 1 + r.Intn(prods) {
		g.Prods = withProd(g.Prods, prod(r.Intn(len(g.Nons)), anySyms(r, g, right)...))
	}
	return g
}

// withProd puts one in, unless it is there.
func withProd(l []api.Prod, p api.Prod) []api.Prod {
	if slices.ContainsFunc(l, func(q api.Prod) bool { return q.Left == p.Left && slices.Equal(q.Right, p.Right) }) {
		return l
	}
	return append(l, p)
}
