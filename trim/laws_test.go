package trim_test

import (
	"math/rand"
	"reflect"
	"slices"
	"strings"
	"testing"

	"gantry/api"
	"gantry/grammar"
	"gantry/trim"
)

// P7.3: Trim's answer may be, has nothing barren and nothing unreached, and is its own answer; Wells' answer is well-formed, and Well is OK of just what Wells leaves as it is.
func TestTrimIsAllOfUse(t *testing.T) {
	r := rand.New(rand.NewSource(730))
	trimmed, wells := 0, 0
	ask := func(g api.Grammar) {
		h, e := trim.Trim(g)
		if e == api.OK {
			trimmed++
			if e, at := grammar.Check(h); e != api.OK {
				t.Fatal("Check:", g, h, e, at)
			}
			if b, u := must(trim.Barren(h)), must(trim.Unreached(h)); len(b)+len(u) != 0 {
				t.Fatal("of no use:", g, h, b, u)
			}
			if again, e := trim.Trim(h); e != api.OK || !same(again, h) {
				t.Fatal("Trim of Trim:", g, h, again, e)
			}
		}
		w, e := trim.Wells(g)
		if e == api.OK {
			wells++
			if e, s := trim.Well(w); e != api.OK || s != (api.Sym{}) || !same(w, h) {
				t.Fatal("Wells:", g, w, h, e, s)
			}
		}
		well, _ := trim.Well(g)
		if (well == api.OK) != (e == api.OK && same(w, g)) {
			t.Fatal("Well and Wells:", g, well, w, e)
		}
	}
	for range 3000 {
		ask(anyGrammar(r, 5, 5, 14, 3))
	}
	for range 1000 {
		ask(anyGrammar(r, 64, 64, 256, 16))
	}
	if trimmed < 1000 || wells < 500 {
		t.Error("too few:", trimmed, wells)
	}
}

// printed are the trees of a symbol up to a height, by names, in the order of productions; at most so many of each root and height.
func printed(g api.Grammar, s api.Sym, height, most int) []string {
	if s.Kind == api.SymTerm {
		return []string{g.Terms[s.N]}
	}
	if height == 0 {
		return nil
	}
	var all []string
	for _, i := range grammar.Rules(g, s.N) {
		parts := []string{"(" + g.Nons[s.N]}
		for _, kid := range g.Prods[i].Right {
			var next []string
			kids := printed(g, kid, height-1, most)
			for _, begin := range parts {
				for _, tree := range kids {
					next = append(next, begin+" "+tree)
				}
			}
			parts = next[:min(len(next), most)]
		}
		for _, begin := range parts {
			all = append(all, begin+")")
		}
	}
	return all[:min(len(all), most)]
}

// P7.3: start gives the same lists with the same trees, by names, in the same order.
func TestTrimKeepsTrees(t *testing.T) {
	r := rand.New(rand.NewSource(731))
	trees := 0
	ask := func(g api.Grammar) {
		h, e := trim.Trim(g)
		if e != api.OK {
			return
		}
		was, is := printed(g, non(g.Start), 4, 200), printed(h, non(h.Start), 4, 200)
		trees += len(was)
		if !slices.Equal(was, is) {
			t.Fatalf("%v and %v:\n%s\n%s", g, h, strings.Join(was, "\n"), strings.Join(is, "\n"))
		}
	}
	eachSmall(ask)
	for range 1000 {
		ask(anyGrammar(r, 3, 4, 8, 3))
	}
	if trees < 10000 {
		t.Error("too few trees:", trees)
	}
}

// P7.4: a nonterminal is barren just if no tree has it as its root. (The lowest tree of one has no nonterminal below itself, so it is as high as there are nonterminals at most.)
func TestBarrenByTrees(t *testing.T) {
	r := rand.New(rand.NewSource(740))
	ask := func(g api.Grammar) {
		barren := must(trim.Barren(g))
		for n := range g.Nons {
			if trees := printed(g, non(n), len(g.Nons), 2); (len(trees) == 0) != slices.Contains(barren, n) {
				t.Fatal(g.Prods, n, barren, trees)
			}
		}
	}
	eachSmall(ask)
	for range 1500 {
		ask(anyGrammar(r, 3, 4, 8, 3))
	}
}

func leaf(kind int) api.Tree { return api.Tree{Prod: -1, Tok: api.Token{Kind: kind}} }

func yield(t api.Tree) []int {
	if t.Prod < 0 {
		return []int{t.Tok.Kind}
	}
	var l []int
	for _, kid := range t.Kids {
		l = append(l, yield(kid)...)
	}
	return l
}

func rootOf(g api.Grammar, t api.Tree) api.Sym {
	if t.Prod < 0 {
		return term(t.Tok.Kind)
	}
	return non(g.Prods[t.Prod].Left)
}

// isTree tells whether each node's kids are as its production asks.
func isTree(g api.Grammar, t api.Tree) bool {
	if t.Prod < 0 {
		return true
	}
	return slices.EqualFunc(t.Kids, g.Prods[t.Prod].Right, func(kid api.Tree, s api.Sym) bool {
		return rootOf(g, kid) == s && isTree(g, kid)
	})
}

// overItself tells whether some node below the root has the same root and the same yield.
func overItself(g api.Grammar, t api.Tree) bool {
	var below func(sub api.Tree) bool
	below = func(sub api.Tree) bool {
		return slices.ContainsFunc(sub.Kids, func(kid api.Tree) bool {
			return rootOf(g, kid) == rootOf(g, t) && slices.Equal(yield(kid), yield(t)) || below(kid)
		})
	}
	return below(t)
}

// anyTrees makes trees of a grammar, by their roots: each round over those of the rounds ahead.
func anyTrees(r *rand.Rand, g api.Grammar, rounds int) [][]api.Tree {
	pool := make([][]api.Tree, len(g.Nons))
	for range rounds {
		next := make([][]api.Tree, len(g.Nons))
		for i, p := range g.Prods {
			node := api.Tree{Prod: i}
			for _, s := range p.Right {
				if s.Kind == api.SymTerm {
					node.Kids = append(node.Kids, leaf(s.N))
				} else if trees := pool[s.N]; len(trees) > 0 {
					node.Kids = append(node.Kids, trees[r.Intn(len(trees))])
				}
			}
			if len(node.Kids) == len(p.Right) {
				next[p.Left] = append(next[p.Left], node)
			}
		}
		for n := range pool {
			pool[n] = append(pool[n], next[n]...)
		}
	}
	return pool
}

// P7.4: the root of a tree over itself with the same yield is circular; no tree's root is barren.
func TestTreesAreTold(t *testing.T) {
	r := rand.New(rand.NewSource(741))
	over := 0
	for range 2000 {
		g := anyGrammar(r, 2, 4, 8, 3)
		barren, circular := must(trim.Barren(g)), must(trim.Circular(g))
		for n, trees := range anyTrees(r, g, 5) {
			if len(trees) > 0 && slices.Contains(barren, n) {
				t.Fatal("barren, but there are trees:", g.Prods, n)
			}
			for _, tree := range trees {
				if overItself(g, tree) {
					over++
					if !slices.Contains(circular, n) {
						t.Fatal("not circular:", g.Prods, n, tree)
					}
				}
			}
		}
	}
	if over < 500 {
		t.Error("too few:", over)
	}
}

// someTrees are, for each nonterminal that has one, a tree that is fit.
func someTrees(g api.Grammar, fit func(api.Tree) bool) map[int]api.Tree {
	known := map[int]api.Tree{}
	for range g.Nons {
		for i, p := range g.Prods {
			node := api.Tree{Prod: i}
			for _, s := range p.Right {
				if tree, there := known[s.N]; there && s.Kind == api.SymNon {
					node.Kids = append(node.Kids, tree)
				} else if s.Kind == api.SymTerm {
					node.Kids = append(node.Kids, leaf(s.N))
				}
			}
			if _, there := known[p.Left]; !there && len(node.Kids) == len(p.Right) && fit(node) {
				known[p.Left] = node
			}
		}
	}
	return known
}

// treeOver is a tree of root n over the given one, whose other parts yield nothing: found by going up from the given one, each root once.
func treeOver(g api.Grammar, n int, below api.Tree) (api.Tree, bool) {
	empty := someTrees(g, func(t api.Tree) bool { return len(yield(t)) == 0 })
	seen := make([]bool, len(g.Nons))
	for todo := []api.Tree{below}; len(todo) > 0; todo = todo[1:] {
		for i, p := range g.Prods {
			for at, s := range p.Right {
				if s != rootOf(g, todo[0]) || seen[p.Left] {
					continue
				}
				node := api.Tree{Prod: i, Kids: make([]api.Tree, len(p.Right))}
				for k, other := range p.Right {
					node.Kids[k] = empty[other.N]
				}
				node.Kids[at] = todo[0]
				if !isTree(g, node) {
					continue
				}
				if p.Left == n {
					return node, true
				}
				seen[p.Left] = true
				todo = append(todo, node)
			}
		}
	}
	return api.Tree{}, false
}

// P7.4, the other way round: what is circular and not barren has a tree over itself with the same yield, and what is not has none.
func TestCircularHasTrees(t *testing.T) {
	r := rand.New(rand.NewSource(742))
	over := 0
	ask := func(g api.Grammar) {
		barren, circular := must(trim.Barren(g)), must(trim.Circular(g))
		trees := someTrees(g, func(api.Tree) bool { return true })
		for n := range g.Nons {
			below, there := trees[n]
			if there == slices.Contains(barren, n) {
				t.Fatal("barren just if there is no tree:", g.Prods, n)
			}
			if !there {
				continue
			}
			tree, found := treeOver(g, n, below)
			if found != slices.Contains(circular, n) {
				t.Fatal(g.Prods, n, circular, tree, found)
			}
			if found {
				over++
				if !isTree(g, tree) || !overItself(g, tree) {
					t.Fatal("no such tree:", g.Prods, n, tree)
				}
			}
		}
	}
	eachSmall(ask)
	for range 3000 {
		ask(anyGrammar(r, 2, 4, 8, 3))
	}
	if over < 1000 {
		t.Error("too few:", over)
	}
}

// widen is a list with spare room behind it, all of it marked.
func widen[T any](l []T, mark T) []T {
	out := append(slices.Clone(l), mark, mark, mark)
	return out[:len(l):len(out)]
}

// roomy is a grammar with spare room behind each list.
func roomy(g api.Grammar) api.Grammar {
	g.Terms, g.Nons = widen(g.Terms, "spare"), widen(g.Nons, "spare")
	g.Prods = widen(g.Prods, prod(77, term(77)))
	for i := range g.Prods {
		g.Prods[i].Right = widen(g.Prods[i].Right, term(77))
	}
	g.Levels = widen(g.Levels, api.Level{Terms: []int{77}})
	for i := range g.Levels {
		g.Levels[i].Terms = widen(g.Levels[i].Terms, 77)
	}
	return g
}

func whole[T any](l []T) []T { return slices.Clone(l[:cap(l)]) }

// shown is all that a grammar's lists hold, spare room too, in memory of its own.
func shown(g api.Grammar) api.Grammar {
	g.Terms, g.Nons, g.Prods, g.Levels = whole(g.Terms), whole(g.Nons), whole(g.Prods), whole(g.Levels)
	for i := range g.Prods {
		g.Prods[i].Right = whole(g.Prods[i].Right)
	}
	for i := range g.Levels {
		g.Levels[i].Terms = whole(g.Levels[i].Terms)
	}
	return g
}

// P7.5: no call changes what is handed in, spare room too.
func TestArgumentsAreLeft(t *testing.T) {
	r := rand.New(rand.NewSource(750))
	for range 500 {
		g := roomy(anyGrammar(r, 4, 4, 9, 3))
		was := shown(g)
		trim.Barren(g)
		trim.Unreached(g)
		trim.Circular(g)
		trim.Well(g)
		trim.Trim(g)
		trim.Wells(g)
		if !reflect.DeepEqual(shown(g), was) {
			t.Fatal("a grammar was changed")
		}
	}
}

// spoil writes over a list and its room.
func spoil[T any](l []T, mark T) {
	for i := range l[:cap(l)] {
		l[:cap(l)][i] = mark
	}
}

// apart tells whether no list of a grammar shares memory with another one of it: each is written over, lists of lists last.
func apart(g api.Grammar) bool {
	want := shown(g)
	ok := true
	held := func() { ok = ok && reflect.DeepEqual(shown(g), want) }
	spoil(g.Terms, "spoilt")
	spoil(want.Terms, "spoilt")
	held()
	spoil(g.Nons, "spoiled")
	spoil(want.Nons, "spoiled")
	held()
	for i := range g.Prods {
		spoil(g.Prods[i].Right, term(100+i))
		spoil(want.Prods[i].Right, term(100+i))
		held()
	}
	for i := range g.Levels {
		spoil(g.Levels[i].Terms, 500+i)
		spoil(want.Levels[i].Terms, 500+i)
		held()
	}
	spoil(g.Prods, prod(99))
	spoil(g.Levels, api.Level{Assoc: 99})
	return ok
}

// P7.5: answers share memory neither with arguments nor with other answers, nor do two lists of one.
func TestAnswersShareNothing(t *testing.T) {
	r := rand.New(rand.NewSource(751))
	asked := 0
	for range 1000 {
		g := roomy(anyGrammar(r, 4, 4, 9, 3))
		if r.Intn(2) == 0 {
			g = must(trim.Trim(grammarOf(2, 2, 0, prod(0, non(1), non(1), term(0)), prod(0, term(1)), prod(1, term(0), term(1)))))
			g.Levels = anyLevels(r, 2)
			g = roomy(g)
		}
		was := shown(g)
		h, e := trim.Trim(g)
		w, _ := trim.Wells(g)
		wasW := shown(w)
		if e == api.OK {
			asked++
		}
		if !apart(h) || !reflect.DeepEqual(shown(w), wasW) || !apart(w) {
			t.Fatal("two lists share memory:", g)
		}
		barren, unreached, circular := must(trim.Barren(g)), must(trim.Unreached(g)), must(trim.Circular(g))
		all := tellBySets(g)
		spoil(barren, -7)
		spoil(unreached, term(-7))
		spoil(circular, -7)
		if !reflect.DeepEqual(shown(g), was) {
			t.Fatal("an answer shares memory with the grammar:", g)
		}
		if !slices.Equal(must(trim.Barren(g)), all.barren) || !slices.Equal(must(trim.Unreached(g)), all.unreached(g)) || !slices.Equal(must(trim.Circular(g)), all.circular) {
			t.Fatal("an answer's change is seen in the next:", g)
		}
	}
	if asked < 300 {
		t.Error("too few:", asked)
	}
}
