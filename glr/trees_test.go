package glr_test

import (
	"math"
	"math/rand"
	"slices"
	"testing"

	"gantry/api"
	"gantry/glr"
	"gantry/grammar"
	"gantry/trees"
)

func leaf(kind int) api.Tree { return api.Tree{Prod: -1, Tok: api.Token{Kind: kind}} }

func node(prod int, kids ...api.Tree) api.Tree { return api.Tree{Prod: prod, Kids: kids} }

func sameTrees(a, b []api.Tree) bool { return slices.EqualFunc(a, b, trees.Same) }

// heldOfTrees holds Trees and Contains of a forest that Check takes, of a text whose tokens are there, against the models.
func heldOfTrees(t *testing.T, g api.Grammar, f api.Forest, w []api.Token, seen map[string]int) {
	t.Helper()
	count := modelCount(f)
	if count > 300 {
		for _, most := range []int{1, 200, min(count-1, 4096)} {
			if l, e := glr.Trees(g, f, w, most); e != api.ErrMany || l != nil {
				t.Fatal("P24.4: too many:", g.Prods, f, most, e)
			}
		}
		seen["many"]++
		return
	}
	var want []api.Tree
	if len(f.Nodes) > 0 {
		want = modelTrees(f, w, 0, nil)
	}
	if len(want) != count {
		t.Fatal("the models:", g.Prods, f, len(want), count)
	}
	for _, most := range []int{count, count + 1, 4096} {
		if l, e := glr.Trees(g, f, w, most); most > 0 && (e != api.OK || !sameTrees(l, want)) {
			t.Fatal("P24.4: Trees:", g.Prods, f, most, l, e, want)
		}
	}
	if l, e := glr.Trees(g, f, w, count-1); count > 1 && (e != api.ErrMany || l != nil) {
		t.Fatal("P24.4: one too many:", g.Prods, f, l, e)
	}
	for _, x := range want {
		if b, e := glr.Contains(g, f, x); !b || e != api.OK {
			t.Fatal("P24.4: Contains:", g.Prods, f, x, b, e)
		}
	}
	switch {
	case count == 0:
		seen["none"]++
	case count == 1:
		seen["one"]++
	default:
		seen["some"]++
	}
	if count > 0 && len(glr.Loops(f)) > 0 {
		seen["loops, but an end"]++
	}
}

// P24.4: all that Forest answers, of drawn grammars.
func TestTreesOfForests(t *testing.T) {
	r := rand.New(rand.NewSource(244))
	seen := map[string]int{}
	for range 4000 {
		g := anyGrammar(r, 2, 3, 8, 3)
		if r.Intn(2) == 0 {
			g = layered(r, 2, 4, 9, 3)
		}
		for range 3 {
			w := text(anyKinds(r, g, 7)...)
			heldOfTrees(t, g, must(glr.Forest(g, w)), w, seen)
		}
	}
	seenAll(t, seen, 200, "none", "one", "some", "many")
}

// thinned is a forest without some of its alternatives, and what is then not reached.
func thinned(r *rand.Rand, f api.Forest) api.Forest {
	f = copyOf(f)
	for n := range f.Nodes {
		alts := &f.Nodes[n].Alts
		for len(*alts) > 1 && r.Intn(3) > 0 {
			at := r.Intn(len(*alts))
			*alts = slices.Delete(*alts, at, at+1)
		}
	}
	return reached(f)
}

// reached is what of a forest node 0 reaches, numbered anew.
func reached(f api.Forest) api.Forest {
	if len(f.Nodes) == 0 {
		return f
	}
	met := []int{0}
	var out api.Forest
	for i := 0; i < len(met); i++ {
		n := f.Nodes[met[i]]
		for _, alt := range n.Alts {
			for k, kid := range alt.Kids {
				if !slices.Contains(met, kid) {
					met = append(met, kid)
				}
				alt.Kids[k] = slices.Index(met, kid)
			}
		}
		out.Nodes = append(out.Nodes, n)
	}
	return out
}

// P24.4: forests that have not all trees; many have nodes that hang on themselves, and no tree.
func TestTreesOfThinned(t *testing.T) {
	r := rand.New(rand.NewSource(2441))
	seen := map[string]int{}
	for range 8000 {
		g := anyGrammar(r, 2, 3, 9, 3)
		w := text(anyKinds(r, g, 4)...)
		f := must(glr.Forest(g, w))
		if len(f.Nodes) == 0 {
			continue
		}
		for range 3 {
			h := thinned(r, f)
			if e := heldOfCheck(t, g, h); e != api.OK {
				t.Fatal("the test's own fault:", g.Prods, h, e)
			}
			heldOfTrees(t, g, h, w, seen)
			heldOfAny(t, h, seen)
		}
	}
	seenAll(t, seen, 200, "none", "one", "some", "many")
	seenAll(t, seen, 50, "loops, but an end")
}

// P24.4: what Trees answers carries what the tokens carry; the text may go on behind the forest's end.
func TestTreesCarry(t *testing.T) {
	g, w := pairs(), []api.Token{{Kind: 0, Text: "first"}, {Kind: 99, Text: "more"}}
	l, e := glr.Trees(g, pairsForest(), w, 4096)
	x, none := api.Tree{Prod: -1, Tok: w[0]}, node(2)
	if e != api.OK || !sameTrees(l, []api.Tree{node(0, none, node(1, x)), node(0, node(1, x), none), node(3, node(1, x))}) {
		t.Error(l, e)
	}
}

// P24.4: errors, and the order in which they come.
func TestTreesFaults(t *testing.T) {
	g, w := sums(), text(1, 0, 1, 0, 1)
	f := must(glr.Forest(g, w))
	broken := copyOf(f)
	broken.Nodes[5].To = 9
	short, other, strange := w[:4], slices.Clone(w), slices.Clone(w)
	other[3].Kind, strange[4].Kind = 1, math.MinInt
	for _, c := range []struct {
		name string
		f    api.Forest
		w    []api.Token
		most int
		want api.Errno
	}{
		{"all is right", f, w, 2, api.OK},
		{"a forest that may not be", broken, short, 0, api.ErrForest},
		{"none asked for", f, short, 0, api.ErrArg},
		{"below 0", f, w, math.MinInt, api.ErrArg},
		{"too many asked for", f, other, 4097, api.ErrArg},
		{"very many asked for", f, w, math.MaxInt, api.ErrArg},
		{"the text ends", f, short, 1, api.ErrLeaf},
		{"no text", f, nil, 1, api.ErrLeaf},
		{"another token", f, other, 1, api.ErrLeaf},
		{"no terminal's token", f, strange, 1, api.ErrLeaf},
		{"more than one", f, w, 1, api.ErrMany},
		{"no nodes", api.Forest{}, nil, 1, api.OK},
		{"no nodes, none asked for", api.Forest{}, nil, 0, api.ErrArg},
		{"no nodes, too many asked for", api.Forest{}, w, 4097, api.ErrArg},
	} {
		l, e := glr.Trees(g, c.f, c.w, c.most)
		if e != c.want || e != api.OK && l != nil || len(c.f.Nodes) == 0 && len(l) > 0 {
			t.Error("P24.4:", c.name, l, e)
		}
	}
}

// P24.4: 4096 trees are not too many, 4097 are.
func TestManyTrees(t *testing.T) {
	// twice: each t0 is one in two ways; n times in a row, and, if it is asked for, once more otherwise.
	twice := func(n int, more bool) api.Grammar {
		g := grammarOf(1, 3, 0, prod(0, slices.Repeat(syms(non(1)), n)...), prod(1, term(0)), prod(1, non(2)), prod(2, term(0)))
		if more {
			g.Prods = append(g.Prods, prod(0, slices.Repeat(syms(term(0)), n)...))
		}
		return g
	}
	for _, c := range []struct {
		n    int
		more bool
		most int
		want int
	}{
		{12, false, 4096, 4096}, {12, true, 4096, -1}, {12, false, 4095, -1}, {13, false, 4096, -1},
		{16, true, 4096, -1}, {11, true, 2049, 2049}, {11, true, 2048, -1}, {11, true, 4096, 2049},
	} {
		g, w := twice(c.n, c.more), make([]api.Token, c.n)
		f := must(glr.Forest(g, w))
		l, e := glr.Trees(g, f, w, c.most)
		if c.want < 0 {
			if e != api.ErrMany || l != nil {
				t.Error(c, len(l), e)
			}
			continue
		}
		if e != api.OK || len(l) != c.want {
			t.Error(c, len(l), e)
			continue
		}
		// The first kid's trees change slowest: seen as digits, the alternatives count up.
		for i, x := range l[:1<<c.n] {
			for k, kid := range x.Kids {
				if kid.Prod != 1+i>>(c.n-1-k)&1 {
					t.Fatal(c, i, x)
				}
			}
		}
	}
}

// P24.4: what is a tree of the grammar, but not of the forest, and what is none of the grammar.
func TestContains(t *testing.T) {
	g := sums()
	f := must(glr.Forest(g, text(1, 0, 1, 0, 1)))
	n := node(1, leaf(1))
	two := node(0, n, leaf(0), n)
	named := node(0, node(0, node(1, api.Tree{Prod: -1, Tok: api.Token{Kind: 1, Text: "more"}}), leaf(0), n), leaf(0), n)
	for _, c := range []struct {
		name string
		f    api.Forest
		t    api.Tree
		is   bool
		e    api.Errno
	}{
		{"left", f, node(0, two, leaf(0), n), true, api.OK},
		{"right", f, node(0, n, leaf(0), two), true, api.OK},
		{"with texts", f, named, true, api.OK},
		{"too short", f, two, false, api.OK},
		{"too long", f, node(0, two, leaf(0), two), false, api.OK},
		{"a node of it", f, n, false, api.OK},
		{"a leaf", f, leaf(1), false, api.OK},
		{"another leaf", f, leaf(0), false, api.OK},
		{"of no nodes", api.Forest{}, n, false, api.OK},
		{"a leaf of no nodes", api.Forest{}, leaf(0), false, api.OK},
		{"none of the grammar", f, node(0, n, leaf(1), n), false, api.ErrLeaf},
		{"no leaf of the grammar", f, leaf(2), false, api.ErrLeaf},
		{"no production", f, node(2), false, api.ErrTree},
		{"the zero tree", f, api.Tree{}, false, api.ErrTree},
		{"of no nodes, none of the grammar", api.Forest{}, leaf(2), false, api.ErrLeaf},
		{"of what may not be", forestOf(f.Nodes[1:]...), leaf(2), false, api.ErrForest},
		{"of what may not be", forestOf(f.Nodes[:3]...), n, false, api.ErrForest},
	} {
		if is, e := glr.Contains(g, c.f, c.t); is != c.is || e != c.e {
			t.Error("P24.4:", c.name, is, e)
		}
	}
}

// anyTree is a tree of the grammar, of a nonterminal, as far as chance finds one that is not too high.
func anyTree(r *rand.Rand, g api.Grammar, s api.Sym, height int) (api.Tree, bool) {
	if s.Kind == api.SymTerm {
		return leaf(s.N), true
	}
	rules := grammar.Rules(g, s.N)
	for range 3 {
		if height == 0 || len(rules) == 0 {
			break
		}
		t := node(rules[r.Intn(len(rules))])
		whole := true
		for _, s := range g.Prods[t.Prod].Right {
			kid, found := anyTree(r, g, s, height-1)
			whole = whole && found
			t.Kids = append(t.Kids, kid)
		}
		if whole {
			return t, true
		}
	}
	return api.Tree{}, false
}

// P24.4, P24.6: trees of any root, held against forests of their own yield and of others', whole ones and thinned ones; of grammars in which there may be trees without end, too.
func TestContainsAny(t *testing.T) {
	r := rand.New(rand.NewSource(2442))
	seen := map[string]int{}
	for range 6000 {
		g := anyGrammar(r, 2, 3, 8, 3)
		root := non(g.Start)
		if r.Intn(9) == 0 {
			root = non(r.Intn(len(g.Nons)))
		}
		x, found := anyTree(r, g, root, 5)
		if !found || len(trees.Yield(x)) > 9 {
			continue
		}
		w := trees.Yield(x)
		f := must(glr.Forest(g, w))
		if is, e := glr.Contains(g, f, x); e != api.OK || is != (root == non(g.Start)) {
			t.Fatal("P24.6:", g.Prods, g.Start, x, is, e)
		}
		other := thinned(r, f)
		if y, found := anyTree(r, g, non(g.Start), 4); found && r.Intn(3) == 0 && len(trees.Yield(y)) < 9 {
			other = must(glr.Forest(g, trees.Yield(y)))
		}
		is, e := glr.Contains(g, other, x)
		if want := len(other.Nodes) > 0 && modelIs(other, 0, x); e != api.OK || is != want {
			t.Fatal("P24.4:", g.Prods, g.Start, other, x, is, e, want)
		}
		if is {
			seen["is"]++
		} else {
			seen["is not"]++
		}
		if len(glr.Loops(f)) > 0 && is {
			seen["one of endlessly many"]++
		}
	}
	seenAll(t, seen, 200, "is", "is not", "one of endlessly many")
}

// P24.5: a line for each node.
func TestPrint(t *testing.T) {
	g := readOf(t, "%term '+' n Exp : Exp '+' Exp | n | ;")
	f := must(glr.Forest(g, text(0)))
	if s, e := glr.Print(g, f); e != api.OK || s != "0 Exp 0 1 | 0 1 2 3\n1 Exp 0 0 | 2\n2 '+' 0 1\n3 Exp 1 1 | 2\n" {
		t.Errorf("%q %v", s, e)
	}
	if s, e := glr.Print(g, api.Forest{}); e != api.OK || s != "" {
		t.Errorf("no nodes: %q %v", s, e)
	}
	broken := copyOf(f)
	broken.Nodes[3].From = 0
	if s, e := glr.Print(g, broken); e != api.ErrForest || s != "" {
		t.Errorf("%q %v", s, e)
	}
	r := rand.New(rand.NewSource(245))
	told := 0
	for range 2000 {
		g := anyGrammar(r, 2, 3, 8, 3)
		f := thinned(r, must(glr.Forest(g, text(anyKinds(r, g, 6)...))))
		if s, e := glr.Print(g, f); e != api.OK || s != modelPrint(g, f) {
			t.Fatal("P24.5:", g.Prods, f, s, e)
		}
		told += min(len(f.Nodes), 1)
	}
	if told < 300 {
		t.Error("too few:", told)
	}
}
