package glr_test

import (
	"math"
	"math/rand"
	"slices"
	"testing"

	"gantry/api"
	"gantry/canon"
	"gantry/cert"
	"gantry/earley"
	"gantry/glr"
	"gantry/notation"
	"gantry/pgen"
	"gantry/sentence"
	"gantry/table"
	"gantry/trees"
	"gantry/trim"
	"gantry/validate"
)

// bare is a tree without payloads.
func bare(g api.Grammar, x api.Tree) api.Tree {
	var w []api.Token
	for _, k := range kindsOf(trees.Yield(x)) {
		w = append(w, api.Token{Kind: k})
	}
	y, e, _ := trees.FromLeft(g, trees.Left(x), w)
	if e != api.OK {
		panic(e)
	}
	return y
}

// heldOfSentence holds a forest of a text against chapter 9, if no nonterminal is circular: of up to 4096 trees these very ones, in its order.
func heldOfSentence(t *testing.T, g api.Grammar, w []api.Token, seen map[string]int) {
	t.Helper()
	f, e := glr.Forest(g, w)
	if e == api.ErrMany {
		seen["too many"]++
		return
	}
	n := must(sentence.Count(g, g.Start, kindsOf(w)))
	if c, e2 := glr.Count(f, 4097); c != n || e != api.OK || e2 != api.OK {
		t.Fatal("P24.6: Count:", g.Prods, w, c, e, e2, n)
	}
	if b := must(glr.Accepts(g, w)); b != (n > 0) || b != must(earley.Accepts(g, kindsOf(w))) || b != (len(f.Nodes) > 0) {
		t.Fatal("P24.8: Accepts:", g.Prods, w, b, n)
	}
	if e, k := glr.Check(g, f); e != api.OK || k != len(f.Nodes) || len(glr.Loops(f)) > 0 {
		t.Fatal("P24.8: Check, Loops:", g.Prods, w, e, k, glr.Loops(f))
	}
	if n > 200 {
		if l, e := glr.Trees(g, f, w, 200); e != api.ErrMany || l != nil {
			t.Fatal("P24.4: Trees:", g.Prods, w, e)
		}
		seen["many"]++
		return
	}
	want := must(sentence.Trees(g, g.Start, kindsOf(w), 4096))
	l, e := glr.Trees(g, f, w, 4096)
	if e != api.OK || len(l) != len(want) {
		t.Fatal("P24.6: Trees:", g.Prods, w, e, len(l), len(want))
	}
	for i, x := range l {
		if !trees.Same(bare(g, x), want[i]) || !slices.Equal(trees.Yield(x), w) {
			t.Fatal("P24.6: Trees:", g.Prods, w, i, x, want[i])
		}
		if b, e := glr.Contains(g, f, want[i]); !b || e != api.OK {
			t.Fatal("P24.6: Contains:", g.Prods, w, want[i], b, e)
		}
	}
	switch n {
	case 0:
		seen["refused"]++
	case 1:
		seen["one"]++
	default:
		seen["ambiguous"]++
	}
}

// P24.6, P24.8: of drawn grammars, texts of any length up to 64, and what is nearly one.
func TestSentence(t *testing.T) {
	r := rand.New(rand.NewSource(246))
	seen := map[string]int{}
	for range 500 {
		g := layered(r, 3, 5, 12, 4)
		for range 3 {
			for _, kinds := range must(sentence.Words(g, g.Start, r.Intn(20)*r.Intn(4)+r.Intn(8), 2)) {
				heldOfSentence(t, g, text(kinds...), seen)
				kinds = slices.Clone(kinds)
				if len(kinds) > 0 {
					kinds[r.Intn(len(kinds))] = r.Intn(len(g.Terms))
				}
				heldOfSentence(t, g, text(kinds...), seen)
			}
		}
		heldOfSentence(t, g, text(anyKinds(r, g, 12)...), seen)
	}
	seenAll(t, seen, 150, "refused", "one", "ambiguous", "many")
}

// P24.8: it loops just if there are endlessly many trees, and these are there just if a nonterminal that gives itself stands in one.
func TestEndless(t *testing.T) {
	r := rand.New(rand.NewSource(248))
	seen := map[string]int{}
	for range 3000 {
		g := anyGrammar(r, 2, 4, 9, 3)
		circular := must(trim.Circular(g))
		w := text(anyKinds(r, g, 8)...)
		f, e := glr.Forest(g, w)
		if e != api.OK {
			t.Fatal(g.Prods, w, e)
		}
		in := slices.ContainsFunc(f.Nodes, func(n api.ForestNode) bool {
			return n.Sym.Kind == api.SymNon && slices.Contains(circular, n.Sym.N) && slices.ContainsFunc(n.Alts, func(alt api.ForestAlt) bool {
				return slices.ContainsFunc(alt.Kids, func(kid int) bool { return f.Nodes[kid].From == n.From && f.Nodes[kid].To == n.To })
			})
		})
		loops, most := glr.Loops(f), must(glr.Count(f, math.MaxInt)) == math.MaxInt
		if most != (len(loops) > 0) {
			t.Fatal("P24.8: Loops, Count:", g.Prods, w, loops, most)
		}
		for _, n := range loops {
			if s := f.Nodes[n].Sym; s.Kind != api.SymNon || !slices.Contains(circular, s.N) || !in {
				t.Fatal("P24.8: it loops:", g.Prods, w, f, n)
			}
		}
		if e, n := glr.Check(g, f); e != api.OK || n != len(f.Nodes) {
			t.Fatal("P24.8: Check:", g.Prods, w, e, n)
		}
		if len(f.Nodes) > 0 && len(loops) > 0 {
			seen["loops"]++
		} else if len(f.Nodes) > 0 {
			seen["ends"]++
		}
	}
	seenAll(t, seen, 200, "loops", "ends")
}

// heldOfParse holds a forest against a parser's answer.
func heldOfParse(t *testing.T, v *validate.Valid, w []api.Token, seen map[string]int) {
	t.Helper()
	g := v.Grammar()
	res, e := pgen.Parse(v, w)
	f, e2 := glr.Forest(g, w)
	if e != api.OK || e2 != api.OK || res.Accepted != (len(f.Nodes) > 0) || res.Accepted != must(glr.Accepts(g, w)) {
		t.Fatal("P24.7:", g.Prods, w, e, e2, res, f)
	}
	if !res.Accepted {
		seen["refused"]++
		return
	}
	l, e := glr.Trees(g, f, w, 1)
	if e != api.OK || len(l) != 1 || !trees.Same(l[0], res.Tree) || must(glr.Count(f, 9)) != 1 {
		t.Fatal("P24.7: Trees:", g.Prods, w, l, e, res.Tree)
	}
	if b, e := glr.Contains(g, f, res.Tree); !b || e != api.OK || len(glr.Ambiguous(f))+len(glr.Loops(f)) > 0 {
		t.Fatal("P24.7: Contains:", g.Prods, w, b, e)
	}
	seen["accepted"]++
}

// merged is a parser by the table that Compile makes; nil, if the grammar has conflicts.
func merged(g api.Grammar) *validate.Valid {
	source, e := notation.Print(g)
	if e != api.OK {
		panic(e)
	}
	b, _, e, _ := pgen.Compile([]byte(source))
	if e != api.OK {
		return nil
	}
	v, e, _ := pgen.Load([]byte(source), b)
	if e != api.OK {
		panic(e)
	}
	return v
}

// P24.7: every short text, and longer ones, of drawn grammars of which a bundle is taken.
func TestParser(t *testing.T) {
	r := rand.New(rand.NewSource(247))
	seen := map[string]int{}
	for range 6000 {
		g, e := trim.Wells(anyGrammar(r, 3, 4, 8, 3))
		if e != api.OK {
			continue
		}
		v := merged(g)
		if v == nil {
			continue
		}
		seen["taken"]++
		eachWord(below(len(g.Terms)+1), 3, func(w []int) { heldOfParse(t, v, text(w...), seen) })
		for range 4 {
			for _, w := range must(sentence.Words(g, g.Start, r.Intn(65), 2)) {
				heldOfParse(t, v, text(w...), seen)
				if len(w) > 0 {
					w[r.Intn(len(w))] = r.Intn(len(g.Terms))
				}
				heldOfParse(t, v, text(w...), seen)
			}
		}
	}
	seenAll(t, seen, 200, "taken", "accepted", "refused")
}

// P24.7: a bundle by Knuth's automaton, of a grammar that is LR(1), but not LALR(1).
func TestKnuth(t *testing.T) {
	g := readOf(t, "%term a b c d e S : a A d | b B d | a B e | b A e ; A : c ; B : c ;")
	a := must(canon.Canonical(g))
	y, undecided, decided, e := table.Build(g, a)
	if e != api.OK || len(undecided)+len(decided) > 0 || merged(g) != nil {
		t.Fatal(e, undecided, decided)
	}
	v, e, at := validate.Validate(g, api.Bundle{Table: y, Cert: must(cert.Make(g, a, y))})
	if e != api.OK {
		t.Fatal(e, at)
	}
	seen := map[string]int{}
	eachWord(below(6), 4, func(w []int) { heldOfParse(t, v, text(w...), seen) })
	if seen["accepted"] != 4 {
		t.Error(seen)
	}
}

// FuzzGrammars looks for a grammar and a text of which the answers are not those of the models.
func FuzzGrammars(f *testing.F) {
	f.Add([]byte{0, 2, 0, 2, 255, 0, 1}, []byte{1, 0, 1})
	f.Add([]byte{0, 3, 4, 255, 1, 255, 2, 3, 2}, []byte{0, 0})
	f.Fuzz(func(t *testing.T, l []byte, kinds []byte) {
		g := grammarOf(2, 3, 0)
		for i := 0; i < len(l) && i < 40; i++ {
			p := prod(int(l[i] % 3))
			for i++; i < len(l) && l[i] < 200 && len(p.Right) < 5; i++ {
				if n := int(l[i] % 5); n < 2 {
					p.Right = append(p.Right, term(n))
				} else {
					p.Right = append(p.Right, non(n-2))
				}
			}
			g.Prods = withProd(g.Prods, p)
		}
		if len(g.Prods) == 0 {
			return
		}
		var w []int
		for _, b := range kinds[:min(len(kinds), 8)] {
			w = append(w, int(b%8)%3)
		}
		seen := map[string]int{}
		forest := heldOfForest(t, g, text(w...), seen)
		heldOfCheck(t, g, forest)
		heldOfAny(t, forest, seen)
		heldOfTrees(t, g, forest, text(w...), seen)
	})
}
