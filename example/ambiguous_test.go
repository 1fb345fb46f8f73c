package example_test

import (
	"slices"
	"testing"

	"gantry/api"
	"gantry/example"
	"gantry/pgen"
	"gantry/trees"
)

// heldOfAmbiguous asks for the first word, and its first two trees by their texts; no shorter length has one.
func heldOfAmbiguous(t *testing.T, text string, word []int, one, two string) {
	t.Helper()
	g := readOf(t, text)
	for _, length := range []int{len(word), 64} {
		w, l, e := example.Ambiguous(g, length)
		if e != api.OK || !slices.Equal(w, word) || len(l) != 2 {
			t.Fatal(text, length, w, l, e)
		}
		if a, b := must(trees.Print(g, l[0])), must(trees.Print(g, l[1])); a != one || b != two {
			t.Error(text, length, a, b)
		}
	}
	if len(word) > 0 {
		if w, l, e := example.Ambiguous(g, len(word)-1); e != api.ErrNone || len(w)+len(l) != 0 {
			t.Error(text, "too short:", w, l, e)
		}
	}
}

// P21.3: the first word, by length, then as lists, and its first two trees.
func TestAmbiguous(t *testing.T) {
	heldOfAmbiguous(t, "%term p n E : E p E | n ;", []int{1, 0, 1, 0, 1}, "(E (E n) p (E (E n) p (E n)))", "(E (E (E n) p (E n)) p (E n))")
	heldOfAmbiguous(t, "%term i e x S : i S | i S e S | x ;", []int{0, 0, 2, 1, 2}, "(S i (S i (S x) e (S x)))", "(S i (S i (S x)) e (S x))")
	heldOfAmbiguous(t, "%term a S : A | B ; A : ; B : ;", nil, "(S (A))", "(S (B))")
	heldOfAmbiguous(t, "%term a b S : b | A a | B ; A : a ; B : a a | b ;", []int{1}, "(S b)", "(S (B b))")
	// The lesser word of two that are as long; that with the lower terminal comes first, whatever the productions' order is.
	heldOfAmbiguous(t, "%term a b S : B b | b b | A a | a a ; A : a ; B : b ;", []int{0, 0}, "(S (A a) a)", "(S a a)")
	// As a list, not by how many trees there are: b a has three, a b two.
	heldOfAmbiguous(t, "%term a b S : C a | D a | b a | E b | a b ; C : b ; D : b ; E : a ;", []int{0, 1}, "(S (E a) b)", "(S a b)")
	// An ambiguous part that stands deep, behind much that is not.
	heldOfAmbiguous(t, "%term a b c S : a S b | T ; T : c T | U ; U : b V | W b ; V : b ; W : b ;", []int{1, 1}, "(S (T (U b (V b))))", "(S (T (U (W b) b)))")
	heldOfAmbiguous(t, "%term a b c S : a S b | c c c T ; T : c T | U ; U : b V | W b ; V : b ; W : b ;", []int{2, 2, 2, 1, 1}, "(S c c c (T (U b (V b))))", "(S c c c (T (U (W b) b)))")
	// Inherently ambiguous, but the empty word is not.
	heldOfAmbiguous(t, "%term a b c S : a A c | B | C D ; A : a A c | b A | ; B : b ; C : a C b | a b ; D : c D | c ;", []int{0, 1, 2}, "(S a (A b (A)) c)", "(S (C a b) (D c))")
}

// P21.3: grammars that have conflicts, but no ambiguous word.
func TestNotAmbiguous(t *testing.T) {
	for text, length := range map[string]int{
		"%term a b S : a S a | b S b | ;":                                                           64,
		"%term a b S : a S a | b S b | a | b ;":                                                     64,
		"%term a b c d e S : a A d | b B d | a B e | b A e ; A : c ; B : c ;":                       64,
		"%term a b c S : A B | C D ; A : a A b | a b ; B : c c ; C : a C | a ; D : b D c | b b c ;": 3,
		"%term a b c S : T | S T ; T : A b | B c ; A : a ; B : a ;":                                 64,
		"%term a b c S : T | S T ; T : A a b | B a c ; A : a ; B : a ;":                             9,
		"%term a S : S a a | a | ;":                                                                 64,
		"%term a b S : A U b ; A : a A | a ; U : b U ;":                                             64,
		"%term a b S : A | B U ; A : a ; B : a ; U : a U ;":                                         64,
	} {
		if w, l, e := example.Ambiguous(readOf(t, text), length); e != api.ErrNone || len(w)+len(l) != 0 {
			t.Error(text, w, l, e)
		}
	}
}

// P21.3: which fault goes ahead; an automaton that is too great for Explain is none.
func TestAmbiguousFaults(t *testing.T) {
	broken := sums()
	broken.Terms = nil
	circular := sums()
	circular.Prods = append(circular.Prods, prod(0, non(0)))
	unreached := sums()
	unreached.Nons = append(unreached.Nons, "U")
	unreached.Prods = append(unreached.Prods, prod(1, non(1)))
	states := rowsOf(api.MaxStates + 1)
	ring := rowsOf(api.MaxStates + 1)
	ring.Prods = append(ring.Prods, prod(0, non(0)))
	twice := rowsOf(api.MaxStates + 1)
	twice.Nons = append(twice.Nons, "more")
	twice.Prods = append(twice.Prods, prod(0, non(1)), prod(1, twice.Prods[2].Right...))
	crowd := many(4097)
	crowd.Prods = append(crowd.Prods, prod(62, term(0)))
	for name, c := range map[string]struct {
		g      api.Grammar
		length int
		want   api.Errno
	}{
		"no grammar":                   {api.Grammar{}, 5, api.ErrTerms},
		"no terminals, and a length":   {broken, 65, api.ErrTerms},
		"a circular nonterminal":       {circular, 5, api.ErrCycle},
		"one that is not reached":      {unreached, 5, api.ErrCycle},
		"a circular one, and a length": {circular, -1, api.ErrCycle},
		"a circular one, many states":  {ring, 5, api.ErrCycle},
		"below 0":                      {sums(), -1, api.ErrRange},
		"above MaxLength":              {sums(), 65, api.ErrRange},
		"many states, and a length":    {states, 65, api.ErrRange},
		"nothing":                      {sums(), 0, api.ErrNone},
		"many states":                  {states, 64, api.ErrNone},
		"many states, one word twice":  {twice, 64, api.OK},
		"many states, but too short":   {twice, 15, api.ErrNone},
		"many transitions":             {many(4097), 64, api.ErrNone},
		"many transitions, a conflict": {crowd, 1, api.OK},
		"no conflicts":                 {nest(), 64, api.ErrNone},
	} {
		w, l, e := example.Ambiguous(c.g, c.length)
		if e != c.want || e != api.OK && len(w)+len(l) != 0 || e == api.OK && len(l) != 2 {
			t.Error(name, w, l, e, "want", c.want)
		}
	}
}

// P21.5: of what Compile takes nothing is to be explained, at any length; be there more transitions than Attach takes, too.
func TestCompiled(t *testing.T) {
	for _, text := range []string{
		"%term a S : S a | a ;",
		"S : '(' S ')' | 'x' ;",
		"%term n E : E '+' T | T ; T : T '*' F | F ; F : '(' E ')' | n ;",
		"%term a b S : a S b | ;",
		"%term x L : L x | ;",
	} {
		if _, r, e, _ := pgen.Compile([]byte(text)); e != api.OK || len(r.Undecided) > 0 {
			t.Fatal(text, e)
		}
		g := readOf(t, text)
		for length := range api.MaxLength + 1 {
			if w, l, e := example.Ambiguous(g, length); e != api.ErrNone || len(w)+len(l) != 0 {
				t.Error(text, length, w, l, e)
			}
			if l, e := example.Explain(g, conflictsOf(sums())[0], length); e != api.ErrNone || len(l) != 0 {
				t.Error(text, length, l, e)
			}
		}
	}
}
