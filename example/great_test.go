package example_test

import (
	"slices"
	"strings"
	"testing"

	"gantry/api"
	"gantry/example"
	"gantry/trees"
)

// P21.1, P21.4, P5 of DOC.md: trees as deep as they like, to both sides and in the middle, and of circular nonterminals.
func TestDeep(t *testing.T) {
	const n = 200000
	one := grammarOf(3, 1, 0, prod(0, term(0), non(0)), prod(0, non(0), term(1)), prod(0, term(0), non(0), term(1)), prod(0, non(0)), prod(0), prod(0, term(2)))
	open, closed := leaf(0, "x"), leaf(1, "y")
	for name, c := range map[string]struct {
		wrap  func(api.Tree) api.Tree
		moves int
	}{
		"right":    {func(y api.Tree) api.Tree { return node(0, open, y) }, 2},
		"left":     {func(y api.Tree) api.Tree { return node(1, y, closed) }, 2},
		"middle":   {func(y api.Tree) api.Tree { return node(2, open, y, closed) }, 3},
		"circular": {func(y api.Tree) api.Tree { return node(3, y) }, 1},
	} {
		y := node(4)
		for range n {
			y = c.wrap(y)
		}
		l, e := example.Moves(one, y)
		if e != api.OK || len(l) != c.moves*n+2 || l[len(l)-1].Act != accept() {
			t.Fatal(name, len(l), e)
		}
		x, e, at := example.Follow(one, l, trees.Yield(y))
		if e != api.OK || at != 0 || !trees.Same(x, y) {
			t.Error(name, e, at)
		}
		l[len(l)-2].State++
		if x, e, at := example.Follow(one, l, trees.Yield(y)); e != api.ErrStep || at != len(l)-2 || !isZero(x) {
			t.Error(name, e, at)
		}
	}
}

// mini is a language of statements, in which an else may belong to either if.
const mini = `
%term id num
Prog : Stmts ;
Stmts : Stmts Stmt | %empty ;
Stmt : 'if' '(' Exp ')' Stmt | 'if' '(' Exp ')' Stmt 'else' Stmt | 'while' '(' Exp ')' Stmt | '{' Stmts '}' | id '=' Exp ';' | 'return' Exp ';' | ';' ;
Exp : Exp '+' Term | Exp '-' Term | Term ;
Term : Term '*' Fac | Term '/' Fac | Fac ;
Fac : id | num | '(' Exp ')' | '-' Fac | id '(' Args ')' ;
Args : ArgList | %empty ;
ArgList : ArgList ',' Exp | Exp ;
`

// spelled is a word by its terminals' names.
func spelled(g api.Grammar, w []int) string {
	var l []string
	for _, k := range w {
		l = append(l, strings.Trim(g.Terms[k], "'"))
	}
	return strings.Join(l, " ")
}

// P21.2, P21.3: a grammar with very many words ahead of those that are asked for.
func TestLanguage(t *testing.T) {
	g := readOf(t, mini)
	const shifted, reduced = "if ( id ) ; else ;", "if ( id ) if ( id ) ; else ;"
	l := conflictsOf(g)
	if len(l) != 1 {
		t.Fatal(l)
	}
	p, e := example.Explain(g, l[0], 64)
	if e != api.OK || len(p) != 2 || spelled(g, p[0].Word) != shifted || spelled(g, p[1].Word) != reduced {
		t.Fatal(p, e)
	}
	for _, x := range p {
		if !proves(g, l[0], x) {
			t.Error(x)
		}
	}
	w, two, e := example.Ambiguous(g, 64)
	if e != api.OK || spelled(g, w) != reduced || len(two) != 2 || two[0].Prod != 0 {
		t.Error(spelled(g, w), two, e)
	}
	if _, _, e := example.Ambiguous(g, 10); e != api.ErrNone {
		t.Error(e)
	}
}

// chain is a word of so many a, and then one of two letters, each of which is reduced in two ways.
func chain(n int) api.Grammar {
	g := grammarOf(3, 4, 0)
	right := []api.Sym{non(1)}
	for range 3 {
		right = append(right, non(1))
	}
	part := slices.Repeat([]api.Sym{term(0)}, n/4)
	tail := slices.Repeat([]api.Sym{term(0)}, n%4)
	for _, last := range []api.Sym{non(2), non(3)} {
		g.Prods = append(g.Prods, prod(0, slices.Concat(right, tail, []api.Sym{last})...))
	}
	g.Prods = append(g.Prods, prod(1, part...), prod(2, term(1)), prod(3, term(1)), prod(2, term(2)))
	return g
}

// P21.2, P21.3: words of as many terminals as there may be, and one more.
func TestMaxLength(t *testing.T) {
	g := chain(63)
	l := conflictsOf(g)
	if len(l) != 1 {
		t.Fatal(l)
	}
	word := append(slices.Repeat([]int{0}, 63), 1)
	p, e := example.Explain(g, l[0], 64)
	if e != api.OK || len(p) != 2 || !slices.Equal(p[0].Word, word) || !slices.Equal(p[1].Word, word) || !proves(g, l[0], p[0]) || !proves(g, l[0], p[1]) {
		t.Error(p, e)
	}
	if w, two, e := example.Ambiguous(g, 64); e != api.OK || !slices.Equal(w, word) || len(two) != 2 {
		t.Error(w, two, e)
	}
	if p, e := example.Explain(g, l[0], 63); e != api.ErrSearch || len(p) != 0 {
		t.Error(p, e)
	}
	if w, two, e := example.Ambiguous(g, 63); e != api.ErrNone || len(w)+len(two) != 0 {
		t.Error(w, two, e)
	}
	h := chain(64)
	if p, e := example.Explain(h, conflictsOf(h)[0], 64); e != api.ErrSearch || len(p) != 0 {
		t.Error(p, e)
	}
	if w, two, e := example.Ambiguous(h, 64); e != api.ErrNone || len(w)+len(two) != 0 {
		t.Error(w, two, e)
	}
}

// P21.2, P21.3: as many terminals, nonterminals and productions as there may be; two letters embrace two nonterminals each, one of which gives the other.
func TestBroad(t *testing.T) {
	g := grammarOf(64, 64, 0, prod(63, term(63)))
	for n := range 63 {
		g.Prods = append(g.Prods, prod(n, non(n+1)), prod(n, non(n), term(n), non(n+1)), prod(n, non(n), term(n), non(n)))
	}
	for len(g.Prods) < api.MaxProds {
		n := len(g.Prods) - 190
		g.Prods = append(g.Prods, prod(63, term(n%64), non(40+n/64), term(n%64)))
	}
	l := conflictsOf(g)
	if len(l) < 64 {
		t.Fatal(len(l))
	}
	for n := 0; n < len(l); n += len(l) / 8 {
		p, e := example.Explain(g, l[n], 16)
		if e != api.OK {
			t.Error(l[n], e)
		}
		for _, x := range p {
			if !proves(g, l[n], x) {
				t.Error(l[n], x)
			}
		}
	}
	if w, two, e := example.Ambiguous(g, 64); e != api.OK || !slices.Equal(w, []int{0, 63, 0}) || len(two) != 2 {
		t.Error(w, two, e)
	}
}
