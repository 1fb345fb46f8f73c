package interp_test

import (
	"math"
	"slices"
	"testing"

	"gantry/api"
	"gantry/interp"
	"gantry/trees"
)

// long is a text of one kind so many times, and then of the others.
func long(kind, n int, behind ...int) []api.Token {
	return append(slices.Repeat([]api.Token{{Kind: kind, Text: "x"}}, n), textOf(behind...)...)
}

// heldOfTree holds a deep or broad tree against its text.
func heldOfTree(t *testing.T, g api.Grammar, w []api.Token, r api.Result, e api.Errno) {
	t.Helper()
	if e != api.OK || !r.Accepted {
		t.Fatal(r.At, r.Steps, e)
	}
	if e, _ := trees.Check(g, r.Tree); e != api.OK {
		t.Error("no tree:", e)
	}
	if root, _ := trees.Root(g, r.Tree); root != non(g.Start) || !slices.Equal(trees.Yield(r.Tree), w) {
		t.Error("another tree:", root)
	}
}

// P19.3 to P19.6, P5 of DOC.md: texts have no limit, and trees may be as deep as they like.
func TestLong(t *testing.T) {
	const n = 200000
	brackets := append(long(0, n, 2), long(1, n)...)
	for _, c := range []struct {
		text   string
		w      []api.Token
		height int
		cut    bool // whether it may end a token earlier
	}{
		{"%term a S : S a | %empty ;", long(0, n), n + 1, true},
		{"%term a S : a S | %empty ;", long(0, n), n + 1, true},
		{"%term a S : S T | T ; T : a ;", long(0, n), n + 1, true},
		{"%term a b c S : a S b | c ;", brackets, n + 1, false},
		{"%term a b c S : A c B ; A : a ; B : b | B C ; C : b b ;", append(long(0, 1, 2), long(1, n+1)...), n/2 + 2, false},
	} {
		v := validOf(t, c.text)
		g, y := v.Grammar(), v.Table()
		r, e := interp.Parse(v, c.w)
		heldOfTree(t, g, c.w, r, e)
		if _, _, height := trees.Measure(r.Tree); height != c.height {
			t.Error(c.text, height)
		}
		if r.Steps > (len(c.w)+1)*(len(y.Rows)+2)+len(c.w)+1+r.Pops {
			t.Error("P19.3:", c.text, r.Steps)
		}
		if again, e := interp.Run(g, y, c.w, r.Steps); e != api.OK || !sameResult(again, r) {
			t.Error("Run:", c.text, e)
		}
		if r, e := interp.Run(g, y, c.w, r.Steps-1); e != api.ErrMany || !isNone(r) {
			t.Error("a step less:", c.text, e)
		}
		cut := c.w[:len(c.w)-1]
		if r, e := interp.Parse(v, cut); e != api.OK || r.Accepted != c.cut || !c.cut && r.At != len(cut) {
			t.Error("a token less:", c.text, r.At, e)
		}
		strange := append(slices.Clone(cut), api.Token{Kind: len(g.Terms)})
		if r, e := interp.Parse(v, strange); e != api.OK || r.Accepted || r.At != len(cut) {
			t.Error("a token that is none at the end:", c.text, r.At, e)
		}
	}
}

// P19.2, P19.7: a machine with a long text, and copies of it all along the way.
func TestLongMachine(t *testing.T) {
	const n = 100000
	v := merged(nest(), true)
	w := append(long(0, n, 2), long(1, n)...)
	m := started(t, v, nil)
	copies := map[int]*interp.Machine{}
	for at, tok := range w {
		if at%10 == 0 {
			copies[at] = m.Copy()
		}
		next := m.Next()
		if ok, e := m.Push(tok); !ok || e != api.OK || !slices.Contains(next, tok.Kind) {
			t.Fatal(at, ok, e, next)
		}
	}
	want, _ := interp.Parse(v, w)
	r, e := m.End()
	heldOfTree(t, nest(), w, r, e)
	if !sameResult(r, want) || !slices.Equal(m.Stack(), []int{0, 3}) {
		t.Error("Parse tells another:", want.Steps, r.Steps)
	}
	for _, at := range []int{0, 10, n / 2, n} {
		c := copies[at]
		if l := c.Stack(); len(l) != at+1 {
			t.Error("Stack:", at, len(l))
		}
		for _, tok := range w[at:] {
			if ok, e := c.Push(tok); !ok || e != api.OK {
				t.Fatal(at, ok, e)
			}
		}
		if r, e := c.End(); e != api.OK || !sameResult(r, want) {
			t.Error("End:", at, e)
		}
	}
	if r, e := copies[n+10].End(); e != api.OK || r.Accepted || r.At != n+10 {
		t.Error("a copy that ends:", r.At, e)
	}
}

// P19.2: many reductions under one lookahead.
func TestLongTail(t *testing.T) {
	const n = 100000
	v := validOf(t, "S : 'a' S | 'b' ;")
	m := started(t, v, long(0, n, 1))
	if l := m.Next(); !slices.Equal(l, []int{2}) {
		t.Error("Next:", l)
	}
	if l := m.Stack(); len(l) != n+2 {
		t.Error("Stack:", len(l))
	}
	c := m.Copy()
	if ok, e := c.Push(api.Token{Kind: 1}); ok || e != api.OK || !slices.Equal(c.Stack(), []int{0, 3}) {
		t.Error("all is reduced ahead of the refusal:", ok, e, len(c.Stack()))
	}
	if r, e := c.End(); e != api.OK || r.At != n+1 || r.Steps != 2*n+3 || r.Pops != 2*n+1 {
		t.Error("refused:", r.At, r.Steps, r.Pops, e)
	}
	r, e := m.End()
	heldOfTree(t, v.Grammar(), long(0, n, 1), r, e)
}

// broad has as many terminals, nonterminals and productions as there may be.
func broad() api.Grammar {
	g := grammarOf(64, 64, 0)
	for n := range 63 {
		g.Prods = append(g.Prods, prod(0, term(n), non(n+1)), prod(n+1, term(n)), prod(n+1, term(n+1), non(n+1)))
	}
	for len(g.Prods) < 256 {
		n := len(g.Prods) - 189
		g.Prods = append(g.Prods, prod(0, append(slices.Repeat([]api.Sym{term(63)}, n%16), term(n/16))...))
	}
	return g
}

// P19.2: as many lookaheads as there may be.
func TestBroad(t *testing.T) {
	g := broad()
	v := merged(g, true)
	if v == nil {
		t.Fatal("it is not taken")
	}
	m := started(t, v, nil)
	if l := m.Next(); len(l) != 64 || l[63] != 63 {
		t.Error("Next:", l)
	}
	for kind := range 63 {
		m := started(t, v, textOf(kind))
		heldOfNext(t, m, 64)
		for range 3 {
			if ok, e := m.Push(api.Token{Kind: kind + 1}); !ok || e != api.OK {
				t.Error(kind, ok, e)
			}
			heldOfNext(t, m, 64)
		}
		if ok, e := m.Push(api.Token{Kind: kind}); !ok || e != api.OK {
			t.Error(kind, ok, e)
		}
		if r, e := m.End(); e != api.OK || !r.Accepted {
			t.Error(kind, r, e)
		}
	}
}

// P19.1: a table with as many rows as there may be, that goes through them all, and comes back or not.
func TestManyRows(t *testing.T) {
	const most = 2048
	g := grammarOf(1, 2, 0, prod(0, non(1)), prod(1))
	var y api.Table
	for n := range most {
		y.Rows = append(y.Rows, looks(acts(fault, by(1)), -1, min(n+1, most-1)))
	}
	y.Rows[most-1].Acts[1] = fault
	if r, e := interp.Run(g, y, nil, math.MaxInt); e != api.OK || r.Accepted || r.Steps != most {
		t.Error("to the last row:", r, e)
	}
	for _, back := range []int{0, 1, most / 2, most - 1} {
		y.Rows[most-1] = looks(acts(fault, by(1)), -1, back)
		for _, steps := range []int{most, 10 * most, math.MaxInt} {
			if r, e := interp.Run(g, y, nil, steps); e != api.ErrMany || !isNone(r) {
				t.Error("back to", back, r, e)
			}
		}
	}
}
