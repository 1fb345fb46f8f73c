package pgen_test

import (
	"slices"
	"strings"
	"testing"

	"gantry/api"
	"gantry/bundle"
	"gantry/lrzero"
	"gantry/pgen"
	"gantry/trees"
)

// rowsOf has right sides of terminals alone, by which it has just so many states (from 3 on): state 0, that behind start, and one for each beginning of a right side.
func rowsOf(states int) api.Grammar {
	g := grammarOf(64, 1, 0)
	for left := states - 2; left > 0; {
		n := len(g.Prods)
		known := 0
		if n >= 64 { // the first terminal stood ahead of another row
			known = 1
		}
		length := min(16, known+left)
		row := slices.Repeat([]api.Sym{term(n / 64)}, length)
		row[0] = term(n % 64)
		g.Prods = append(g.Prods, prod(0, row...))
		left -= length - known
	}
	return g
}

// P20.2, P20.3, P20.9: as many states as there may be, and one more.
func TestStates(t *testing.T) {
	g := rowsOf(api.MaxStates)
	got := compile(codeOf(g))
	if got.err != api.OK || !got.same(force(textOf(g))) {
		t.Fatal("P20.9:", got.err, got.at)
	}
	v := heldOfLoad(t, textOf(g), got.frame)
	if v == nil || len(v.Table().Rows) != api.MaxStates {
		t.Fatal("P20.9: it is not taken")
	}
	for n, p := range g.Prods {
		var l []int
		for _, s := range p.Right {
			l = append(l, s.N)
		}
		if r, e := pgen.Parse(v, tokens(l...)); e != api.OK || !r.Accepted || r.Tree.Prod != n {
			t.Error("P20.8:", n, r, e)
		}
	}
	more := codeOf(rowsOf(api.MaxStates + 1))
	if a, b := compile(more), force(more); !a.isFault(api.ErrStates, 0) || !b.isFault(api.ErrStates, 0) {
		t.Error("P20.2, P20.3:", a.err, a.at, b.err, b.at)
	}
	unreached := rowsOf(api.MaxStates + 1)
	unreached.Nons = append(unreached.Nons, "more")
	unreached.Prods = append(unreached.Prods, prod(1, term(0)))
	if a := compile(codeOf(unreached)); !a.isFault(api.ErrUnreached, 66) {
		t.Error("P20.2: what is not well-formed goes ahead:", a.err, a.at)
	}
}

// fences has so many right sides with seven times the start in them, and so many operators behind it: the states have many items with many lookaheads.
func fences(sides, operators int) api.Grammar {
	g := grammarOf(64, 1, 0, prod(0, term(63)))
	for n := range operators {
		g.Prods = append(g.Prods, prod(0, non(0), term(n%60), term(63-n/60)))
	}
	for n := range sides {
		right := []api.Sym{term(n % 60), term(60 + n/60), non(0)}
		for range 6 {
			right = append(right, term(61), non(0))
		}
		g.Prods = append(g.Prods, prod(0, append(right, term(60))...))
	}
	return g
}

// P20.2, P20.3, P20.9: a bundle of too many bytes, and a great one that is not too long.
func TestLong(t *testing.T) {
	g := codeOf(fences(60, 70))
	made := compile(g)
	if made.err != api.OK || len(made.frame) < 1<<22 {
		t.Fatal("P20.2:", made.err, made.at, len(made.frame))
	}
	if v, e, at := pgen.Load(g, made.frame); e != api.OK || !v.Made() {
		t.Error("P20.9:", e, at)
	}
	last := slices.Clone(made.frame)
	last[len(last)-1] ^= 1
	if v, e, at := pgen.Load(g, last); v != nil || e != api.ErrSum || at != len(last)-4 {
		t.Error("P20.4:", e, at)
	}
	long := fences(110, 140)
	if a, e := lrzero.Build(long); e != api.OK {
		t.Fatal(len(a.States), e)
	}
	for _, got := range []compiled{compile(codeOf(long)), force(textOf(long))} {
		if !got.isFault(api.ErrLong, 0) {
			t.Error("P20.2, P20.3:", got.err, got.at, len(got.frame))
		}
	}
}

// P20.7, P20.8, P5 of DOC.md: a text has no limit.
func TestLongTexts(t *testing.T) {
	const n = 150000
	for _, c := range []struct{ grammar, text, tree string }{
		{"%term a S : S a | %empty ;", strings.Repeat("a ", n), strings.Repeat("(S ", n) + "(S)" + strings.Repeat(" a)", n)},
		{"%term a S : a S | %empty ;", strings.Repeat(" a", n), strings.Repeat("(S a ", n) + "(S)" + strings.Repeat(")", n)},
		{nest, strings.Repeat("'(' ", n) + "'x'" + strings.Repeat(" ')'", n), strings.Repeat("(S '(' ", n) + "(S 'x')" + strings.Repeat(" ')')", n)},
	} {
		v := loadedOf(t, c.grammar)
		r, e, at := pgen.ParseNames(v, c.text)
		if e != api.OK || at != 0 || !r.Accepted {
			t.Fatal("P20.8:", c.grammar, r.At, e, at)
		}
		w := trees.Yield(r.Tree)
		if r.Steps > (len(w)+1)*(len(v.Table().Rows)+2)+len(w)+1+r.Pops {
			t.Error("P20.7:", c.grammar, r.Steps)
		}
		again, e := pgen.Parse(v, w)
		if e != api.OK || !trees.Same(again.Tree, r.Tree) || again.Steps != r.Steps || again.Pops != r.Pops {
			t.Error("P20.5:", c.grammar, again.At, e)
		}
		if s, e := pgen.PrintResult(v.Grammar(), r); e != api.OK || s != "accepted "+c.tree {
			t.Error("P20.6:", c.grammar, len(s), e)
		}
		strange := append(slices.Clone(w), api.Token{Kind: len(v.Grammar().Terms)}, api.Token{})
		if r, e := pgen.Parse(v, strange); e != api.OK || r.Accepted || r.At != len(w) {
			t.Error("P20.8:", c.grammar, r.At, e)
		}
		if r, e, at := pgen.ParseNames(v, c.text+" $"); e != api.ErrKnown || at != len(c.text)+1 || !isNone(r) {
			t.Error("P20.5:", c.grammar, e, at)
		}
	}
	v := loadedOf(t, nest)
	if r, e, at := pgen.ParseNames(v, strings.Repeat(" ", 1<<20)+"'x'"+strings.Repeat(" ", 1<<20)); e != api.OK || at != 0 || !r.Accepted {
		t.Error("P20.5: blanks:", r, e, at)
	}
	name := strings.Repeat("a", 1<<20)
	if r, e, at := pgen.ParseNames(v, "  "+name); e != api.ErrKnown || at != 2 || !isNone(r) {
		t.Error("P20.5: a long name:", r, e, at)
	}
}

// P20.7: frames that claim to be long ask for no more than is there.
func TestHostileLengths(t *testing.T) {
	for _, kind := range []byte{1, 2} {
		for _, length := range [][]byte{{0xff, 0xff, 0xff, 7}, {0x80, 0x80, 0x80, 8}, {0x81, 0x80, 0x80, 8}, {0xff, 0xff, 0xff, 0xff, 0xff, 0xff, 0xff, 0xff, 0xff, 1}} {
			frame := slices.Concat([]byte("gtr"), []byte{kind}, length, make([]byte, 40))
			if v := heldOfLoad(t, []byte(nest), frame); v != nil {
				t.Error("P20.7: taken:", frame)
			}
			if v := heldOfLoad(t, frame, frame); v != nil {
				t.Error("P20.7: taken:", frame)
			}
		}
	}
	rows := api.Bundle{Table: api.Table{Rows: slices.Repeat([]api.Row{{Default: -1}}, 1<<20)}}
	if v := heldOfLoad(t, []byte(nest), must(bundle.Encode(rows))); v != nil {
		t.Error("P20.7: a million rows are taken")
	}
}
