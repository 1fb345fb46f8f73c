package interp_test

import (
	"math/rand"
	"slices"
	"testing"

	"gantry/api"
	"gantry/canon"
	"gantry/grammar"
	"gantry/interp"
	"gantry/notation"
	"gantry/sentence"
	"gantry/trees"
	"gantry/validate"
)

// bare is a tree without payloads.
func bare(t api.Tree) api.Tree {
	t.Tok.Text = ""
	kids := slices.Clone(t.Kids)
	for n := range kids {
		kids[n] = bare(kids[n])
	}
	t.Kids = kids
	return t
}

// kinds are those of a text.
func kinds(w []api.Token) []int {
	var l []int
	for _, tok := range w {
		l = append(l, tok.Kind)
	}
	return l
}

// heldOfCount holds steps and pops against the bounds.
func heldOfCount(t *testing.T, v *validate.Valid, w []api.Token, r api.Result) {
	t.Helper()
	rows, n := len(v.Table().Rows), len(w)
	m, e := ran(v.Grammar(), v.Table(), w, r.Steps)
	if e != api.OK || !sameResult(m.result, r) {
		t.Fatalf("P19.1: %v, %v over %v: %v, want %v", v.Grammar(), v.Table(), w, r, m.result)
	}
	if r.Steps != m.shifts+m.reductions+1 || r.Steps > (n+1)*(rows+2)+n+1+r.Pops || m.highest > n+(n+1)*rows {
		t.Fatalf("P19.3: %v, %v over %v: %v, of %d shifts, %d reductions, %d entries", v.Grammar(), v.Table(), w, r, m.shifts, m.reductions, m.highest)
	}
}

// heldOfText holds what Parse answers against what chapters 8 and 9 say of a text.
func heldOfText(t *testing.T, v *validate.Valid, w []api.Token) string {
	t.Helper()
	g := v.Grammar()
	r, e := interp.Parse(v, w)
	if e != api.OK {
		t.Fatalf("P19.3: %v, %v over %v: %v", g, v.Table(), w, e)
	}
	heldOfCount(t, v, w, r)
	all := must(sentence.Trees(g, g.Start, kinds(w), 2))
	if r.Accepted {
		e, _ := trees.Check(g, r.Tree)
		if root, _ := trees.Root(g, r.Tree); e != api.OK || root != non(g.Start) || !slices.Equal(trees.Yield(r.Tree), w) || r.At != 0 {
			t.Fatalf("P19.4: %v, %v over %v: %v", g, v.Table(), w, r)
		}
	}
	if len(all) > 1 || r.Accepted != (len(all) == 1) || r.Accepted && !trees.Same(bare(r.Tree), all[0]) {
		t.Fatalf("P19.5: %v, %v over %v: %v, want %v", g, v.Table(), w, r, all)
	}
	if r.Accepted {
		return "accepted"
	}
	if r.At < 0 || r.At > len(w) || !isZero(r.Tree) || r.At < len(w) && must(sentence.Begins(g, kinds(w[:r.At+1]))) {
		t.Fatalf("P19.6: %v, %v over %v: %v", g, v.Table(), w, r)
	}
	for at, tok := range w {
		if (tok.Kind < 0 || tok.Kind >= len(g.Terms)) && r.At > at {
			t.Fatalf("P19.6: a token that is none is shifted: %v, %v over %v: %v", g, v.Table(), w, r)
		}
	}
	if r.At == len(w) {
		return "refused at the end"
	}
	return "refused"
}

func isZero(t api.Tree) bool { return t.Prod == 0 && t.Tok == (api.Token{}) && len(t.Kids) == 0 }

// heldOfTexts holds all short texts, kinds that are no terminal's among them.
func heldOfTexts(t *testing.T, v *validate.Valid, length int, seen map[string]int) {
	t.Helper()
	if v == nil {
		return
	}
	seen["taken"]++
	g := v.Grammar()
	eachText(append(kindsOf(g), len(g.Terms)), length, func(kinds []int) {
		w := textOf(kinds...)
		seen[heldOfText(t, v, w)]++
		heldOfMachine(t, v, w)
	})
	heldOfText(t, v, textOf(-1))
	heldOfText(t, v, textOf(0, -1, 0))
}

func seenAll(t *testing.T, seen map[string]int, least int) {
	t.Helper()
	for _, name := range []string{"taken", "accepted", "refused", "refused at the end"} {
		if seen[name] < least {
			t.Error("too seldom:", name, seen)
		}
	}
}

// P19.3 to P19.7: every small grammar that is LALR(1).
func TestSmall(t *testing.T) {
	seen := map[string]int{}
	n := 0
	eachSmall(func(g api.Grammar) {
		n++
		heldOfTexts(t, merged(g, n%2 == 0), 3, seen)
	})
	seenAll(t, seen, 1000)
}

// P19.3 to P19.7: tables of Knuth's automaton and of the merged one, with more actions than these have.
func TestAnyTaken(t *testing.T) {
	r := rand.New(rand.NewSource(193))
	seen := map[string]int{}
	for range 3000 {
		g := anyWell(r, 3, 4, 7, 4)
		heldOfTexts(t, anyTaken(r, g, 60), 3, seen)
	}
	seenAll(t, seen, 300)
}

// P19.6: where a table shifts more than it must, a text is refused later, but never accepted.
func TestShiftedTooMuch(t *testing.T) {
	r := rand.New(rand.NewSource(196))
	late := 0
	for range 4000 {
		g := anyWell(r, 3, 3, 6, 4)
		v := anyTaken(r, g, 60)
		if v == nil {
			continue
		}
		eachText(kindsOf(g), 3, func(l []int) {
			w := textOf(l...)
			if heldOfText(t, v, w) == "accepted" {
				return
			}
			if result, _ := interp.Parse(v, w); result.At > 0 && !must(sentence.Begins(g, l[:result.At])) {
				late++
			}
		})
	}
	if late < 20 {
		t.Error("too seldom:", late)
	}
}

// texts are grammars of people.
func texts() []string {
	return []string{
		"E : E '+' T | T ; T : T '*' F | F ; F : '(' E ')' | 'n' ;",
		"S : S 'a' | %empty ;",
		"S : 'a' S | %empty ;",
		"S : A B 'c' ; A : 'a' | %empty ; B : 'b' | %empty ;",
		"S : L '=' R | R ; L : '*' R | 'x' ; R : L ;",
		"%term s n t f u V : '{' M '}' | '[' L ']' | s | n | t | f | u ; M : N | %empty ; N : N ',' P | P ; P : s ':' V ; L : K | %empty ; K : K ',' V | V ;",
		"P : B ; B : '{' D T '}' ; D : D 'int' 'id' ';' | %empty ; T : T C | %empty ; C : 'id' '=' E ';' | 'while' '(' E ')' C | B | 'do' C 'while' '(' E ')' ';' ; E : E '<' A | A ; A : A '+' M | M ; M : M '*' U | U ; U : '-' U | 'id' | '(' E ')' ;",
	}
}

// P19.3 to P19.7: longer words of grammars of people, whole, cut off, and with a token changed.
func TestPeople(t *testing.T) {
	r := rand.New(rand.NewSource(195))
	seen := map[string]int{}
	for _, text := range texts() {
		v := validOf(t, text)
		g := v.Grammar()
		seen["taken"]++
		for length := range 15 {
			words := must(sentence.Words(g, g.Start, length, 40))
			for _, l := range words {
				w := textOf(l...)
				if how := heldOfText(t, v, w); how != "accepted" {
					t.Error("P19.5:", text, l, how)
				}
				seen["accepted"]++
				heldOfMachine(t, v, w)
				seen[heldOfText(t, v, w[:r.Intn(length+1)])]++
				if length > 0 {
					w[r.Intn(length)].Kind = r.Intn(len(g.Terms) + 1)
					seen[heldOfText(t, v, w)]++
					heldOfMachine(t, v, w)
				}
			}
		}
	}
	seenAll(t, seen, 5)
}

// P19.5: a grammar that is LR(1), but not LALR(1), by Knuth's table.
func TestKnuth(t *testing.T) {
	g, e, at := notation.Parse("%term a b c d e S : a A d | b B d | a B e | b A e ; A : c ; B : c ;")
	if e != api.OK || merged(g, true) != nil {
		t.Fatal(e, at)
	}
	seen := map[string]int{}
	for _, defaults := range []bool{false, true} {
		v := taken(g, must(canon.Canonical(g)), defaults)
		if v == nil {
			t.Fatal("it is not taken")
		}
		heldOfTexts(t, v, 4, seen)
	}
	if seen["accepted"] != 8 {
		t.Error(seen)
	}
}

// hollow is N0 → N1 t0, N0 → N1 t1, N1 → N2 t0, .., the last gives nothing: a word of it begins with what is empty.
func hollow(depth int) api.Grammar {
	g := grammarOf(2, depth+1, 0)
	for n := range depth {
		g.Prods = append(g.Prods, prod(n, non(n+1), term(0)), prod(n, non(n+1), term(1)))
	}
	g.Prods = append(g.Prods, prod(depth))
	return g
}

// P19.3: many entries and many reductions without a token.
func TestBounds(t *testing.T) {
	for _, c := range []struct {
		about string
		g     api.Grammar
		w     []int
	}{
		{"one that is empty below many", hollow(9), []int{0, 1, 0, 1, 0, 0, 1, 1, 0}},
		{"sixteen that are empty", grammarOf(1, 2, 0, prod(0, append(slices.Repeat([]api.Sym{non(1)}, 15), term(0))...), prod(1)), []int{0}},
		{"a unit chain", unitChain(60), []int{0}},
	} {
		v := merged(c.g, true)
		if v == nil {
			t.Fatal(c.about, "is not taken")
		}
		if how := heldOfText(t, v, textOf(c.w...)); how != "accepted" {
			t.Error(c.about, how)
		}
	}
}

// unitChain is N0 → N1, N1 → N2, .., the last gives a terminal.
func unitChain(n int) api.Grammar {
	g := grammarOf(1, n, 0)
	for i := range n - 1 {
		g.Prods = append(g.Prods, prod(i, non(i+1)))
	}
	g.Prods = append(g.Prods, prod(n-1, term(0)))
	return g
}

// FuzzRuns lets bytes make a grammar, a table of any shape that fits, and a text.
func FuzzRuns(f *testing.F) {
	f.Add([]byte{0, 2, 1, 2, 255, 0, 0, 255, 0, 2, 2}, int64(1), []byte{0, 1})
	f.Add([]byte{1, 2, 0, 255, 0, 3, 3, 255, 2, 1}, int64(2), []byte{1, 1, 0})
	f.Fuzz(func(t *testing.T, l []byte, seed int64, text []byte) {
		r := rand.New(rand.NewSource(seed))
		g := grammarOf(2, 3, 0)
		for i := 0; i < len(l) && i < 24; i++ {
			p := prod(int(l[i] % 3))
			for i++; i < len(l) && l[i] < 200 && len(p.Right) < 4; i++ {
				p.Right = append(p.Right, symbolsOf(g)[l[i]%5])
			}
			g.Prods = append(g.Prods, p)
		}
		if e, _ := grammar.Check(g); e != api.OK {
			return
		}
		var kinds []int
		for _, b := range text[:min(len(text), 8)] {
			kinds = append(kinds, int(b%4)-1)
		}
		heldOfRun(t, g, anyTable(r, g, 1+r.Intn(6)), textOf(kinds...), 1+r.Intn(1500))
		if !isWell(g) {
			return
		}
		if v := anyTaken(r, g, 60); v != nil {
			heldOfText(t, v, textOf(kinds...))
			heldOfMachine(t, v, textOf(kinds...))
		}
	})
}
