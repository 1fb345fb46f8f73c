package earley_test

import (
	"math/rand"
	"slices"
	"testing"

	"gantry/api"
	"gantry/canon"
	"gantry/cert"
	"gantry/earley"
	"gantry/notation"
	"gantry/pgen"
	"gantry/sentence"
	"gantry/table"
	"gantry/trees"
	"gantry/trim"
	"gantry/validate"
)

// heldOfSentence holds Accepts, Next, Count and Tree of a text of at most 63 terminals against chapter 9. It tells what the text is.
func heldOfSentence(t *testing.T, g api.Grammar, w []int, seen map[string]int) {
	t.Helper()
	n, e := sentence.Count(g, g.Start, w)
	if c, f := earley.Count(g, w); c != n || f != e {
		t.Fatal("P23.3: Count:", g.Prods, g.Start, w, c, f, n, e)
	}
	first, e := sentence.Trees(g, g.Start, w, 1)
	if e == api.OK && len(first) == 0 {
		first, e = make([]api.Tree, 1), api.ErrNone
	} else if e != api.OK {
		first = make([]api.Tree, 1)
		seen["circular"]++
	}
	if x, f := earley.Tree(g, w); f != e || !trees.Same(x, first[0]) {
		t.Fatal("P23.3: Tree:", g.Prods, g.Start, w, x, f, first, e)
	}
	var next []int
	for k := range g.Terms {
		if must(sentence.Begins(g, slices.Concat(w, []int{k}))) {
			next = append(next, k)
		}
	}
	accepts := must(earley.Accepts(g, w))
	if accepts {
		next = append(next, len(g.Terms))
		seen["text"]++
	}
	if e != api.ErrCycle && accepts != (n > 0) {
		t.Fatal("P23.3: Accepts:", g.Prods, g.Start, w, accepts, n)
	}
	if l := must(earley.Next(g, w)); !slices.Equal(l, next) {
		t.Fatal("P23.3: Next:", g.Prods, g.Start, w, l, next)
	}
	heldOfDead(t, g, w, accepts)
	if n > 1 {
		seen["ambiguous"]++
	}
	if n == 4097 {
		seen["many"]++
	}
}

func heldOfDead(t *testing.T, g api.Grammar, w []int, accepts bool) {
	t.Helper()
	want := 0
	for !accepts && want < len(w) && must(sentence.Begins(g, w[:want+1])) {
		want++
	}
	if at, dead, e := earley.Dead(g, w); at != want || dead == accepts || e != api.OK {
		t.Fatal("P23.3: Dead:", g.Prods, g.Start, w, at, dead, e, want)
	}
}

// changed is a word of which one terminal is another, is left out, or stands twice.
func changed(r *rand.Rand, g api.Grammar, w []int) []int {
	w = slices.Clone(w)
	if len(w) == 0 {
		return w
	}
	at := r.Intn(len(w))
	switch r.Intn(3) {
	case 0:
		w[at] = r.Intn(len(g.Terms))
	case 1:
		w = slices.Delete(w, at, at+1)
	default:
		w = slices.Insert(w, at, w[at])
	}
	return w[:min(len(w), 63)]
}

// P23.3: of drawn grammars, their texts of any length up to 63, and what is nearly one.
func TestSentence(t *testing.T) {
	r := rand.New(rand.NewSource(233))
	seen := map[string]int{}
	for range 900 {
		g := anyGrammar(r, 3, 5, 12, 4)
		if r.Intn(2) == 0 {
			g = layered(r, 3, 5, 12, 4)
		}
		for range 3 {
			for _, w := range must(sentence.Words(g, g.Start, r.Intn(20)*r.Intn(4)+r.Intn(7), 2)) {
				heldOfSentence(t, g, w, seen)
				heldOfSentence(t, g, changed(r, g, w), seen)
			}
		}
		heldOfSentence(t, g, anyWord(r, g, 12), seen)
	}
	seenAll(t, seen, 500, "text", "ambiguous", "circular")
	seenAll(t, seen, 100, "many")
}

// P23.3: of words with very many trees the first is told, up to 64 terminals.
func TestFirstOfMany(t *testing.T) {
	r := rand.New(rand.NewSource(2331))
	told := 0
	for range 300 {
		g := layered(r, 2, 3, 9, 4)
		for _, length := range []int{30, 63, 64} {
			for _, w := range must(sentence.Words(g, 0, length, 2)) {
				told++
				want := must(sentence.Trees(g, 0, w, 1))[0]
				if x, e := earley.Tree(g, w); e != api.OK || !trees.Same(x, want) {
					t.Fatal(g.Prods, w, x, e, want)
				}
				if n := must(earley.Count(g, w)); n != must(sentence.Count(g, 0, w)) {
					t.Fatal(g.Prods, w, n)
				}
			}
		}
	}
	if told < 300 {
		t.Error("too few:", told)
	}
}

// tokens is a text of these kinds, each token with a payload.
func tokens(w []int) []api.Token {
	var l []api.Token
	for _, k := range w {
		l = append(l, api.Token{Kind: k, Text: "y"})
	}
	return l
}

// bare is a tree without payloads.
func bare(g api.Grammar, x api.Tree) api.Tree {
	var w []api.Token
	for _, tok := range trees.Yield(x) {
		w = append(w, api.Token{Kind: tok.Kind})
	}
	y, e, _ := trees.FromLeft(g, trees.Left(x), w)
	if e != api.OK {
		panic(e)
	}
	return y
}

// heldOfParse holds a parser's answer against Accepts, Tree, Count and Dead.
func heldOfParse(t *testing.T, v *validate.Valid, w []int, seen map[string]int) {
	t.Helper()
	g := v.Grammar()
	res, e := pgen.Parse(v, tokens(w))
	accepts, f := earley.Accepts(g, w)
	if e != api.OK || f != api.OK || accepts != res.Accepted {
		t.Fatal("P23.4: Accepts:", g.Prods, len(w), accepts, f, res.Accepted, e)
	}
	x, f := earley.Tree(g, w)
	n := must(earley.Count(g, w))
	at, dead, _ := earley.Dead(g, w)
	if accepts {
		if f != api.OK || n != 1 || dead || !trees.Same(x, bare(g, res.Tree)) {
			t.Fatal("P23.4: Tree:", g.Prods, len(w), f, n, dead)
		}
		seen["accepted"]++
		return
	}
	if f != api.ErrNone || n != 0 || !dead || at > res.At || at < 0 {
		t.Fatal("P23.4: Dead:", g.Prods, len(w), f, n, at, dead, res.At)
	}
	seen["refused"]++
}

// merged is a parser by the table that Compile makes; nil, if the grammar has conflicts.
func merged(g api.Grammar) *validate.Valid {
	source, e := notation.Print(g)
	if e != api.OK {
		panic(e)
	}
	b, _, e, _ := pgen.Compile([]byte(source))
	if e != api.OK {
		return nil
	}
	v, e, _ := pgen.Load([]byte(source), b)
	if e != api.OK {
		panic(e)
	}
	return v
}

// knuths is a parser by Knuth's automaton.
func knuths(g api.Grammar) *validate.Valid {
	a := must(canon.Canonical(g))
	y, undecided, decided, _ := table.Build(g, a)
	if len(undecided)+len(decided) > 0 {
		return nil
	}
	y = must(table.Defaults(g, y))
	v, e, _ := validate.Validate(g, api.Bundle{Table: y, Cert: must(cert.Make(g, a, y))})
	if e != api.OK {
		panic(e)
	}
	return v
}

// P23.4: every short text, and longer ones, of drawn grammars of which a bundle is taken.
func TestParser(t *testing.T) {
	r := rand.New(rand.NewSource(234))
	seen := map[string]int{}
	for range 6000 {
		g, e := trim.Wells(anyGrammar(r, 3, 4, 8, 3))
		if e != api.OK {
			continue
		}
		v := merged(g)
		if v == nil {
			continue
		}
		seen["taken"]++
		eachWord(below(len(g.Terms)+1), 3, func(w []int) { heldOfParse(t, v, w, seen) })
		for range 4 {
			for _, w := range must(sentence.Words(g, g.Start, r.Intn(65), 2)) {
				heldOfParse(t, v, w, seen)
				heldOfParse(t, v, changed(r, g, w), seen)
			}
		}
	}
	seenAll(t, seen, 200, "taken", "accepted", "refused")
}

// P23.4: a bundle by Knuth's automaton, of a grammar that is LR(1), but not LALR(1).
func TestKnuth(t *testing.T) {
	g := readOf(t, "%term a b c d e S : a A d | b B d | a B e | b A e ; A : c ; B : c ;")
	v := knuths(g)
	if v == nil || merged(g) != nil {
		t.Fatal(v)
	}
	seen := map[string]int{}
	eachWord(below(6), 4, func(w []int) { heldOfParse(t, v, w, seen) })
	if seen["accepted"] != 4 {
		t.Error(seen)
	}
}

func readOf(t testing.TB, source string) api.Grammar {
	t.Helper()
	g, e, at := notation.Parse(source)
	if e != api.OK {
		t.Fatal(source, e, at)
	}
	return g
}

// mini is a language of statements.
const mini = `
%term id num
Prog : Stmts ;
Stmts : Stmts Stmt | %empty ;
Stmt : 'while' '(' Exp ')' Stmt | '{' Stmts '}' | id '=' Exp ';' | 'return' Exp ';' | ';' ;
Exp : Exp '+' Term | Exp '-' Term | Term ;
Term : Term '*' Fac | Term '/' Fac | Fac ;
Fac : id | num | '(' Exp ')' | '-' Fac | id '(' Args ')' ;
Args : ArgList | %empty ;
ArgList : Exp ',' ArgList | Exp ;
`

// anyText derives a text by chance: where it has become long, by the productions whose words are short.
func anyText(r *rand.Rand, g api.Grammar, long int) []int {
	lengths := must(sentence.Lengths(g))
	least := func(p api.Prod) int {
		n := 0
		for _, s := range p.Right {
			n++
			if s.Kind == api.SymNon {
				n += lengths[s.N]
			}
		}
		return n
	}
	var w []int
	for stack := syms(non(g.Start)); len(stack) > 0; {
		s := stack[len(stack)-1]
		stack = stack[:len(stack)-1]
		if s.Kind == api.SymTerm {
			w = append(w, s.N)
			continue
		}
		var rules []api.Prod
		for _, p := range g.Prods {
			if p.Left == s.N {
				rules = append(rules, p)
			}
		}
		p := rules[r.Intn(len(rules))]
		if len(w)+len(stack) > long {
			p = slices.MinFunc(rules, func(a, b api.Prod) int { return least(a) - least(b) })
		}
		for _, s := range slices.Backward(p.Right) {
			stack = append(stack, s)
		}
	}
	return w
}

// P23.4: long texts of a language, and what is nearly one.
func TestLanguage(t *testing.T) {
	g := readOf(t, mini)
	v := merged(g)
	if v == nil {
		t.Fatal("it is not taken")
	}
	r := rand.New(rand.NewSource(2341))
	seen := map[string]int{}
	for range 150 {
		w := anyText(r, g, r.Intn(800))
		heldOfParse(t, v, w, seen)
		for range 3 {
			l := slices.Clone(w)
			if len(l) > 0 {
				l[r.Intn(len(l))] = r.Intn(len(g.Terms))
			}
			heldOfParse(t, v, l, seen)
			heldOfParse(t, v, w[:r.Intn(len(w)+1)], seen)
		}
		if len(w) > 300 {
			seen["long"]++
		}
	}
	seenAll(t, seen, 20, "accepted", "refused", "long")
}

// FuzzGrammars looks for a grammar and a text of which the answers are not those of the model.
func FuzzGrammars(f *testing.F) {
	f.Add([]byte{0, 2, 0, 2, 255, 0, 1}, []byte{1, 0, 1})
	f.Add([]byte{0, 3, 4, 255, 1, 255, 2, 3, 2}, []byte{0, 0})
	f.Fuzz(func(t *testing.T, l []byte, text []byte) {
		g := grammarOf(2, 3, 0)
		for i := 0; i < len(l) && i < 40; i++ {
			p := prod(int(l[i] % 3))
			for i++; i < len(l) && l[i] < 200 && len(p.Right) < 5; i++ {
				if n := int(l[i] % 5); n < 2 {
					p.Right = append(p.Right, term(n))
				} else {
					p.Right = append(p.Right, non(n-2))
				}
			}
			g.Prods = withProd(g.Prods, p)
		}
		if len(g.Prods) == 0 {
			return
		}
		var w []int
		for _, b := range text[:min(len(text), 8)] {
			w = append(w, int(b%8)%3)
		}
		held(t, g, w, map[string]int{})
	})
}
