package symbols_test

import (
	"math"
	"slices"
	"strings"
	"testing"

	"gantry/api"
	"gantry/symbols"
)

// plain is a book by its words: two lists of names.
type plain struct {
	terms, nons []string
}

func (p *plain) term(name string) (int, api.Errno) {
	n := slices.Index(p.terms, name)
	switch {
	case !symbols.IsWord(name) && !symbols.IsQuoted(name):
		return 0, api.ErrName
	case n >= 0:
		return n, api.OK
	case slices.Contains(p.nons, name):
		return 0, api.ErrTwice
	case len(p.terms) == 64:
		return 0, api.ErrTerms
	}
	p.terms = append(slices.Clone(p.terms), name)
	return len(p.terms) - 1, api.OK
}

func (p *plain) non(name string) (int, api.Errno) {
	n := slices.Index(p.nons, name)
	switch {
	case !symbols.IsWord(name):
		return 0, api.ErrName
	case n >= 0:
		return n, api.OK
	case slices.Contains(p.terms, name):
		return 0, api.ErrTwice
	case len(p.nons) == 64:
		return 0, api.ErrNons
	}
	p.nons = append(slices.Clone(p.nons), name)
	return len(p.nons) - 1, api.OK
}

func (p *plain) undo(m api.Pair) api.Errno {
	if m.A < 0 || m.A > len(p.terms) || m.B < 0 || m.B > len(p.nons) {
		return api.ErrRange
	}
	p.terms, p.nons = slices.Clone(p.terms[:m.A]), slices.Clone(p.nons[:m.B])
	return api.OK
}

func (p *plain) find(name string) (api.Sym, bool) {
	if n := slices.Index(p.terms, name); n >= 0 {
		return term(n), true
	}
	if n := slices.Index(p.nons, name); n >= 0 {
		return non(n), true
	}
	return api.Sym{}, false
}

// wantBook holds all that can be asked of a book against its plain form.
func wantBook(t *testing.T, b *symbols.Book, p plain, names []string) {
	t.Helper()
	if terms, nons := b.Terms(), b.Nons(); !slices.Equal(terms, p.terms) || !slices.Equal(nons, p.nons) {
		t.Fatalf("names %q, %q, want %q, %q", terms, nons, p.terms, p.nons)
	}
	if m := b.Mark(); m != (api.Pair{A: len(p.terms), B: len(p.nons)}) {
		t.Fatalf("Mark: %v, of %q, %q", m, p.terms, p.nons)
	}
	if e, n := symbols.CheckNames(b.Terms(), b.Nons()); e != api.OK || n != len(p.terms)+len(p.nons) {
		t.Fatalf("CheckNames of %q, %q: %v at %d", p.terms, p.nons, e, n)
	}
	for _, name := range names {
		s, ok := b.Find(name)
		if wantS, wantOk := p.find(name); s != wantS || ok != wantOk {
			t.Fatalf("Find(%q): %v %v, want %v %v", name, s, ok, wantS, wantOk)
		}
	}
	wantNames(t, b, append(slices.Clone(p.terms), "$"), api.SymTerm)
	wantNames(t, b, p.nons, api.SymNon)
}

// wantNames asks a book for the names of one kind, and for those beside them.
func wantNames(t *testing.T, b *symbols.Book, names []string, kind api.SymKind) {
	t.Helper()
	for n := -1; n <= len(names); n++ {
		want, wantE := "", api.ErrSymbol
		if 0 <= n && n < len(names) {
			want, wantE = names[n], api.OK
		}
		if name, e := b.Name(api.Sym{Kind: kind, N: n}); name != want || e != wantE {
			t.Fatalf("Name(%d, %d): %q %v, want %q %v", kind, n, name, e, want, wantE)
		}
	}
}

// step is one call of a script, of a book and of its plain form, that must answer the same.
type step func(b *symbols.Book, p *plain) (got, want [2]int)

func termStep(name string) step {
	return func(b *symbols.Book, p *plain) ([2]int, [2]int) {
		n, e := b.Term(name)
		wantN, wantE := p.term(name)
		return [2]int{n, int(e)}, [2]int{wantN, int(wantE)}
	}
}

func nonStep(name string) step {
	return func(b *symbols.Book, p *plain) ([2]int, [2]int) {
		n, e := b.Non(name)
		wantN, wantE := p.non(name)
		return [2]int{n, int(e)}, [2]int{wantN, int(wantE)}
	}
}

func undoStep(m api.Pair) step {
	return func(b *symbols.Book, p *plain) ([2]int, [2]int) {
		return [2]int{int(b.Undo(m))}, [2]int{int(p.undo(m))}
	}
}

// P2.4, P2.7: every short script tells what two plain lists of names tell.
func TestBookOverScripts(t *testing.T) {
	names := []string{"a", "b", "'a'", "2", "$", ""}
	steps := []step{
		termStep("a"), termStep("b"), termStep("'a'"), termStep("2"),
		nonStep("a"), nonStep("b"), nonStep("'a'"),
		undoStep(api.Pair{}), undoStep(api.Pair{A: 1}), undoStep(api.Pair{B: 1}), undoStep(api.Pair{A: 1, B: 1}), undoStep(api.Pair{A: -1}),
	}
	const length = 4
	scripts := 1
	for range length {
		scripts *= len(steps)
	}
	for script := range scripts {
		b, p := symbols.New(), plain{}
		for rest := script + scripts; rest > 1; rest /= len(steps) {
			got, want := steps[rest%len(steps)](b, &p)
			if got != want {
				t.Fatalf("script %d: %v, want %v", script, got, want)
			}
			wantBook(t, b, p, names)
		}
	}
}

// P2.4: a book holds MaxTerms terminals and MaxNons nonterminals, and what it has already it finds.
func TestFullBook(t *testing.T) {
	b := symbols.New()
	for n, name := range numbered("t", 64) {
		if got, e := b.Term(name); got != n || e != api.OK {
			t.Fatalf("Term(%q): %d %v", name, got, e)
		}
	}
	for n, name := range numbered("n", 64) {
		if got, e := b.Non(name); got != n || e != api.OK {
			t.Fatalf("Non(%q): %d %v", name, got, e)
		}
	}
	for _, c := range []struct {
		what string
		call func(string) (int, api.Errno)
		name string
		n    int
		e    api.Errno
	}{
		{"a terminal more", b.Term, "x", 0, api.ErrTerms},
		{"a nonterminal more", b.Non, "x", 0, api.ErrNons},
		{"a terminal that is there", b.Term, "t63", 63, api.OK},
		{"a nonterminal that is there", b.Non, "n63", 63, api.OK},
		{"a nonterminal as a terminal", b.Term, "n0", 0, api.ErrTwice},
		{"a terminal as a nonterminal", b.Non, "t0", 0, api.ErrTwice},
		{"no terminal's name", b.Term, "'", 0, api.ErrName},
		{"no nonterminal's name", b.Non, "'x'", 0, api.ErrName},
	} {
		if n, e := c.call(c.name); n != c.n || e != c.e {
			t.Errorf("%s: %d %v, want %d %v", c.what, n, e, c.n, c.e)
		}
	}
	wantBook(t, b, plain{numbered("t", 64), numbered("n", 64)}, []string{"x", "t0", "n63"})
	if e := b.Undo(api.Pair{A: 63, B: 64}); e != api.OK {
		t.Errorf("Undo: %v", e)
	}
	if n, e := b.Term("x"); n != 63 || e != api.OK {
		t.Errorf("a terminal again: %d %v", n, e)
	}
}

// P2.4: names of every form: a terminal's may be quoted, a nonterminal's may not, and a fault changes nothing.
func TestBookNames(t *testing.T) {
	b := symbols.New()
	long := strings.Repeat("w", 32)
	for _, c := range []struct {
		name      string
		term, non bool
	}{
		{"", false, false}, {"2x", false, false}, {"a-b", false, false}, {"$", false, false}, {"''", false, false}, {long + "w", false, false},
		{"a", true, true}, {"_", true, true}, {long, true, true}, {"'+'", true, false},
	} {
		before := b.Mark()
		if _, e := b.Non(c.name); (e == api.OK) != c.non || !c.non && e != api.ErrName {
			t.Errorf("Non(%q): %v", c.name, e)
		}
		if b.Undo(before) != api.OK {
			t.Error("Undo")
		}
		if _, e := b.Term(c.name); (e == api.OK) != c.term || !c.term && e != api.ErrName {
			t.Errorf("Term(%q): %v", c.name, e)
		}
	}
	wantBook(t, b, plain{terms: []string{"a", "_", long, "'+'"}}, []string{"", "2x", "a", "'+'", long, "$"})
}

// P2.4: Undo's bounds; one that may not be changes nothing.
func TestUndoBounds(t *testing.T) {
	b := symbols.New()
	b.Term("a")
	b.Term("c")
	b.Non("E")
	for _, m := range []api.Pair{
		{A: 3, B: 1}, {A: 2, B: 2}, {A: -1, B: 0}, {A: 0, B: -1}, {A: 0, B: 2}, {A: 3, B: 0},
		{A: math.MinInt, B: 0}, {A: math.MaxInt, B: 0}, {A: 0, B: math.MinInt}, {A: 0, B: math.MaxInt},
	} {
		if e := b.Undo(m); e != api.ErrRange {
			t.Errorf("Undo(%v): %v", m, e)
		}
		wantBook(t, b, plain{[]string{"a", "c"}, []string{"E"}}, []string{"a", "c", "E"})
	}
	if e := b.Undo(b.Mark()); e != api.OK {
		t.Errorf("Undo of now: %v", e)
	}
	wantBook(t, b, plain{[]string{"a", "c"}, []string{"E"}}, []string{"a", "c", "E"})
	if e := b.Undo(api.Pair{}); e != api.OK {
		t.Errorf("Undo of all: %v", e)
	}
	wantBook(t, b, plain{}, []string{"a", "c", "E"})
}

// P2.4: symbols of any numbers.
func TestBookNameOfAnySymbol(t *testing.T) {
	b := symbols.New()
	b.Term("a")
	b.Non("E")
	for _, s := range edgeSymbols() {
		want, wantE := "", api.ErrSymbol
		switch s {
		case term(0):
			want, wantE = "a", api.OK
		case term(1):
			want, wantE = "$", api.OK
		case non(0):
			want, wantE = "E", api.OK
		}
		if name, e := b.Name(s); name != want || e != wantE {
			t.Errorf("Name(%v): %q %v, want %q %v", s, name, e, want, wantE)
		}
	}
}

// P2.7: a name that was undone may come again as the other kind.
func TestNameComesAgain(t *testing.T) {
	b := symbols.New()
	b.Term("a")
	m := b.Mark()
	b.Term("x")
	b.Non("y")
	b.Undo(m)
	if n, e := b.Non("x"); n != 0 || e != api.OK {
		t.Errorf("Non(x): %d %v", n, e)
	}
	if n, e := b.Term("y"); n != 1 || e != api.OK {
		t.Errorf("Term(y): %d %v", n, e)
	}
	wantBook(t, b, plain{[]string{"a", "y"}, []string{"x"}}, []string{"a", "x", "y"})
}

// P2.5: a book that New did not make.
func TestBookThatNobodyMade(t *testing.T) {
	for what, b := range map[string]*symbols.Book{"nil": nil, "zero": {}} {
		for _, name := range []string{"a", "2"} {
			if n, e := b.Term(name); n != 0 || e != api.ErrMade {
				t.Errorf("%s: Term(%q): %d %v", what, name, n, e)
			}
			if n, e := b.Non(name); n != 0 || e != api.ErrMade {
				t.Errorf("%s: Non(%q): %d %v", what, name, n, e)
			}
			if s, ok := b.Find(name); s != (api.Sym{}) || ok {
				t.Errorf("%s: Find(%q): %v %v", what, name, s, ok)
			}
		}
		for _, s := range []api.Sym{term(0), non(0), {}} {
			if name, e := b.Name(s); name != "" || e != api.ErrMade {
				t.Errorf("%s: Name(%v): %q %v", what, s, name, e)
			}
		}
		if terms, nons, m := b.Terms(), b.Nons(), b.Mark(); len(terms) != 0 || len(nons) != 0 || m != (api.Pair{}) {
			t.Errorf("%s: %q %q %v", what, terms, nons, m)
		}
		for _, m := range []api.Pair{{}, {A: -1}} {
			if e := b.Undo(m); e != api.ErrMade {
				t.Errorf("%s: Undo(%v): %v", what, m, e)
			}
		}
	}
}

// P2.9: two books share nothing, and what a book answers may be changed, spare room and all.
func TestBooksShareNothing(t *testing.T) {
	one, two := symbols.New(), symbols.New()
	one.Term("a")
	one.Term("b")
	one.Term("c")
	one.Non("E")
	wantBook(t, two, plain{}, []string{"a", "E"})
	two.Non("a")
	for range 2 {
		terms, nons := one.Terms(), one.Nons()
		terms[0], nons[0] = "changed", "changed"
		_, _ = append(terms, "d", "e", "f"), append(nons, "F", "G", "H")
		wantBook(t, one, plain{[]string{"a", "b", "c"}, []string{"E"}}, []string{"a", "changed", "d", "E", "F"})
	}
	held := one.Terms()
	one.Undo(api.Pair{A: 1, B: 1})
	one.Term("z")
	if !slices.Equal(held, []string{"a", "b", "c"}) {
		t.Errorf("an answer is now %q", held)
	}
	wantBook(t, two, plain{nons: []string{"a"}}, []string{"a", "b", "E", "z"})
}

// P2.7: a copied book is the same book, so no name stands twice in it either.
func TestCopiedBook(t *testing.T) {
	one := symbols.New()
	two := *one
	one.Term("a")
	two.Non("b")
	for _, b := range []*symbols.Book{one, &two} {
		wantBook(t, b, plain{[]string{"a"}, []string{"b"}}, []string{"a", "b"})
	}
}
