package symbols_test

import (
	"math"
	"slices"
	"strings"
	"testing"

	"gantry/api"
	"gantry/symbols"
)

// P2.3: the names with one blank between.
func TestSpell(t *testing.T) {
	terms, nons := []string{"a", "'+'"}, []string{"E"}
	for _, c := range []struct {
		l    []api.Sym
		want string
		e    api.Errno
	}{
		{nil, "", api.OK},
		{[]api.Sym{}, "", api.OK},
		{[]api.Sym{term(0)}, "a", api.OK},
		{[]api.Sym{term(2)}, "$", api.OK},
		{[]api.Sym{non(0), term(1), non(0), term(0), term(2)}, "E '+' E a $", api.OK},
		{[]api.Sym{term(3)}, "", api.ErrSymbol},
		{[]api.Sym{term(-1)}, "", api.ErrSymbol},
		{[]api.Sym{non(1)}, "", api.ErrSymbol},
		{[]api.Sym{non(-1)}, "", api.ErrSymbol},
		{[]api.Sym{{}}, "", api.ErrSymbol},
		{[]api.Sym{{Kind: 3, N: 0}}, "", api.ErrSymbol},
		{[]api.Sym{term(math.MinInt)}, "", api.ErrSymbol},
		{[]api.Sym{non(math.MaxInt)}, "", api.ErrSymbol},
		{[]api.Sym{term(0), term(1), non(1)}, "", api.ErrSymbol},
	} {
		if s, e := symbols.Spell(terms, nons, c.l); s != c.want || e != c.e {
			t.Errorf("Spell(%v): %q %v, want %q %v", c.l, s, e, c.want, c.e)
		}
	}
}

// P2.3: Spell asks neither what the names are nor how many.
func TestSpellOfAnyNames(t *testing.T) {
	terms, nons := []string{"", "a b", "$"}, []string{"", "a b"}
	s, e := symbols.Spell(terms, nons, []api.Sym{term(0), term(1), non(0), term(2), non(1), term(3)})
	if s != " a b  $ a b $" || e != api.OK {
		t.Errorf("%q %v", s, e)
	}
	if s, e := symbols.Spell(nil, nil, []api.Sym{term(0), term(0)}); s != "$ $" || e != api.OK {
		t.Errorf("without names: %q %v", s, e)
	}
	if s, e := symbols.Spell(nil, nil, []api.Sym{non(0)}); s != "" || e != api.ErrSymbol {
		t.Errorf("a nonterminal without names: %q %v", s, e)
	}
	many := numbered("t", 1000)
	if s, e := symbols.Spell(many, many, []api.Sym{term(999), non(999), term(1000)}); s != "t999 t999 $" || e != api.OK {
		t.Errorf("of many names: %q %v", s, e)
	}
}

// P2.3: words are divided by blanks alone; the first that is not known is told, with its place.
func TestRead(t *testing.T) {
	terms, nons := []string{"a", "'+'"}, []string{"E"}
	for _, c := range []struct {
		text string
		want []api.Sym
		e    api.Errno
		at   int
	}{
		{"", nil, api.OK, 0},
		{" ", nil, api.OK, 0},
		{"     ", nil, api.OK, 0},
		{"a", []api.Sym{term(0)}, api.OK, 0},
		{"a a", []api.Sym{term(0), term(0)}, api.OK, 0},
		{"  E   '+' a  ", []api.Sym{non(0), term(1), term(0)}, api.OK, 0},
		{"$ $ E", []api.Sym{term(2), term(2), non(0)}, api.OK, 0},
		{"x", nil, api.ErrKnown, 0},
		{"E  a x", nil, api.ErrKnown, 5},
		{"  xyz a", nil, api.ErrKnown, 2},
		{"a aa a", nil, api.ErrKnown, 2},
		{"a '+'a", nil, api.ErrKnown, 2},
		{"a\ta", nil, api.ErrKnown, 0},
		{"a\na", nil, api.ErrKnown, 0},
		{"a a\n", nil, api.ErrKnown, 2},
		{"a $$", nil, api.ErrKnown, 2},
		{"a \x00 E", nil, api.ErrKnown, 2},
		{"a x y", nil, api.ErrKnown, 2},
		{"E e", nil, api.ErrKnown, 2},
	} {
		l, e, at := symbols.Read(terms, nons, c.text)
		if !slices.Equal(l, c.want) || e != c.e || at != c.at {
			t.Errorf("Read(%q): %v %v at %d, want %v %v at %d", c.text, l, e, at, c.want, c.e, c.at)
		}
	}
}

// P2.3: of the same names a terminal goes ahead, then the lower number; $ is the end marker, whatever names there are.
func TestReadOfAnyNames(t *testing.T) {
	terms, nons := []string{"$", "b", "b", "x"}, []string{"c", "b", "c", "$", "a b", ""}
	l, e, at := symbols.Read(terms, nons, "b c $ x")
	want := []api.Sym{term(1), non(0), term(4), term(3)}
	if !slices.Equal(l, want) || e != api.OK || at != 0 {
		t.Errorf("%v %v at %d, want %v", l, e, at, want)
	}
	if l, e, at := symbols.Read(terms, nons, "b a b"); l != nil || e != api.ErrKnown || at != 2 {
		t.Errorf("a name with a blank: %v %v at %d", l, e, at)
	}
	if l, e, at := symbols.Read(terms, nons, "  "); len(l) != 0 || e != api.OK || at != 0 {
		t.Errorf("an empty name: %v %v at %d", l, e, at)
	}
	if l, e, _ := symbols.Read(nil, nil, "$"); !slices.Equal(l, []api.Sym{term(0)}) || e != api.OK {
		t.Errorf("without names: %v %v", l, e)
	}
}

// readPlainly is Read by its words.
func readPlainly(terms, nons []string, text string) ([]api.Sym, api.Errno, int) {
	var l []api.Sym
	at := 0
	for _, word := range strings.Split(text, " ") {
		switch t, n := slices.Index(terms, word), slices.Index(nons, word); {
		case word == "":
		case word == "$":
			l = append(l, term(len(terms)))
		case t >= 0:
			l = append(l, term(t))
		case n >= 0:
			l = append(l, non(n))
		default:
			return nil, api.ErrKnown, at
		}
		at += len(word) + 1
	}
	return l, api.OK, 0
}

// P2.3: Read of all short texts.
func TestReadOfAll(t *testing.T) {
	terms, nons := []string{"a", "$", "ab", "a"}, []string{"b", "a", "ba"}
	eachNames(6, []string{"a", "b", " ", "$", "x"}, func(bytes []string) {
		text := strings.Join(bytes, "")
		l, e, at := symbols.Read(terms, nons, text)
		wantL, wantE, wantAt := readPlainly(terms, nons, text)
		if !slices.Equal(l, wantL) || e != wantE || at != wantAt {
			t.Fatalf("Read(%q): %v %v at %d, want %v %v at %d", text, l, e, at, wantL, wantE, wantAt)
		}
	})
}

// P2.6: Read of Spell is the list.
func TestSpellThereAndBack(t *testing.T) {
	for _, names := range [][2][]string{
		{nil, nil},
		{{"a"}, {"E"}},
		{{"a", "'a'", "'$'", "'+'"}, {"E", "A", "_"}},
		{numbered("t", 64), numbered("n", 64)},
	} {
		terms, nons := names[0], names[1]
		if e, _ := symbols.CheckNames(terms, nons); e != api.OK {
			t.Fatalf("CheckNames(%q, %q): %v", terms, nons, e)
		}
		for length := range 4 {
			for from := range len(terms) + 1 + len(nons) {
				var l []api.Sym
				for i := range length {
					s, _ := symbols.Sparse(len(terms), len(nons), (from+i*i*7)%(len(terms)+1+len(nons)))
					l = append(l, s)
				}
				text, e := symbols.Spell(terms, nons, l)
				back, e2, at := symbols.Read(terms, nons, text)
				if e != api.OK || e2 != api.OK || at != 0 || !slices.Equal(back, l) {
					t.Fatalf("%v: %q (%v), back %v (%v at %d)", l, text, e, back, e2, at)
				}
			}
		}
	}
}

// P2.9: what Spell and Read are given is not changed, and two answers share nothing.
func TestSpellAndReadShareNothing(t *testing.T) {
	terms, nons, l := []string{"b", "a"}, []string{"F", "E"}, []api.Sym{non(1), term(0)}
	symbols.Spell(terms, nons, l)
	one, _, _ := symbols.Read(terms, nons, "E b")
	two, _, _ := symbols.Read(terms, nons, "E b")
	one[0] = term(7)
	_ = append(one, term(8), term(9))
	if !slices.Equal(two, []api.Sym{non(1), term(0)}) {
		t.Errorf("the other answer is now %v", two)
	}
	if !slices.Equal(terms, []string{"b", "a"}) || !slices.Equal(nons, []string{"F", "E"}) || !slices.Equal(l, []api.Sym{non(1), term(0)}) {
		t.Errorf("arguments are now %q, %q, %v", terms, nons, l)
	}
}

// P2.6: what Read takes of names that CheckNames takes Spell tells with single blanks, and that is read as the same.
func FuzzRead(f *testing.F) {
	f.Add("E a $")
	f.Add("  E  '+' x")
	f.Fuzz(func(t *testing.T, text string) {
		terms, nons := []string{"a", "'+'"}, []string{"E"}
		l, e, at := symbols.Read(terms, nons, text)
		wantL, wantE, wantAt := readPlainly(terms, nons, text)
		if !slices.Equal(l, wantL) || e != wantE || at != wantAt {
			t.Fatalf("Read(%q): %v %v at %d", text, l, e, at)
		}
		if e != api.OK {
			return
		}
		spelt, e := symbols.Spell(terms, nons, l)
		if again, e2, _ := symbols.Read(terms, nons, spelt); e != api.OK || e2 != api.OK || !slices.Equal(again, l) {
			t.Fatalf("%v: %q (%v), back %v (%v)", l, spelt, e, again, e2)
		}
	})
}
