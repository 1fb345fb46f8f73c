package symbols_test

import (
	"math"
	"slices"
	"strconv"
	"strings"
	"testing"

	"gantry/api"
	"gantry/symbols"
)

func term(n int) api.Sym { return api.Sym{Kind: api.SymTerm, N: n} }
func non(n int) api.Sym  { return api.Sym{Kind: api.SymNon, N: n} }

// numbered are that many names: the letter, and the numbers from 0 on behind it.
func numbered(letter string, n int) []string {
	var l []string
	for i := range n {
		l = append(l, letter+strconv.Itoa(i))
	}
	return l
}

// edgeNumbers are those at which a number of symbols is too small or too great.
func edgeNumbers() []int {
	return []int{math.MinInt, math.MinInt + 1, -65, -64, -2, -1, 0, 1, 2, 3, 31, 62, 63, 64, 65, 66, 127, 128, 129, 130, math.MaxInt - 1, math.MaxInt}
}

// edgeKinds are the two, and some that there are not.
func edgeKinds() []api.SymKind {
	return []api.SymKind{math.MinInt, -1, 0, api.SymTerm, api.SymNon, 3, math.MaxInt}
}

func edgeSymbols() []api.Sym {
	var l []api.Sym
	for _, kind := range edgeKinds() {
		for _, n := range edgeNumbers() {
			l = append(l, api.Sym{Kind: kind, N: n})
		}
	}
	return l
}

// P2.1: a word's bytes, the first one's, and its length.
func TestIsWord(t *testing.T) {
	const letters = "abcdefghijklmnopqrstuvwxyzABCDEFGHIJKLMNOPQRSTUVWXYZ_"
	for c := range 256 {
		b := string([]byte{byte(c)})
		first := strings.Contains(letters, b)
		later := first || strings.Contains("0123456789", b)
		for s, want := range map[string]bool{b: first, b + "x": first, "x" + b: later, "x" + b + "y": later, "xy" + b: later} {
			if symbols.IsWord(s) != want {
				t.Errorf("IsWord(%q): %v", s, !want)
			}
		}
	}
	for n := range 70 {
		if got := symbols.IsWord(strings.Repeat("w", n)); got != (1 <= n && n <= 32) {
			t.Errorf("IsWord of %d bytes: %v", n, got)
		}
	}
	for _, s := range []string{"é", "xé", "x\x00", "'x'", "$", "a b", " a", "a "} {
		if symbols.IsWord(s) {
			t.Errorf("IsWord(%q)", s)
		}
	}
}

// P2.1: a quoted name's bytes and length.
func TestIsQuoted(t *testing.T) {
	for c := range 256 {
		b := string([]byte{byte(c)})
		want := 33 <= c && c <= 126 && c != 39 && c != 92
		for _, s := range []string{"'" + b + "'", "'" + b + "x'", "'x" + b + "'", "'x" + b + "y'"} {
			if symbols.IsQuoted(s) != want {
				t.Errorf("IsQuoted(%q): %v", s, !want)
			}
		}
		for _, s := range []string{b + "xy'", "'xy" + b} {
			if symbols.IsQuoted(s) != (c == 39) {
				t.Errorf("IsQuoted(%q): %v", s, c != 39)
			}
		}
	}
	for n := range 70 {
		want := 1 <= n && n <= 30
		if got := symbols.IsQuoted("'" + strings.Repeat("+", n) + "'"); got != want {
			t.Errorf("IsQuoted of %d bytes: %v", n+2, got)
		}
	}
	for _, s := range []string{"", "'", "''", "'''", "x", "+", "'+", "+'", "\"+\"", "'é'", "x'+'", "'+'x"} {
		if symbols.IsQuoted(s) {
			t.Errorf("IsQuoted(%q)", s)
		}
	}
}

// P2.1: CheckNames' faults, in their order, and their places.
func TestCheckNames(t *testing.T) {
	long := strings.Repeat("n", 33)
	for _, c := range []struct {
		what        string
		terms, nons []string
		e           api.Errno
		at          int
	}{
		{"none", nil, nil, api.OK, 0},
		{"none, not nil", []string{}, []string{}, api.OK, 0},
		{"terminals alone", []string{"a", "'+'", "_"}, nil, api.OK, 3},
		{"nonterminals alone", nil, []string{"E", "e"}, api.OK, 2},
		{"a word and it quoted", []string{"a", "'a'"}, []string{"A"}, api.OK, 3},
		{"as many as may be", numbered("t", 64), numbered("n", 64), api.OK, 128},
		{"a terminal more", numbered("t", 65), nil, api.ErrTerms, 0},
		{"a nonterminal more", nil, numbered("n", 65), api.ErrNons, 0},
		{"both", numbered("t", 65), numbered("n", 65), api.ErrTerms, 0},
		{"too many ahead of a name's form", []string{"", "a"}, numbered("n", 65), api.ErrNons, 0},
		{"too many ahead of a name twice", slices.Repeat([]string{"a"}, 65), nil, api.ErrTerms, 0},
		{"an empty name", []string{""}, nil, api.ErrName, 0},
		{"an empty name behind others", []string{"a", "b"}, []string{"E", ""}, api.ErrName, 3},
		{"the end marker's sign", []string{"a", "$"}, []string{"E"}, api.ErrName, 1},
		{"a quoted nonterminal", []string{"a"}, []string{"'x'"}, api.ErrName, 1},
		{"a quoted nonterminal that is a terminal", []string{"'x'"}, []string{"'x'"}, api.ErrName, 1},
		{"a name that is too long, twice", []string{long, long}, nil, api.ErrName, 0},
		{"twice", []string{"a", "b", "a"}, nil, api.ErrTwice, 2},
		{"a nonterminal twice", []string{"a", "b"}, []string{"E", "F", "E"}, api.ErrTwice, 4},
		{"a terminal and a nonterminal", []string{"a", "'+'"}, []string{"E", "a"}, api.ErrTwice, 3},
		{"twice ahead of a name's form", []string{"a", "a", "2"}, nil, api.ErrTwice, 1},
		{"a name's form ahead of twice", []string{"a", "2", "a"}, nil, api.ErrName, 1},
		{"a terminal's fault ahead of a nonterminal's", []string{"a", "b", "b"}, []string{"2"}, api.ErrTwice, 2},
		{"the last place", numbered("t", 64), append(numbered("n", 63), "t63"), api.ErrTwice, 127},
	} {
		if e, at := symbols.CheckNames(c.terms, c.nons); e != c.e || at != c.at {
			t.Errorf("%s: %v at %d, want %v at %d", c.what, e, at, c.e, c.at)
		}
	}
}

// checkNamesPlainly is CheckNames by its words, pair by pair.
func checkNamesPlainly(terms, nons []string) (api.Errno, int) {
	all := slices.Concat(terms, nons)
	for at, name := range all {
		if !symbols.IsWord(name) && (at >= len(terms) || !symbols.IsQuoted(name)) {
			return api.ErrName, at
		}
		if slices.Contains(all[:at], name) {
			return api.ErrTwice, at
		}
	}
	return api.OK, len(all)
}

// eachNames goes over all lists of at most that many of these names.
func eachNames(most int, names []string, do func([]string)) {
	do(nil)
	lists := [][]string{nil}
	for range most {
		var longer [][]string
		for _, l := range lists {
			for _, name := range names {
				next := append(slices.Clone(l), name)
				do(next)
				longer = append(longer, next)
			}
		}
		lists = longer
	}
}

// P2.1: CheckNames of all short lists.
func TestCheckNamesOfAll(t *testing.T) {
	names := []string{"a", "b", "'a'", "2", ""}
	eachNames(3, names, func(terms []string) {
		eachNames(3, names, func(nons []string) {
			e, at := symbols.CheckNames(terms, nons)
			if wantE, wantAt := checkNamesPlainly(terms, nons); e != wantE || at != wantAt {
				t.Fatalf("CheckNames(%q, %q): %v at %d, want %v at %d", terms, nons, e, at, wantE, wantAt)
			}
		})
	})
}

// P2.2: by Kind, then by N, whatever they are.
func TestCompare(t *testing.T) {
	for _, c := range []struct {
		a, b api.Sym
		want int
	}{
		{term(0), term(0), 0},
		{term(0), term(1), -1},
		{term(9), non(0), -1},
		{non(0), term(9), 1},
		{non(3), non(2), 1},
		{term(-1), term(0), -1},
		{term(math.MinInt), term(math.MaxInt), -1},
		{term(math.MaxInt), term(math.MinInt), 1},
		{api.Sym{}, term(0), -1},
		{api.Sym{Kind: math.MinInt, N: 5}, api.Sym{Kind: math.MaxInt, N: 1}, -1},
		{api.Sym{Kind: 3, N: 0}, non(9), 1},
	} {
		if got := symbols.Compare(c.a, c.b); got != c.want {
			t.Errorf("Compare(%v, %v): %d, want %d", c.a, c.b, got, c.want)
		}
	}
}

// P2.8: just one of smaller, same, greater holds, and it is transitive.
func TestCompareIsAnOrder(t *testing.T) {
	all := edgeSymbols()
	for _, a := range all {
		for _, b := range all {
			ab := symbols.Compare(a, b)
			if ab < -1 || ab > 1 || ab != -symbols.Compare(b, a) || (ab == 0) != (a == b) {
				t.Fatalf("Compare(%v, %v): %d, the other way round %d", a, b, ab, symbols.Compare(b, a))
			}
			for _, c := range all {
				if ab < 0 && symbols.Compare(b, c) < 0 && symbols.Compare(a, c) != -1 {
					t.Fatalf("%v, %v, %v are not in order", a, b, c)
				}
			}
		}
	}
}

// P2.2: Dense's faults in their order, and its numbers.
func TestDense(t *testing.T) {
	for _, terms := range edgeNumbers() {
		for _, s := range edgeSymbols() {
			want, wantE := 0, api.OK
			switch {
			case terms < 0 || terms > 64:
				wantE = api.ErrArg
			case s.N < 0:
				wantE = api.ErrSymbol
			case s.Kind == api.SymTerm && s.N <= terms:
				want = s.N
			case s.Kind == api.SymNon && s.N < 64:
				want = terms + 1 + s.N
			default:
				wantE = api.ErrSymbol
			}
			if n, e := symbols.Dense(terms, s); n != want || e != wantE {
				t.Errorf("Dense(%d, %v): %d %v, want %d %v", terms, s, n, e, want, wantE)
			}
		}
	}
}

// P2.2: Sparse's faults in their order, and its symbols.
func TestSparse(t *testing.T) {
	for _, terms := range edgeNumbers() {
		for _, nons := range edgeNumbers() {
			for _, n := range edgeNumbers() {
				want, wantE := api.Sym{}, api.OK
				switch {
				case terms < 0 || terms > 64 || nons < 0 || nons > 64:
					wantE = api.ErrArg
				case n < 0 || n >= terms+1+nons:
					wantE = api.ErrSymbol
				case n <= terms:
					want = term(n)
				default:
					want = non(n - terms - 1)
				}
				if s, e := symbols.Sparse(terms, nons, n); s != want || e != wantE {
					t.Errorf("Sparse(%d, %d, %d): %v %v, want %v %v", terms, nons, n, s, e, want, wantE)
				}
			}
		}
	}
}

// P2.6, P2.8: Sparse of Dense and Dense of Sparse are what they began with, and by Compare dense numbers rise.
func TestDenseThereAndBack(t *testing.T) {
	for terms := range api.MaxTerms + 1 {
		for nons := range api.MaxNons + 1 {
			var last api.Sym
			for n := range terms + 1 + nons {
				s, e := symbols.Sparse(terms, nons, n)
				back, e2 := symbols.Dense(terms, s)
				if e != api.OK || e2 != api.OK || back != n {
					t.Fatalf("%d of %d and %d: %v (%v), %d (%v)", n, terms, nons, s, e, back, e2)
				}
				if n > 0 && symbols.Compare(last, s) != -1 {
					t.Fatalf("%v is not ahead of %v", last, s)
				}
				last = s
			}
		}
	}
	for _, terms := range edgeNumbers() {
		for _, s := range edgeSymbols() {
			n, e := symbols.Dense(terms, s)
			if e != api.OK {
				continue
			}
			if back, e := symbols.Sparse(terms, api.MaxNons, n); back != s || e != api.OK {
				t.Errorf("%v of %d: %d, back %v %v", s, terms, n, back, e)
			}
		}
	}
}

// P2.9: the lists that CheckNames is given are not changed.
func TestCheckNamesChangesNothing(t *testing.T) {
	terms, nons := []string{"b", "a", "b"}, []string{"F", "E"}
	symbols.CheckNames(terms, nons)
	if !slices.Equal(terms, []string{"b", "a", "b"}) || !slices.Equal(nons, []string{"F", "E"}) {
		t.Errorf("%q, %q", terms, nons)
	}
}
