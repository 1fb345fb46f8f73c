package pgen_test

import (
	"math"
	"slices"
	"strings"
	"testing"

	"gantry/api"
	"gantry/bundle"
	"gantry/codec"
	"gantry/grammar"
	"gantry/notation"
	"gantry/pgen"
	"gantry/trees"
	"gantry/validate"
)

const (
	nest     = "S : '(' S ')' | 'x' ;"
	sums     = "E : E '+' E | 'n' ;"
	leftSums = "%left '+' E : E '+' E | 'n' ;"
)

// P20.1: bytes are a frame by their first four bytes alone, else a text.
func TestReadGrammar(t *testing.T) {
	g := readOf(t, "%left '+'\n%start E\nE : E '+' E | 'n' %prec '+' ;")
	code := codeOf(g)
	other, _ := codec.Seal(2, []byte("S : 'x' ;"))
	for _, c := range []struct {
		about string
		b     []byte
		e     api.Errno
		at    int
	}{
		{"none", nil, api.ErrTerms, 0},
		{"no bytes", []byte{}, api.ErrTerms, 0},
		{"three bytes of a frame", []byte("gtr"), api.ErrLine, 3},
		{"a rule of that name", []byte("gtr : 'x' ;"), api.OK, 0},
		{"a fault behind that name", []byte("gtr1 : x ;"), api.ErrKnown, 7},
		{"four bytes of a frame", []byte("gtr\x01"), api.ErrShort, 4},
		{"a frame that is cut off", code[:len(code)-1], api.ErrShort, len(code) - 1},
		{"a frame that goes on", append(slices.Clone(code), 0), api.ErrTail, len(code)},
		{"a frame of another kind", other, api.ErrChar, 3},
		{"a frame behind a blank", append([]byte(" "), code...), api.ErrChar, 4},
		{"a text of a frame's first byte", []byte("g : 'x' ;"), api.OK, 0},
		{"a byte that stands in no text", []byte("S : 'x' ;\x00"), api.ErrChar, 9},
		{"bytes that are no runes", []byte{255, 254}, api.ErrChar, 0},
		{"a text as long as it may be", slices.Concat([]byte(nest), slices.Repeat([]byte(" "), api.MaxText-len(nest))), api.OK, 0},
		{"a longer one", slices.Concat([]byte(nest), slices.Repeat([]byte(" "), api.MaxText-len(nest)+1)), api.ErrText, 0},
	} {
		got, e, at := pgen.ReadGrammar(c.b)
		want, f, there := notation.Parse(string(c.b))
		if strings.HasPrefix(string(c.b), "gtr\x01") {
			want, f, there = grammar.Decode(c.b)
		}
		if e != c.e || at != c.at || e != f || at != there || !sameGrammar(got, want) {
			t.Errorf("P20.1: %s: %v, %v, %d, want %v, %v, %d", c.about, got, e, at, want, c.e, c.at)
		}
	}
	for _, b := range [][]byte{code, textOf(g)} {
		if got, e, at := pgen.ReadGrammar(b); e != api.OK || at != 0 || !sameGrammar(got, g) {
			t.Error("P20.1:", got, e, at)
		}
	}
}

func sameGrammar(a, b api.Grammar) bool {
	sameProd := func(p, q api.Prod) bool {
		return p.Left == q.Left && p.Prec == q.Prec && slices.Equal(p.Right, q.Right)
	}
	sameLevel := func(p, q api.Level) bool { return p.Assoc == q.Assoc && slices.Equal(p.Terms, q.Terms) }
	return slices.Equal(a.Terms, b.Terms) && slices.Equal(a.Nons, b.Nons) && a.Start == b.Start &&
		slices.EqualFunc(a.Prods, b.Prods, sameProd) && slices.EqualFunc(a.Levels, b.Levels, sameLevel)
}

// faults are bytes of grammars of which no bundle and no report can be made.
func faults() []struct {
	text string
	e    api.Errno
	at   int
} {
	return []struct {
		text string
		e    api.Errno
		at   int
	}{
		{"", api.ErrTerms, 0},
		{"S : 'x' ", api.ErrLine, 8},
		{"S : x ;", api.ErrKnown, 4},
		{"S : x | S ;", api.ErrKnown, 4}, // barren and circular, too
		{"S : 'a' ; V : 'b' ;", api.ErrUnreached, 1},
		{"%term a b c S : a c ;", api.ErrUnreached, 1},
		{"%term a S : a ; V : a ;", api.ErrUnreached, 3},
		{"%non V S S : 'a' ; V : 'a' ;", api.ErrUnreached, 2},
		{"%start S V : 'a' ; S : 'a' ;", api.ErrUnreached, 2},
		{"S : 'a' | U ; U : U 'a' ;", api.ErrBarren, 3},
		{"S : 'a' S ;", api.ErrBarren, 2},
		{"S : 'a' ; U : U 'b' | U ;", api.ErrBarren, 4}, // unreached and circular, too
		{"S : 'a' | S ; U : 'b' ;", api.ErrUnreached, 1},
		{"S : S | 'a' ;", api.ErrCycle, 2},
		{"S : 'a' A 'b' ; A : B | %empty ; B : A | 'c' ;", api.ErrCycle, 5},
		{"S : A S | 'a' ; A : %empty ;", api.ErrCycle, 2},
	}
}

// P20.2, P20.3: the errors of reading, and of what is not well-formed, with their places; Load answers those of reading.
func TestFaults(t *testing.T) {
	for _, c := range faults() {
		for _, got := range []compiled{compile([]byte(c.text)), force([]byte(c.text))} {
			if !got.isFault(c.e, c.at) {
				t.Errorf("P20.2, P20.3: %q: %v, want %v, %d", c.text, got, c.e, c.at)
			}
		}
	}
	code := codeOf(readOf(t, nest))
	for at := range code {
		turned := slices.Clone(code)
		turned[at] ^= 64
		_, e, place := pgen.ReadGrammar(turned)
		if e == api.OK {
			t.Error("P20.1: a bit turned:", at)
		}
		for _, got := range []compiled{compile(turned), force(turned)} {
			if !got.isFault(e, place) {
				t.Errorf("P20.2, P20.3: a bit turned at %d: %v, want %v, %d", at, got, e, place)
			}
		}
	}
}

// P20.2: the place of what is not well-formed hangs on the number of terminals.
func TestDensePlace(t *testing.T) {
	for _, terms := range []int{1, 2, 63, 64} {
		for _, nons := range []int{2, 3, 64} {
			g := grammarOf(terms, nons, 0)
			for n := range terms {
				g.Prods = append(g.Prods, prod(0, term(n)))
			}
			for n := range nons - 1 {
				g.Prods = append(g.Prods, prod(n, term(0), non(n+1)))
			}
			barren := compile(codeOf(g))
			g.Prods = append(g.Prods, prod(nons-1, non(nons-1)), prod(nons-1))
			circular := compile(codeOf(g))
			last := terms + nons
			if !barren.isFault(api.ErrBarren, terms+2) || !circular.isFault(api.ErrCycle, last) {
				t.Error("P20.2:", terms, nons, barren, circular)
			}
		}
	}
}

// P20.2: no conflict: a bundle, and nothing else.
func TestCompile(t *testing.T) {
	b, r, e, at := pgen.Compile([]byte(nest))
	if e != api.OK || at != 0 || len(r.Undecided)+len(r.Decided)+len(r.Decisions) > 0 {
		t.Fatal("P20.2:", r, e, at)
	}
	made, e, at := bundle.Decode(b)
	if e != api.OK || len(made.Table.Rows) != 6 {
		t.Fatal("P20.2:", made, e, at)
	}
	var defaults []int
	for _, row := range made.Table.Rows {
		defaults = append(defaults, row.Default)
	}
	if !slices.Equal(defaults, []int{-1, -1, 1, -1, -1, 0}) {
		t.Error("P20.2: rows that need not look:", defaults)
	}
	if v, e, at := validate.Validate(readOf(t, nest), made); e != api.OK || at != 0 || !v.Made() {
		t.Error("P20.2:", e, at)
	}
}

// conflicting are texts with conflicts, how many are undecided and how many decided, and the report as text.
func conflicting() []struct {
	text               string
	undecided, decided int
	report             string
} {
	return []struct {
		text               string
		undecided, decided int
		report             string
	}{
		{sums, 1, 0, "state 4 under '+': shift 3, reduce 0\n"},
		{leftSums, 0, 1, "state 4 under '+': shift 3, reduce 0 -> reduce 0\n"},
		{"%right '+' E : E '+' E | 'n' ;", 0, 1, "state 4 under '+': shift 3, reduce 0 -> shift\n"},
		{"%nonassoc '+' E : E '+' E | 'n' ;", 0, 1, "state 4 under '+': shift 3, reduce 0 -> error\n"},
		{"%left '-' E : E '+' E | 'n' '-' ;", 1, 0, "state 5 under '+': shift 4, reduce 0\n"},
		{"S : A | B ; A : 'x' ; B : 'x' ;", 1, 0, "state 1 under $: reduce 2, reduce 3\n"},
		{"S : S 'a' | A ; A : %empty ; S : %empty ;", 2, 0, "state 0 under 'a': reduce 2, reduce 3\nstate 0 under $: reduce 2, reduce 3\n"},
	}
}

// P20.2, P20.3: conflicts, decided or not: Compile's report, and Force's bundle with it.
func TestConflicts(t *testing.T) {
	for _, c := range conflicting() {
		got, forced := compile([]byte(c.text)), force([]byte(c.text))
		if got.err != api.ErrReport || len(got.frame) != 0 || got.at != c.undecided+c.decided {
			t.Errorf("P20.2: %q: %v", c.text, got)
		}
		if r := got.report; len(r.Undecided) != c.undecided || len(r.Decided) != c.decided || len(r.Decisions) != c.decided {
			t.Errorf("P20.2: %q: %v", c.text, r)
		}
		if forced.err != api.OK || forced.at != c.undecided+c.decided || !sameReport(forced.report, got.report) {
			t.Errorf("P20.3: %q: %v", c.text, forced)
		}
		if s, e := pgen.PrintReport(readOf(t, c.text), got.report); e != api.OK || s != c.report {
			t.Errorf("P20.6: %q: %q, %v", c.text, s, e)
		}
		if v, e, _ := pgen.Load([]byte(c.text), forced.frame); v != nil || e != api.ErrAction {
			t.Errorf("P20.3: %q: Load: %v", c.text, e)
		}
	}
	r := compile([]byte(leftSums)).report
	want := api.Decision{Look: 0, Kind: api.DecideReduce, Prod: 0, ShiftDropped: true, By: 0}
	if len(r.Decisions) != 1 || !sameDecision(r.Decisions[0], want) || !sameConflict(r.Decided[0], api.Conflict{State: 4, Look: 0, Shift: 3, Reduce: []int{0}}) {
		t.Error("P20.2:", r)
	}
}

// P20.3: Force's bundle of what precedence decided is what was decided, and of no conflict Compile's.
func TestForce(t *testing.T) {
	if got, want := force([]byte(nest)), compile([]byte(nest)); got.err != api.OK || !got.same(want) {
		t.Error("P20.3:", got, want)
	}
	for _, c := range []struct {
		text string
		want api.Action
	}{
		{sums, api.Action{Kind: api.ActShift, Arg: 3}},
		{leftSums, api.Action{Kind: api.ActReduce, Arg: 0}},
		{"%right '+' E : E '+' E | 'n' ;", api.Action{Kind: api.ActShift, Arg: 3}},
	} {
		b, e, at := bundle.Decode(force([]byte(c.text)).frame)
		if e != api.OK {
			t.Fatal("P20.3:", c.text, e, at)
		}
		row := b.Table.Rows[4]
		if got := row.Acts[0]; row.Default == -1 && got != c.want || row.Default != -1 && c.want.Kind != api.ActReduce {
			t.Error("P20.3:", c.text, row)
		}
	}
}

// P20.3: precedence drops the only shift to a state: there is no bundle, and no report beside the error; Compile tells it.
func TestForceUnreached(t *testing.T) {
	text := []byte("%left 'e' %left 'i' S : 'i' S | 'i' S 'e' S | 'x' ;")
	if got := force(text); !got.isFault(api.ErrIncoming, 0) {
		t.Error("P20.3:", got)
	}
	if got := compile(text); got.err != api.ErrReport || got.at != 1 || len(got.report.Decided) != 1 {
		t.Error("P20.2:", got)
	}
}

// P20.4: the grammar's faults go ahead of the bundle's, its form ahead of what it claims.
func TestLoadFaults(t *testing.T) {
	good := compile([]byte(nest)).frame
	none := must(bundle.Encode(api.Bundle{}))
	turned := slices.Clone(good)
	turned[len(turned)/2] ^= 1
	for _, c := range []struct {
		about   string
		grammar string
		b       []byte
		e       api.Errno
		at      int
	}{
		{"no bytes", "S : 'x' ;", nil, api.ErrShort, 0},
		{"a fault in both", "S : x ;", nil, api.ErrKnown, 4},
		{"a frame's fault in both", "gtr\x01", turned, api.ErrShort, 4},
		{"a bit turned", nest, turned, api.ErrSum, len(good) - 4},
		{"a byte less", nest, good[:len(good)-1], api.ErrShort, len(good) - 1},
		{"a byte more", nest, append(slices.Clone(good), 0), api.ErrTail, len(good)},
		{"a grammar's frame", nest, codeOf(readOf(t, nest)), api.ErrMagic, 3},
		{"a grammar's text", nest, []byte(nest), api.ErrMagic, 0},
		{"a fault of a bundle for no well-formed grammar", "S : S | 'x' ;", turned, api.ErrSum, len(good) - 4},
		{"no well-formed grammar", "S : S | 'x' ;", good, api.ErrWell, 0},
		{"no rows", nest, none, api.ErrStates, 0},
		{"another grammar's, with other terminals", "S : 'x' ;", good, api.ErrShape, 0},
		{"another grammar's of the same shape", "S : '(' S ')' | 'x' | '(' ;", good, api.ErrClosure, 0},
		{"what was forced", sums, force([]byte(sums)).frame, api.ErrAction, 4},
	} {
		if v, e, at := pgen.Load([]byte(c.grammar), c.b); v != nil || e != c.e || at != c.at {
			t.Errorf("P20.4: %s: %v, %d, want %v, %d", c.about, e, at, c.e, c.at)
		}
	}
	v, e, at := pgen.Load([]byte(nest), good)
	if e != api.OK || at != 0 || !v.Made() || !sameGrammar(v.Grammar(), readOf(t, nest)) || len(v.Table().Rows) != 6 {
		t.Error("P20.4:", e, at)
	}
}

// P20.4: names of symbols do not stand in a bundle, so it fits grammars that differ in these alone.
func TestLoadOtherNames(t *testing.T) {
	v, e, at := pgen.Load([]byte("%term a b x T : a T b | x ;"), compile([]byte(nest)).frame)
	if e != api.OK {
		t.Fatal("P20.4:", e, at)
	}
	if s := resultOf(t, v, "a x b"); s != "accepted (T a (T x) b)" {
		t.Error("P20.5:", s)
	}
}

// resultOf is what a text of names comes to, as text.
func resultOf(t *testing.T, v *validate.Valid, text string) string {
	t.Helper()
	r, e, at := pgen.ParseNames(v, text)
	if e != api.OK || at != 0 {
		t.Fatal(text, e, at)
	}
	return must(pgen.PrintResult(v.Grammar(), r))
}

// P20.5: names divided by blanks, any number of them.
func TestParseNames(t *testing.T) {
	v := loadedOf(t, nest)
	for _, c := range []struct{ text, want string }{
		{"'(' 'x' ')'", "accepted (S '(' (S 'x') ')')"},
		{"'x'", "accepted (S 'x')"},
		{"   '('  'x'   ')'    ", "accepted (S '(' (S 'x') ')')"},
		{"'(' 'x'", "refused at 2"},
		{"'x' 'x'", "refused at 1"},
		{"')'", "refused at 0"},
		{"", "refused at 0"},
		{"    ", "refused at 0"},
	} {
		if s := resultOf(t, v, c.text); s != c.want {
			t.Errorf("P20.5: %q: %q, want %q", c.text, s, c.want)
		}
	}
	r, _, _ := pgen.ParseNames(v, " '('  'x' ')'")
	if w := trees.Yield(r.Tree); !slices.Equal(w, []api.Token{{Kind: 0, Text: "'('"}, {Kind: 2, Text: "'x'"}, {Kind: 1, Text: "')'"}}) {
		t.Error("P20.5: texts of tokens:", w)
	}
	empty := loadedOf(t, "%term a S : a S | %empty ;")
	if s := resultOf(t, empty, "  "); s != "accepted (S)" {
		t.Error("P20.5: no names:", s)
	}
}

// P20.5: what is no terminal's name is told by its place, ahead of anything that the automaton would say.
func TestParseNamesUnknown(t *testing.T) {
	v := loadedOf(t, "%term a b S : a S b | 'x' ;")
	for _, c := range []struct {
		text string
		at   int
	}{
		{"c", 0},
		{"a  c b", 3},
		{"S", 0},
		{"a S b", 2},
		{"$", 0},
		{"a 'x' b $", 8},
		{"   $", 3},
		{"a\t'x' b", 0},
		{"a\n", 0},
		{"a 'x'b", 2},
		{"a x b", 2},
		{"a 'x", 2},
		{"b b $ c", 4},
		{"A", 0},
		{"aa", 0},
		{"a \x00", 2},
		{"a \xff", 2},
		{"a\u00a0b", 0},
	} {
		if r, e, at := pgen.ParseNames(v, c.text); e != api.ErrKnown || at != c.at || !isNone(r) {
			t.Errorf("P20.5: %q: %v, %v, %d, want %d", c.text, r, e, at, c.at)
		}
	}
}

// isNone tells whether a result is zero.
func isNone(r api.Result) bool {
	t := r.Tree
	return !r.Accepted && t.Prod == 0 && t.Tok == (api.Token{}) && len(t.Kids) == 0 && r.At == 0 && r.Steps == 0 && r.Pops == 0
}

// P20.5: a Valid that no call made.
func TestNotMade(t *testing.T) {
	for _, v := range []*validate.Valid{nil, {}, new(validate.Valid)} {
		for _, w := range [][]api.Token{nil, tokens(0), tokens(-1, 7)} {
			if r, e := pgen.Parse(v, w); e != api.ErrMade || !isNone(r) {
				t.Error("P20.5:", r, e)
			}
		}
		for _, text := range []string{"", "a", "  $"} {
			if r, e, at := pgen.ParseNames(v, text); e != api.ErrMade || at != 0 || !isNone(r) {
				t.Error("P20.5:", r, e, at)
			}
		}
	}
}

// P20.5, P20.7: kinds of any size.
func TestParseStrange(t *testing.T) {
	v := loadedOf(t, nest)
	for _, kind := range []int{3, 4, -1, 1000, math.MaxInt, math.MinInt} {
		for at := range 3 {
			w := tokens(0, 0, 0, 0)
			w[at].Kind = kind
			r, e := pgen.Parse(v, w)
			if e != api.OK || r.Accepted || r.At != at || r.Steps != at+1 || r.Pops != 0 {
				t.Error("P20.5:", kind, at, r, e)
			}
		}
	}
}
