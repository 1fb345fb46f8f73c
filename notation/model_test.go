package notation_test

import (
	"math/rand"
	"slices"
	"strings"
	"testing"

	"gantry/api"
	"gantry/grammar"
	"gantry/notation"
)

// mayStand is the table of P4.1: D a declaration's directive, N a name, . the text's end, w a word, q a quoted name, e %empty, p %prec, and the signs.
var mayStand = map[string]string{
	"line":      "Dw.",
	"directive": "N",
	"names":     "NDw.",
	"left":      ":",
	":":         "wqep|;",
	"symbol":    "wqp|;",
	"empty":     "p|;",
	"prec":      "wq",
	"precname":  "|;",
}

// model reads pieces: where the last one stands, and the names so far.
type model struct {
	where     string
	directive string
	terms     []string
	nons      []string
	levels    [][]string
	assocs    []string
	start     string
	startAt   int
	rules     []modelRule
	words     []modelWord
}

type modelRule struct {
	left  string
	right []string
	prec  string
}

// modelWord is a word of an alternative, by its piece's number.
type modelWord struct {
	name string
	at   int
}

// classes are the letters of the table that fit a piece; none, if it has a fault of its own.
func classes(directive, p, behind string) (string, api.Errno) {
	switch p {
	case "":
		return ".", api.OK
	case "$", "9":
		return "", api.ErrChar
	case "'\n":
		return "", api.ErrQuoted
	case "''", "'b c'", strings.Repeat("w", 33):
		return "", api.ErrName
	case ":", "|", ";":
		return p, api.OK
	case "%empty":
		return "e", api.OK
	case "%prec":
		return "p", api.OK
	case "%what", "%":
		return "", api.ErrLine
	}
	switch {
	case p[0] == '%':
		return "D", api.OK
	case p[0] != '\'' && behind == ":":
		return "w", api.OK
	case p[0] != '\'':
		return "Nw", api.OK
	case directive == "%non" || directive == "%start":
		return "q", api.OK
	}
	return "Nq", api.OK
}

// step reads the piece of that number.
func (m *model) step(number int, p, behind string) api.Errno {
	class, e := classes(m.directive, p, behind)
	if e != api.OK {
		return e
	}
	at := strings.IndexAny(mayStand[m.where], class)
	if at < 0 {
		return api.ErrLine
	}
	switch as := mayStand[m.where][at]; as {
	case 'D':
		return m.declaration(p)
	case 'N':
		return m.name(number, p)
	case 'e':
		m.where = "empty"
	case 'p':
		m.where = "prec"
	case ':':
		m.where = ":"
	case '|', ';':
		return m.sign(p)
	case 'w', 'q':
		switch m.where {
		case "line", "names":
			return m.leftSide(p)
		case "prec":
			return m.precName(p)
		}
		return m.symbol(number, p)
	}
	return api.OK
}

func (m *model) declaration(p string) api.Errno {
	level := p == "%left" || p == "%right" || p == "%nonassoc"
	switch {
	case len(m.rules) > 0:
		return api.ErrPlace
	case p == "%start" && m.start != "":
		return api.ErrTwice
	case level && len(m.levels) == 32:
		return api.ErrLevel
	}
	if level {
		m.levels = append(m.levels, nil)
		m.assocs = append(m.assocs, p)
	}
	m.directive, m.where = p, "directive"
	return api.OK
}

func (m *model) name(number int, p string) api.Errno {
	m.where = "names"
	isTerm, isNon := slices.Contains(m.terms, p), slices.Contains(m.nons, p)
	switch m.directive {
	case "%start":
		m.start, m.startAt, m.where = p, number, "line"
	case "%term":
		if isTerm || isNon {
			return api.ErrTwice
		}
		m.terms = append(m.terms, p)
	case "%non":
		if isTerm || isNon {
			return api.ErrTwice
		}
		m.nons = append(m.nons, p)
	default:
		if isNon {
			return api.ErrKnown
		}
		if slices.Contains(slices.Concat(m.levels...), p) {
			return api.ErrTwice
		}
		if !isTerm {
			m.terms = append(m.terms, p)
		}
		m.levels[len(m.levels)-1] = append(m.levels[len(m.levels)-1], p)
	}
	return api.OK
}

func (m *model) leftSide(p string) api.Errno {
	m.where = "left"
	if slices.Contains(m.terms, p) {
		return api.ErrKnown
	}
	if !slices.Contains(m.nons, p) {
		m.nons = append(m.nons, p)
	}
	m.rules = append(m.rules, modelRule{left: p})
	return api.OK
}

func (m *model) symbol(number int, p string) api.Errno {
	m.where = "symbol"
	rule := &m.rules[len(m.rules)-1]
	if len(rule.right) == 16 {
		return api.ErrRight
	}
	if p[0] != '\'' {
		m.words = append(m.words, modelWord{p, number})
	} else if !slices.Contains(m.terms, p) {
		m.terms = append(m.terms, p)
	}
	rule.right = append(rule.right, p)
	return api.OK
}

func (m *model) precName(p string) api.Errno {
	m.where = "precname"
	if !slices.Contains(m.terms, p) {
		if p[0] != '\'' {
			return api.ErrKnown
		}
		m.terms = append(m.terms, p)
	}
	m.rules[len(m.rules)-1].prec = p
	return api.OK
}

func (m *model) sign(p string) api.Errno {
	last := len(m.rules) - 1
	now := m.rules[last]
	if len(m.rules) == 257 {
		return api.ErrProds
	}
	for _, ahead := range m.rules[:last] {
		if ahead.left == now.left && strings.Join(ahead.right, " ") == strings.Join(now.right, " ") {
			return api.ErrTwice
		}
	}
	m.where = "line"
	if p == "|" {
		m.where = ":"
		m.rules = append(m.rules, modelRule{left: now.left})
	}
	return api.OK
}

// behindLast is what is asked there: the error, and the number of the piece.
func (m *model) behindLast(end int) (api.Errno, int) {
	if m.start != "" && !slices.Contains(m.nons, m.start) {
		return api.ErrKnown, m.startAt
	}
	for _, w := range m.words {
		if !slices.Contains(m.terms, w.name) && !slices.Contains(m.nons, w.name) {
			return api.ErrKnown, w.at
		}
	}
	switch {
	case len(m.terms) == 0:
		return api.ErrTerms, end
	case len(m.rules) == 0:
		return api.ErrProds, end
	}
	return api.OK, 0
}

func (m *model) grammar() api.Grammar {
	g := api.Grammar{Terms: m.terms, Nons: m.nons, Start: slices.Index(m.nons, m.rules[0].left)}
	if m.start != "" {
		g.Start = slices.Index(m.nons, m.start)
	}
	for _, r := range m.rules {
		p := api.Prod{Left: slices.Index(m.nons, r.left), Prec: slices.Index(m.terms, r.prec)}
		for _, name := range r.right {
			if n := slices.Index(m.terms, name); n >= 0 {
				p.Right = append(p.Right, term(n))
			} else {
				p.Right = append(p.Right, non(slices.Index(m.nons, name)))
			}
		}
		g.Prods = append(g.Prods, p)
	}
	for i, names := range m.levels {
		l := api.Level{Assoc: api.Assoc(1 + slices.Index([]string{"%left", "%right", "%nonassoc"}, m.assocs[i]))}
		for n, name := range m.terms {
			if slices.Contains(names, name) {
				l.Terms = append(l.Terms, n)
			}
		}
		g.Levels = append(g.Levels, l)
	}
	return g
}

// readModel is what pieces are read as: the grammar, or the error, the number of its piece, and whether it is told behind the last one.
func readModel(pieces []string) (api.Grammar, api.Errno, int, bool) {
	m := model{where: "line"}
	for i, p := range append(slices.Clone(pieces), "") {
		behind := ""
		if i+1 < len(pieces) {
			behind = pieces[i+1]
		}
		if e := m.step(i, p, behind); e != api.OK {
			return api.Grammar{}, e, i, false
		}
	}
	if e, i := m.behindLast(len(pieces)); e != api.OK {
		return api.Grammar{}, e, i, true
	}
	return m.grammar(), api.OK, 0, false
}

// joined is a text of these pieces, and their places; the last is the text's end.
func joined(pieces []string, between func(a, b string) string) (string, []int) {
	text := between("", "")
	var places []int
	for i, p := range pieces {
		places = append(places, len(text))
		text += p
		if i+1 < len(pieces) {
			text += between(p, pieces[i+1])
		} else {
			text += between(p, "")
		}
	}
	return text, append(places, len(text))
}

func oneBlank(a, b string) string {
	if a == "" || b == "" {
		return ""
	}
	return " "
}

// agrees asks that the pieces, with that between them, are read as the model reads them.
func agrees(t *testing.T, pieces []string, between func(a, b string) string) {
	t.Helper()
	want, e, number, _ := readModel(pieces)
	text, places := joined(pieces, between)
	if e != api.OK {
		refuses(t, text, e, places[number])
		return
	}
	takes(t, text, want)
	if e, at := grammar.Check(want); e != api.OK {
		t.Errorf("%q is taken, but Check says %v at %d", text, e, at)
	}
	again, e := notation.Print(want)
	if e != api.OK {
		t.Errorf("%q is taken, but not printed: %v", text, e)
	}
	takes(t, again, want)
}

// P4.1: every short list of pieces.
func TestAllShortTexts(t *testing.T) {
	all := []string{"S", "a", "'x'", ":", "|", ";", "%term", "%non", "%left", "%start", "%prec", "%empty", "$"}
	var pieces []string
	var grow func(left int)
	grow = func(left int) {
		agrees(t, pieces, oneBlank)
		_, e, number, behind := readModel(pieces)
		// Behind a fault nothing matters but a : that comes next.
		settled := e != api.OK && !behind && number < len(pieces)-1
		if left == 0 || settled || t.Failed() {
			return
		}
		for _, p := range all {
			pieces = append(pieces, p)
			grow(left - 1)
			pieces = pieces[:len(pieces)-1]
		}
	}
	grow(6)
}

// randomPieces are pieces most of which can stand where they stand.
func randomPieces(rnd *rand.Rand) []string {
	good := []string{"S", "T", "a", "b", "'x'", "'y'", ":", ":", "|", "|", ";", ";", "%term", "%non", "%left", "%right", "%nonassoc", "%start", "%prec", "%empty"}
	bad := []string{"$", "9", "'\n", "''", "'b c'", "%what", "%", strings.Repeat("w", 33)}
	var pieces []string
	for range rnd.Intn(60) {
		p := good[rnd.Intn(len(good))]
		if rnd.Intn(300) == 0 {
			pieces = append(pieces, bad[rnd.Intn(len(bad))])
			continue
		}
		next := append(pieces, p)
		if p != ":" && p[0] != '%' && rnd.Intn(4) == 0 {
			next = append(next, ":")
		}
		_, e, at, behind := readModel(next)
		if e == api.OK || behind || at >= len(next) || rnd.Intn(300) == 0 {
			pieces = next
		}
	}
	for _, p := range []string{";", "S", ":", "'x'", ";"} {
		if rnd.Intn(3) > 0 {
			pieces = append(pieces, p)
		}
	}
	return pieces
}

// anyBetween is blanks and remarks, or nothing where pieces stay apart without.
func anyBetween(rnd *rand.Rand) func(a, b string) string {
	return func(a, b string) string {
		out := ""
		for range rnd.Intn(4) {
			out += []string{" ", "\t", "\r", "\n", "#\n", "# : $ 'x %\n", "#%term\r\n"}[rnd.Intn(7)]
		}
		if out == "" && a != "" && b != "" && runsOn(a, b) {
			return "\n"
		}
		if a != "" && b == "" && rnd.Intn(2) == 0 {
			return out + "# 'the end"
		}
		return out
	}
}

// runsOn answers whether a and b, one behind the other, would not be read as the two.
func runsOn(a, b string) bool {
	wordGoesOn := b[0] == 'S' || b[0] == 'T' || b[0] == 'a' || b[0] == 'b' || b[0] == 'w' || b[0] == '9'
	small := wordGoesOn && b[0] >= 'a'
	if a[0] == '%' {
		return small
	}
	return wordGoesOn && strings.Trim(a, "STabw") == ""
}

// P4.1, P4.3, P4.4: long lists of pieces, with one blank between, and with anything that says nothing.
func TestRandomTexts(t *testing.T) {
	rnd := rand.New(rand.NewSource(44))
	told := map[api.Errno]int{}
	for range 20000 {
		pieces := randomPieces(rnd)
		agrees(t, pieces, oneBlank)
		agrees(t, pieces, anyBetween(rnd))
		_, e, _, _ := readModel(pieces)
		told[e]++
		if t.Failed() {
			t.FailNow()
		}
	}
	for _, e := range []api.Errno{api.OK, api.ErrChar, api.ErrName, api.ErrQuoted, api.ErrLine, api.ErrPlace, api.ErrTwice, api.ErrKnown, api.ErrTerms, api.ErrProds} {
		if told[e] < 10 {
			t.Errorf("error %d was met %d times only", int(e), told[e])
		}
	}
}

// P4.5: what stands behind the piece of a fault does not matter.
func TestWhatStandsBehind(t *testing.T) {
	rnd := rand.New(rand.NewSource(45))
	met := 0
	for range 5000 {
		pieces := randomPieces(rnd)
		_, e, number, behind := readModel(pieces)
		if e == api.OK || behind || number == len(pieces) {
			continue
		}
		met++
		text, places := joined(pieces, oneBlank)
		upTo := text[:places[number]+len(pieces[number])]
		if number+1 < len(pieces) && pieces[number+1] == ":" {
			upTo += " :"
		}
		refuses(t, upTo, e, places[number])
		for _, rest := range []string{" $", " '", " S", "\n%term", " 'x' :", "\n\x00\xff", " ;"} {
			refuses(t, upTo+rest, e, places[number])
		}
	}
	if met < 500 {
		t.Error("too few faults:", met)
	}
}

// Parse and Print answer, whatever comes in, and agree with each other.
func FuzzParse(f *testing.F) {
	f.Add("%term n\n%left '+' # plus\nE : E '+' E | n %prec '+' | %empty ;")
	f.Add("S : 'x ;")
	f.Add("%start S %non S\r\n%right a b : ;")
	f.Fuzz(func(t *testing.T, text string) {
		g, e, at := notation.Parse(text)
		if at < 0 || at > len(text) {
			t.Fatal("a place that there is not:", at)
		}
		if e != api.OK {
			refuses(t, text, e, at)
			return
		}
		if e, _ := grammar.Check(g); e != api.OK {
			t.Fatal("taken, but it may not be:", e)
		}
		again, e := notation.Print(g)
		if e != api.OK {
			t.Fatal("not printed:", e)
		}
		if len(again) <= api.MaxText {
			takes(t, again, g)
		}
	})
}
