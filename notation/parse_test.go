package notation_test

import (
	"strings"
	"testing"

	"gantry/api"
	"gantry/notation"
)

// P4.1 and examples 1 and 2: what texts are read as.
func TestParse(t *testing.T) {
	takes(t, "%term a b\nS : a S b | ;", api.Grammar{
		Terms: []string{"a", "b"},
		Nons:  []string{"S"},
		Prods: []api.Prod{{Right: syms(term(0), non(0), term(1)), Prec: -1}, {Prec: -1}},
	})
	takes(t, "S : 'x' ;", api.Grammar{
		Terms: []string{"'x'"},
		Nons:  []string{"S"},
		Prods: []api.Prod{{Right: syms(term(0)), Prec: -1}},
	})
	// Symbols are numbered as they are first named, whatever names them; levels rise all the same.
	takes(t, "%start F %right b %term a %non F %left 'c' a %nonassoc 'd' E : 'y' F 'c' %prec 'z' | %empty %prec a ; F : | E a %prec b; G:;", api.Grammar{
		Terms: []string{"b", "a", "'c'", "'d'", "'y'", "'z'"},
		Nons:  []string{"F", "E", "G"},
		Prods: []api.Prod{
			{Left: 1, Right: syms(term(4), non(0), term(2)), Prec: 5},
			{Left: 1, Prec: 1},
			{Left: 0, Prec: -1},
			{Left: 0, Right: syms(non(1), term(1)), Prec: 0},
			{Left: 2, Prec: -1},
		},
		Levels: []api.Level{
			{Assoc: api.AssocRight, Terms: []int{0}},
			{Assoc: api.AssocLeft, Terms: []int{1, 2}},
			{Assoc: api.AssocNone, Terms: []int{3}},
		},
	})
	// Without %start the first rule's left side is it, not the first nonterminal.
	takes(t, "%non A B C : 'x' ;", api.Grammar{
		Terms: []string{"'x'"},
		Nons:  []string{"A", "B", "C"},
		Start: 2,
		Prods: []api.Prod{{Left: 2, Right: syms(term(0)), Prec: -1}},
	})
	// A nonterminal's rules may stand apart, and a word ahead of its rule.
	takes(t, "S : T S ; T : 'x' ; S : ;", api.Grammar{
		Terms: []string{"'x'"},
		Nons:  []string{"S", "T"},
		Prods: []api.Prod{
			{Left: 0, Right: syms(non(1), non(0)), Prec: -1},
			{Left: 1, Right: syms(term(0)), Prec: -1},
			{Left: 0, Prec: -1},
		},
	})
}

// P4.1, a piece's own fault; it goes ahead of all else.
func TestPieces(t *testing.T) {
	long := strings.Repeat("q", 33)
	for text, c := range map[string]struct {
		e  api.Errno
		at int
	}{
		"S : 9x ;":                  {api.ErrChar, 4},
		"S : x-y ;":                 {api.ErrChar, 5},
		"S : \x00 ;":                {api.ErrChar, 4},
		"\v":                        {api.ErrChar, 0},
		"\f":                        {api.ErrChar, 0},
		"\xc3\xa9 : ;":              {api.ErrChar, 0},
		"S : \"x\" ;":               {api.ErrChar, 4},
		"S : x\xff ;":               {api.ErrChar, 5},
		"%term9":                    {api.ErrChar, 5},
		"S : 'x ;":                  {api.ErrQuoted, 4},
		"S : 'x\n' ;":               {api.ErrQuoted, 4},
		"S : '":                     {api.ErrQuoted, 4},
		"S : '#\n":                  {api.ErrQuoted, 4},
		"S : '' ;":                  {api.ErrName, 4},
		"S : 'x y' ;":               {api.ErrName, 4},
		"S : 'x\ty' ;":              {api.ErrName, 4},
		"S : 'x\ry' ;":              {api.ErrName, 4},
		"S : '\\' ;":                {api.ErrName, 4},
		"S : '\x7f' ;":              {api.ErrName, 4},
		"S : '\xc3\xa9' ;":          {api.ErrName, 4},
		"S : '" + long[:31] + "' ;": {api.ErrName, 4},
		"S : " + long + " ;":        {api.ErrName, 4},
		"S : x " + long[:32] + "9;": {api.ErrName, 6},
		"%what":                     {api.ErrLine, 0},
		"%":                         {api.ErrLine, 0},
		"% term a":                  {api.ErrLine, 0},
		"%TERM a":                   {api.ErrLine, 0},
		"%terms a":                  {api.ErrLine, 0},
		"%leftz S : ;":              {api.ErrLine, 0},
		"%lefta S : ;":              {api.ErrLine, 0},
		"%ter a":                    {api.ErrLine, 0},
		"S : %Empty ;":              {api.ErrLine, 4},
		"%non " + long + ":":        {api.ErrName, 5},
		": " + long:                 {api.ErrLine, 0},
		"S " + long:                 {api.ErrName, 2},
		"S '' :":                    {api.ErrName, 2},
		"S $ :":                     {api.ErrChar, 2},
		"S ' :":                     {api.ErrQuoted, 2},
		"%start '":                  {api.ErrQuoted, 7},
	} {
		refuses(t, text, c.e, c.at)
	}
	for _, name := range []string{"'" + long[:30] + "'", "'#'", "'%'", "'|'", "';'", "':'", "'\"'", "'!~'"} {
		takes(t, "S:"+name+"|;", api.Grammar{
			Terms: []string{name},
			Nons:  []string{"S"},
			Prods: []api.Prod{{Right: syms(term(0)), Prec: -1}, {Prec: -1}},
		})
	}
	takes(t, "%termA9_z%non_"+long[:31]+"%start_"+long[:31]+" S:;", api.Grammar{
		Terms: []string{"A9_z"},
		Nons:  []string{"_" + long[:31], "S"},
		Prods: []api.Prod{{Left: 1, Prec: -1}},
	})
}

// P4.1: each byte by itself, between blanks.
func TestBytes(t *testing.T) {
	for i := range 256 {
		c := byte(i)
		text := " " + string([]byte{c}) + " "
		switch {
		case c == '\t' || c == '\n' || c == '\r' || c == ' ' || c == '#':
			refuses(t, text, api.ErrTerms, 3)
		case c == '_' || 'a' <= c && c <= 'z' || 'A' <= c && c <= 'Z':
			refuses(t, text, api.ErrLine, 3)
		case c == ':' || c == '|' || c == ';' || c == '%':
			refuses(t, text, api.ErrLine, 1)
		case c == '\'':
			refuses(t, text, api.ErrQuoted, 1)
		default:
			refuses(t, text, api.ErrChar, 1)
		}
	}
}

// P4.1, the faults below the table; where a piece has two, the first in order is told.
func TestFaults(t *testing.T) {
	for text, c := range map[string]struct {
		e  api.Errno
		at int
	}{
		"%left '+'\n%left '*'\nE : E '+' E | E '*' E | n ;": {api.ErrKnown, 44},
		"%start E":                 {api.ErrKnown, 7},
		"%term a":                  {api.ErrProds, 7},
		"":                         {api.ErrTerms, 0},
		" # none\n":                {api.ErrTerms, 8},
		"%term a\nS : a ;\n%non T": {api.ErrPlace, 16},
		"S : ; %term":              {api.ErrPlace, 6},
		"S : ; %left":              {api.ErrPlace, 6},
		"S : ; %prec":              {api.ErrLine, 6},
		"S : ; %empty":             {api.ErrLine, 6},
		"S : ; 'x' :":              {api.ErrLine, 6},

		"%start S %start T":             {api.ErrTwice, 9},
		"%start S %term a %start S":     {api.ErrTwice, 17},
		"%start S S : ; %start":         {api.ErrPlace, 15},
		"%start S %term S":              {api.ErrKnown, 7},
		"%start S T : U 'x' ;":          {api.ErrKnown, 7},
		"%start T T : 'x' U V ; V : W;": {api.ErrKnown, 17},
		"%start S a b":                  {api.ErrLine, 11},
		"%term a %start S a b":          {api.ErrKnown, 17},
		"%start S 'x'":                  {api.ErrLine, 9},
		"%start S : 'x' ;":              {api.ErrLine, 7},
		"%start 'x'":                    {api.ErrLine, 7},
		"%start":                        {api.ErrLine, 6},

		"%term a b a":          {api.ErrTwice, 10},
		"%non a %term a":       {api.ErrTwice, 13},
		"%term a %non a":       {api.ErrTwice, 13},
		"%non a a":             {api.ErrTwice, 7},
		"%left a %term a":      {api.ErrTwice, 14},
		"%left 'x' %non b 'x'": {api.ErrLine, 17},
		"%term":                {api.ErrLine, 5},
		"%term ":               {api.ErrLine, 6},
		"%term %non a":         {api.ErrLine, 6},
		"%term # :\n:":         {api.ErrLine, 10},
		"%term a # x\n : ;":    {api.ErrLine, 6},
		"%term 'a' : ;":        {api.ErrLine, 10},
		"%term a 'b' : ;":      {api.ErrLine, 12},
		"%term a b #\n#\n:c;":  {api.ErrKnown, 15},

		"%non S %left S":     {api.ErrKnown, 13},
		"%left a a":          {api.ErrTwice, 8},
		"%left a %right b a": {api.ErrTwice, 17},
		"%left S : ;":        {api.ErrLine, 6},

		"%term a a : ;":              {api.ErrKnown, 8},
		"%left a a : ;":              {api.ErrKnown, 8},
		"S : 'x' %prec y ;":          {api.ErrKnown, 14},
		"S : 'x' %prec S ;":          {api.ErrKnown, 14},
		"S : %prec 'x' %prec 'x' ;":  {api.ErrLine, 14},
		"S : %prec 'x' 'y' ;":        {api.ErrLine, 14},
		"S : 'x' %prec ;":            {api.ErrLine, 14},
		"S : %empty 'x' ;":           {api.ErrLine, 11},
		"S : %empty %empty ;":        {api.ErrLine, 11},
		"S : 'x' %empty ;":           {api.ErrLine, 8},
		"S : 'x' : ;":                {api.ErrLine, 8},
		"S : 'x' %left a ;":          {api.ErrLine, 8},
		"S : : ;":                    {api.ErrLine, 4},
		"S ; ":                       {api.ErrLine, 2},
		"S":                          {api.ErrLine, 1},
		"S ":                         {api.ErrLine, 2},
		"S :":                        {api.ErrLine, 3},
		"S : 'x'":                    {api.ErrLine, 7},
		"S : 'x' | # ;":              {api.ErrLine, 13},
		"S : %empty":                 {api.ErrLine, 10},
		"S : %prec":                  {api.ErrLine, 9},
		"S : %prec 'x'":              {api.ErrLine, 13},
		"S : ; ;":                    {api.ErrLine, 6},
		"S : ; |":                    {api.ErrLine, 6},
		"S : ;":                      {api.ErrTerms, 5},
		"S : T ;":                    {api.ErrKnown, 4},
		"%non S : ;":                 {api.ErrLine, 5},
		"%term a S : a | T 'x' | T;": {api.ErrKnown, 16},

		"S : 'x' | 'x' ;":                   {api.ErrTwice, 14},
		"S : | | 'x' ;":                     {api.ErrTwice, 6},
		"S : %empty | ;":                    {api.ErrTwice, 13},
		"S : ; T : ; S : ;":                 {api.ErrTwice, 16},
		"S : T U ; S : T U %prec 'x' | V ;": {api.ErrTwice, 28},
		"S : T U | U T | T | U | T ;":       {api.ErrTwice, 26},
	} {
		refuses(t, text, c.e, c.at)
	}
}

// P4.1, ErrText: the limit, ahead of every other fault.
func TestLongTexts(t *testing.T) {
	text := "S : 'x' ;#"
	want, _, _ := notation.Parse(text)
	text += strings.Repeat("x", api.MaxText-len(text))
	takes(t, text, want)
	refuses(t, text+"x", api.ErrText, 0)
	refuses(t, strings.Repeat("$", api.MaxText+1), api.ErrText, 0)
	refuses(t, strings.Repeat("$", api.MaxText), api.ErrChar, 0)
	refuses(t, strings.Repeat(" ", api.MaxText), api.ErrTerms, api.MaxText)
	refuses(t, strings.Repeat("x", api.MaxText), api.ErrName, 0)
	refuses(t, strings.Repeat(" ", api.MaxText-1)+"S", api.ErrLine, api.MaxText)
}

// lines puts pieces one behind the other.
func lines(pieces ...string) string { return strings.Join(pieces, " ") }

// refusesLast asks that the last of the pieces is what is refused.
func refusesLast(t *testing.T, e api.Errno, pieces ...string) {
	t.Helper()
	text := lines(pieces...)
	refuses(t, text+" ; $", e, strings.LastIndexByte(text, ' ')+1)
}

// P4.1, ErrTerms and ErrNons: the limits, and that names known already pass them.
func TestManyNames(t *testing.T) {
	full := "%term " + lines(numbered("t", 64)...)
	refusesLast(t, api.ErrTerms, full, "x")
	refusesLast(t, api.ErrTerms, full, "'x'")
	refusesLast(t, api.ErrTwice, full, "t63")
	refusesLast(t, api.ErrTerms, full, "%term x")
	refusesLast(t, api.ErrTerms, full, "%left t0 x")
	refusesLast(t, api.ErrTwice, full, "%left t0 t0")
	refusesLast(t, api.ErrKnown, full, "%non S %left t0 S")
	refusesLast(t, api.ErrTerms, full, "S : t0 'x'")
	refusesLast(t, api.ErrTerms, full, "S : t0 %prec 'x'")
	refusesLast(t, api.ErrKnown, full, "S : t0 %prec x")
	if g, e, _ := notation.Parse(lines(full, "%left t3 S : t0 t63 %prec t1 ;")); e != api.OK || len(g.Terms) != 64 {
		t.Error("64 terminals:", g, e)
	}
	quotes := "'" + strings.Join(numbered("q", 64), "' '") + "'"
	if g, e, _ := notation.Parse("%left " + quotes + " S : 'q63' ;"); e != api.OK || len(g.Terms) != 64 || len(g.Levels[0].Terms) != 64 {
		t.Error("64 terminals of a level:", g, e)
	}

	nons := "%non " + lines(numbered("N", 64)...)
	refusesLast(t, api.ErrNons, nons, "x")
	refusesLast(t, api.ErrTwice, nons, "N63")
	refusesLast(t, api.ErrNons, nons, "%start S S")
	refusesLast(t, api.ErrNons, nons, "%term x N0 : ; S")
	refusesLast(t, api.ErrKnown, nons, "%term x N0 : ; x")
	if g, e, _ := notation.Parse(lines(nons, "%term x N63 : ;")); e != api.OK || len(g.Nons) != 64 || g.Start != 63 {
		t.Error("64 nonterminals:", g, e)
	}
}

// P4.1, ErrLevel and ErrRight.
func TestManyLevelsAndSymbols(t *testing.T) {
	levels := "%left " + strings.Join(numbered("t", 32), " %left ")
	refusesLast(t, api.ErrLevel, levels, "%left")
	refusesLast(t, api.ErrLevel, levels, "%right")
	refusesLast(t, api.ErrLevel, levels, "%nonassoc")
	refusesLast(t, api.ErrPlace, levels, "S : ; %left")
	if g, e, _ := notation.Parse(lines(levels, "%term x S : ;")); e != api.OK || len(g.Levels) != 32 {
		t.Error("32 levels:", g, e)
	}

	symbols := "S :" + strings.Repeat(" 'x'", 16)
	refusesLast(t, api.ErrRight, symbols, "'x'")
	refusesLast(t, api.ErrRight, symbols, "S")
	refusesLast(t, api.ErrRight, "%term", lines(numbered("t", 64)...), "S :"+strings.Repeat(" t0", 16), "'x'")
	refusesLast(t, api.ErrLine, symbols, "%empty")
	if g, e, _ := notation.Parse(lines(symbols, "%prec 'x' | "+symbols[3:], "S ; S : S ;")); e != api.ErrRight {
		t.Error("17 symbols of a second alternative:", g, e)
	}
	if g, e, _ := notation.Parse(lines(symbols, "%prec 'x' |", symbols[7:], "S ;")); e != api.OK || len(g.Prods[0].Right) != 16 || len(g.Prods[1].Right) != 16 {
		t.Error("twice 16 symbols:", g, e)
	}
}

// P4.1, ErrProds: alternatives of all rules are counted.
func TestManyAlternatives(t *testing.T) {
	var rules []string
	for _, n := range numbered("N", 16) {
		rules = append(rules, n, ":", strings.Join(numbered("N", 16), " | "), ";")
	}
	text := lines(rules...)
	if g, e, _ := notation.Parse(text + "%"); e != api.ErrLine {
		t.Error("256 productions, and a fault behind:", g, e)
	}
	if g, e, at := notation.Parse("%term x " + text); e != api.OK || len(g.Prods) != 256 {
		t.Error("256 productions:", e, at)
	}
	refusesLast(t, api.ErrProds, text, "M : |")
	refusesLast(t, api.ErrProds, text, "M : N0 ;")
	refusesLast(t, api.ErrProds, text, "N0 : N0 ;")
	refusesLast(t, api.ErrLine, text, "M : %left")
}
