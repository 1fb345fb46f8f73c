package pgen_test

import (
	"math/rand"
	"slices"
	"strconv"
	"testing"

	"gantry/api"
	"gantry/bundle"
	"gantry/canon"
	"gantry/cert"
	"gantry/grammar"
	"gantry/notation"
	"gantry/pgen"
	"gantry/prec"
	"gantry/table"
	"gantry/trim"
	"gantry/validate"
)

func term(n int) api.Sym { return api.Sym{Kind: api.SymTerm, N: n} }
func non(n int) api.Sym  { return api.Sym{Kind: api.SymNon, N: n} }

func prod(left int, right ...api.Sym) api.Prod {
	return api.Prod{Left: left, Right: right, Prec: -1}
}

// numbered are that many names: the letter, and the numbers from 0 on behind it.
func numbered(letter string, n int) []string {
	var l []string
	for i := range n {
		l = append(l, letter+strconv.Itoa(i))
	}
	return l
}

func grammarOf(terms, nons, start int, prods ...api.Prod) api.Grammar {
	return api.Grammar{Terms: numbered("t", terms), Nons: numbered("n", nons), Start: start, Prods: prods}
}

func must[T any](x T, e api.Errno) T {
	if e != api.OK {
		panic(e)
	}
	return x
}

// codeOf and textOf are a grammar's bytes, each in one of the two ways.
func codeOf(g api.Grammar) []byte { return must(grammar.Encode(g)) }
func textOf(g api.Grammar) []byte { return []byte(must(notation.Print(g))) }

// readOf is the grammar of a text.
func readOf(t testing.TB, text string) api.Grammar {
	t.Helper()
	g, e, at := notation.Parse(text)
	if e != api.OK {
		t.Fatal(text, e, at)
	}
	return g
}

// loadedOf is what Load takes of what Compile makes of a text.
func loadedOf(t testing.TB, text string) *validate.Valid {
	t.Helper()
	b, _, e, at := pgen.Compile([]byte(text))
	if e != api.OK {
		t.Fatal(text, e, at)
	}
	v, e, at := pgen.Load([]byte(text), b)
	if e != api.OK || at != 0 || !v.Made() {
		t.Fatal(text, e, at)
	}
	return v
}

// symbolsOf are all symbols of a grammar, terminals ahead, rising.
func symbolsOf(g api.Grammar) []api.Sym {
	var l []api.Sym
	for n := range g.Terms {
		l = append(l, term(n))
	}
	for n := range g.Nons {
		l = append(l, non(n))
	}
	return l
}

// kindsOf are a grammar's terminals.
func kindsOf(g api.Grammar) []int {
	var l []int
	for n := range g.Terms {
		l = append(l, n)
	}
	return l
}

// tokens is a text of these kinds, each token with a payload of its own.
func tokens(kinds ...int) []api.Token {
	var w []api.Token
	for at, k := range kinds {
		w = append(w, api.Token{Kind: k, Text: "at " + strconv.Itoa(at)})
	}
	return w
}

// kinds are those of a text.
func kinds(w []api.Token) []int {
	var l []int
	for _, tok := range w {
		l = append(l, tok.Kind)
	}
	return l
}

// eachWord goes over all lists of at most so many of these kinds.
func eachWord(kinds []int, most int, do func(w []int)) {
	level := [][]int{nil}
	for length := range most + 1 {
		var next [][]int
		for _, w := range level {
			do(w)
			if length < most {
				for _, k := range kinds {
					next = append(next, append(slices.Clone(w), k))
				}
			}
		}
		level = next
	}
}

func pick[T any](r *rand.Rand, l []T) T { return l[r.Intn(len(l))] }

// anyGrammar has at most so many of each, and no production twice; some have levels, and productions that name a terminal's.
func anyGrammar(r *rand.Rand, terms, nons, prods, right int) api.Grammar {
	g := grammarOf(1+r.Intn(terms), 1+r.Intn(nons), 0)
	g.Start = r.Intn(len(g.Nons))
	for range 1 + r.Intn(prods) {
		p := prod(r.Intn(len(g.Nons)))
		for range r.Intn(right + 1) {
			p.Right = append(p.Right, pick(r, symbolsOf(g)))
		}
		if r.Intn(6) == 0 {
			p.Prec = r.Intn(len(g.Terms))
		}
		if !slices.ContainsFunc(g.Prods, func(q api.Prod) bool { return q.Left == p.Left && slices.Equal(q.Right, p.Right) }) {
			g.Prods = append(g.Prods, p)
		}
	}
	g.Levels = anyLevels(r, len(g.Terms))
	return g
}

// anyLevels are levels of some of so many terminals, or none.
func anyLevels(r *rand.Rand, terms int) []api.Level {
	if r.Intn(2) == 0 {
		return nil
	}
	l := make([]api.Level, 1+r.Intn(3))
	for n := range l {
		l[n].Assoc = api.Assoc(1 + r.Intn(3))
	}
	for n := range terms {
		if r.Intn(4) > 0 {
			one := &l[r.Intn(len(l))]
			one.Terms = append(one.Terms, n)
		}
	}
	return slices.DeleteFunc(l, func(x api.Level) bool { return len(x.Terms) == 0 })
}

// anyWell is a well-formed grammar with at most so many of each.
func anyWell(r *rand.Rand, terms, nons, prods, right int) api.Grammar {
	for {
		if g, e := trim.Wells(anyGrammar(r, terms, nons, prods, right)); e == api.OK {
			return g
		}
	}
}

// eachSmall goes over every well-formed grammar of at most two terminals, two nonterminals and three short productions.
func eachSmall(do func(api.Grammar)) {
	for terms := 1; terms <= 2; terms++ {
		for nons := 1; nons <= 2; nons++ {
			var all []api.Prod
			for left := range nons {
				all = append(all, prod(left))
				for _, a := range symbolsOf(grammarOf(terms, nons, 0)) {
					all = append(all, prod(left, a))
					for _, b := range symbolsOf(grammarOf(terms, nons, 0)) {
						all = append(all, prod(left, a, b))
					}
				}
			}
			tell := func(l ...api.Prod) {
				g := grammarOf(terms, nons, 0, l...)
				if e, _ := trim.Well(g); e == api.OK {
					do(g)
				}
			}
			for i := range all {
				tell(all[i])
				for j := range i {
					tell(all[i], all[j])
					for k := range j {
						tell(all[i], all[j], all[k])
					}
				}
			}
		}
	}
}

// compiled is what Compile or Force answers.
type compiled struct {
	frame  []byte
	report api.Report
	err    api.Errno
	at     int
}

func compile(b []byte) compiled {
	frame, r, e, at := pgen.Compile(b)
	return compiled{frame, r, e, at}
}

func force(b []byte) compiled {
	frame, r, e, at := pgen.Force(b)
	return compiled{frame, r, e, at}
}

// modelReport are the conflicts of the merged automaton, and what precedence says of them one by one.
func modelReport(g api.Grammar, a api.Automaton) api.Report {
	var r api.Report
	for _, c := range must(canon.Conflicts(g, a)) {
		d := must(prec.Resolve(g, c))
		if d.Kind == api.DecideNone {
			r.Undecided = append(r.Undecided, c)
			continue
		}
		r.Decided = append(r.Decided, c)
		r.Decisions = append(r.Decisions, d)
	}
	return r
}

// modelMade is a bundle's frame, by the automaton of chapter 12 and not by that of chapter 16.
func modelMade(g api.Grammar, a api.Automaton) ([]byte, api.Errno) {
	y, _, _, e := table.Build(g, a)
	y = must(table.Defaults(g, must(y, e)))
	c, e := cert.Make(g, a, y)
	if e != api.OK {
		return nil, e
	}
	return bundle.Encode(api.Bundle{Table: y, Cert: c})
}

// modelCompile and modelForce are told of a well-formed grammar whose merged automaton there is.
func modelCompile(g api.Grammar, a api.Automaton) compiled {
	if r := modelReport(g, a); len(r.Undecided)+len(r.Decided) > 0 {
		return compiled{nil, r, api.ErrReport, len(r.Undecided) + len(r.Decided)}
	}
	frame, e := modelMade(g, a)
	return compiled{frame, api.Report{}, e, 0}
}

func modelForce(g api.Grammar, a api.Automaton) compiled {
	frame, e := modelMade(g, a)
	if e != api.OK {
		return compiled{err: e}
	}
	r := modelReport(g, a)
	return compiled{frame, r, api.OK, len(r.Undecided) + len(r.Decided)}
}

func sameConflict(a, b api.Conflict) bool {
	return a.State == b.State && a.Look == b.Look && a.Shift == b.Shift && slices.Equal(a.Reduce, b.Reduce)
}

func sameDecision(a, b api.Decision) bool {
	return a.Look == b.Look && a.Kind == b.Kind && a.Prod == b.Prod && slices.Equal(a.Dropped, b.Dropped) && a.ShiftDropped == b.ShiftDropped && a.By == b.By
}

func sameReport(a, b api.Report) bool {
	return slices.EqualFunc(a.Undecided, b.Undecided, sameConflict) && slices.EqualFunc(a.Decided, b.Decided, sameConflict) && slices.EqualFunc(a.Decisions, b.Decisions, sameDecision)
}

// same holds two answers against each other; nil and empty lists are one.
func (c compiled) same(d compiled) bool {
	return slices.Equal(c.frame, d.frame) && sameReport(c.report, d.report) && c.err == d.err && c.at == d.at
}

// isFault tells whether an answer is an error and a place, and nothing else.
func (c compiled) isFault(e api.Errno, at int) bool {
	return c.same(compiled{err: e, at: at})
}
