package pgen_test

import (
	"math/rand"
	"slices"
	"testing"

	"gantry/api"
	"gantry/bundle"
	"gantry/canon"
	"gantry/cert"
	"gantry/codec"
	"gantry/grammar"
	"gantry/pgen"
	"gantry/sentence"
	"gantry/table"
	"gantry/trees"
	"gantry/trim"
	"gantry/validate"
)

// bare is a tree without payloads.
func bare(t api.Tree) api.Tree {
	t.Tok.Text = ""
	kids := slices.Clone(t.Kids)
	for n := range kids {
		kids[n] = bare(kids[n])
	}
	t.Kids = kids
	return t
}

// heldOfAccepted holds an accepted text against P20.8.
func heldOfAccepted(t *testing.T, g api.Grammar, w []api.Token, r api.Result) {
	t.Helper()
	e, _ := trees.Check(g, r.Tree)
	if root, _ := trees.Root(g, r.Tree); e != api.OK || root != non(g.Start) || !slices.Equal(trees.Yield(r.Tree), w) || r.At != 0 {
		t.Fatalf("P20.8: %v over %v: %v", g, w, r)
	}
}

// heldOfRefused holds a refused text against P20.8: nothing of the grammar begins so, and what comes behind does not matter.
func heldOfRefused(t *testing.T, v *validate.Valid, w []api.Token, r api.Result) {
	t.Helper()
	g, at := v.Grammar(), r.At
	if at < 0 || at > len(w) || at < len(w) && must(sentence.Begins(g, kinds(w[:at+1]))) {
		t.Fatalf("P20.8: %v over %v: %v", g, w, r)
	}
	if at == len(w) {
		return
	}
	for _, tail := range [][]api.Token{nil, tokens(0, 0), tokens(-1), tokens(len(g.Terms) - 1)} {
		if other, e := pgen.Parse(v, append(slices.Clone(w[:at+1]), tail...)); e != api.OK || other.Accepted || other.At != at {
			t.Fatalf("P20.8: %v over %v, with another tail: %v, %v", g, w, other, e)
		}
	}
}

// heldOfText holds what Parse answers against P20.7 and P20.8.
func heldOfText(t *testing.T, v *validate.Valid, w []api.Token) string {
	t.Helper()
	g, rows, n := v.Grammar(), len(v.Table().Rows), len(w)
	r, e := pgen.Parse(v, w)
	if e != api.OK || r.Steps > (n+1)*(rows+2)+n+1+r.Pops || r.Steps < 1 || r.Pops < 0 {
		t.Fatalf("P20.7: %v over %v: %v, %v", g, w, r, e)
	}
	all := must(sentence.Trees(g, g.Start, kinds(w), 2))
	if len(all) > 1 || r.Accepted != (len(all) == 1) || r.Accepted && !trees.Same(bare(r.Tree), all[0]) {
		t.Fatalf("P20.8: %v over %v: %v, want %v", g, w, r, all)
	}
	if r.Accepted {
		heldOfAccepted(t, g, w, r)
		return "accepted"
	}
	heldOfRefused(t, v, w, r)
	return "refused"
}

// heldOfLoaded holds all short texts, kinds that are no terminal's among them.
func heldOfLoaded(t *testing.T, v *validate.Valid, length int, seen map[string]int) {
	t.Helper()
	g := v.Grammar()
	if e, s := trim.Well(g); e != api.OK {
		t.Fatal("P20.7: what is taken is not well-formed:", g, e, s)
	}
	seen["taken"]++
	eachWord(append(kindsOf(g), len(g.Terms)), length, func(l []int) {
		seen[heldOfText(t, v, tokens(l...))]++
	})
	heldOfText(t, v, tokens(-1))
	heldOfText(t, v, tokens(0, -1, 0))
}

// heldOfLoad is what Load answers, held against the layers below.
func heldOfLoad(t *testing.T, g, b []byte) *validate.Valid {
	t.Helper()
	read, e, at := pgen.ReadGrammar(g)
	if e == api.OK {
		var made api.Bundle
		if made, e, at = bundle.Decode(b); e == api.OK {
			_, e, at = validate.Validate(read, made)
		}
	}
	v, f, there := pgen.Load(g, b)
	if e != f || at != there || v.Made() != (e == api.OK) || !v.Made() && v != nil {
		t.Fatalf("P20.4: %v, %v: %v, %d, want %v, %d", g, b, f, there, e, at)
	}
	if v.Made() && !sameGrammar(v.Grammar(), read) {
		t.Fatal("P20.4: another grammar:", v.Grammar(), read)
	}
	return v
}

// heldOfGrammar holds what Compile and Force make of a well-formed grammar against P20.2, P20.3, P20.9 and P20.10.
func heldOfGrammar(t *testing.T, g api.Grammar, seen map[string]int) *validate.Valid {
	t.Helper()
	a, e := canon.Merged(g)
	if e != api.OK {
		seen["not merged"]++
		return nil
	}
	code, text := codeOf(g), textOf(g)
	got, forced := compile(code), force(code)
	if want := modelCompile(g, a); !got.same(want) {
		t.Fatalf("P20.2: %v: %v, want %v", g, got, want)
	}
	if want := modelForce(g, a); !forced.same(want) {
		t.Fatalf("P20.3: %v: %v, want %v", g, forced, want)
	}
	if !compile(text).same(got) || !force(text).same(forced) {
		t.Fatal("P20.10:", g)
	}
	conflicts := must(canon.Conflicts(g, a))
	if (got.err == api.OK) != (len(conflicts) == 0) || got.err != api.OK && got.err != api.ErrReport {
		t.Fatal("P20.9:", g, got, conflicts)
	}
	if forced.err != api.OK {
		seen["nothing is forced"]++
		return nil
	}
	v := heldOfLoad(t, code, forced.frame)
	if v.Made() != (forced.at == 0) || v.Made() != (got.err == api.OK) {
		t.Fatal("P20.9: what is forced:", g, forced)
	}
	if !v.Made() {
		seen["with a report"]++
		return nil
	}
	return heldOfLoad(t, text, got.frame)
}

func seenAll(t *testing.T, seen map[string]int, least int, names ...string) {
	t.Helper()
	for _, name := range names {
		if seen[name] < least {
			t.Error("too seldom:", name, seen)
		}
	}
}

// P20.7 to P20.10: every small grammar.
func TestSmall(t *testing.T) {
	seen := map[string]int{}
	eachSmall(func(g api.Grammar) {
		if v := heldOfGrammar(t, g, seen); v != nil {
			heldOfLoaded(t, v, 3, seen)
		}
	})
	seenAll(t, seen, 1000, "taken", "accepted", "refused")
	seenAll(t, seen, 300, "with a report")
}

// P20.7 to P20.10: greater ones, with levels.
func TestAny(t *testing.T) {
	r := rand.New(rand.NewSource(207))
	seen := map[string]int{}
	for range 6000 {
		if v := heldOfGrammar(t, anyWell(r, 3, 4, 7, 4), seen); v != nil {
			heldOfLoaded(t, v, 3, seen)
		}
	}
	seenAll(t, seen, 300, "taken", "with a report", "accepted", "refused")
	seenAll(t, seen, 3, "nothing is forced")
}

// P20.2, P20.10: grammars that may be, well-formed or not.
func TestAnyThatMayBe(t *testing.T) {
	r := rand.New(rand.NewSource(202))
	seen := map[api.Errno]int{}
	for range 20000 {
		g := anyGrammar(r, 3, 3, 5, 3)
		if e, at := grammar.Check(g); e != api.OK {
			t.Fatal(g, e, at)
		}
		got := compile(codeOf(g))
		seen[got.err]++
		if !compile(textOf(g)).same(got) {
			t.Fatal("P20.10:", g)
		}
		e, s := trim.Well(g)
		if e == api.OK {
			continue
		}
		place := s.N
		if s.Kind == api.SymNon {
			place = len(g.Terms) + 1 + s.N
		}
		if !got.isFault(e, place) || !force(codeOf(g)).isFault(e, place) {
			t.Fatal("P20.2:", g, got, e, s)
		}
	}
	for _, e := range []api.Errno{api.OK, api.ErrReport, api.ErrBarren, api.ErrUnreached, api.ErrCycle} {
		if seen[e] < 50 {
			t.Error("too seldom:", e, seen)
		}
	}
}

// people are grammars of people.
func people() []string {
	return []string{
		"E : E '+' T | T ; T : T '*' F | F ; F : '(' E ')' | 'n' ;",
		"S : S 'a' | %empty ;",
		"S : 'a' S | %empty ;",
		"S : A B 'c' ; A : 'a' | %empty ; B : 'b' | %empty ;",
		"S : L '=' R | R ; L : '*' R | 'x' ; R : L ;",
		"%term s n t f u V : '{' M '}' | '[' L ']' | s | n | t | f | u ; M : N | %empty ; N : N ',' P | P ; P : s ':' V ; L : K | %empty ; K : K ',' V | V ;",
		"P : B ; B : '{' D T '}' ; D : D 'int' 'id' ';' | %empty ; T : T C | %empty ; C : 'id' '=' E ';' | 'while' '(' E ')' C | B | 'do' C 'while' '(' E ')' ';' ; E : E '<' A | A ; A : A '+' M | M ; M : M '*' U | U ; U : '-' U | 'id' | '(' E ')' ;",
	}
}

// P20.7, P20.8: longer words of grammars of people, whole, cut off, and with a token changed.
func TestPeople(t *testing.T) {
	r := rand.New(rand.NewSource(208))
	seen := map[string]int{}
	for _, text := range people() {
		g := readOf(t, text)
		v := heldOfGrammar(t, g, seen)
		if v == nil {
			t.Fatal("P20.9:", text)
		}
		for length := range 15 {
			for _, l := range must(sentence.Words(g, g.Start, length, 40)) {
				w := tokens(l...)
				if how := heldOfText(t, v, w); how != "accepted" {
					t.Error("P20.8:", text, l)
				}
				seen[heldOfText(t, v, w[:r.Intn(length+1)])]++
				if length > 0 {
					w[r.Intn(length)].Kind = r.Intn(len(g.Terms) + 1)
					seen[heldOfText(t, v, w)]++
				}
			}
		}
	}
	seenAll(t, seen, 100, "accepted", "refused")
}

// P20.9: a grammar that is LR(1), but not LALR(1): Compile reports, though Load takes a bundle by Knuth's automaton.
func TestKnuth(t *testing.T) {
	text := "%term a b c d e S : a A d | b B d | a B e | b A e ; A : c ; B : c ;"
	g := readOf(t, text)
	if got := compile([]byte(text)); got.err != api.ErrReport || got.at != 2 || len(got.report.Undecided) != 2 {
		t.Error("P20.9:", got)
	}
	a := must(canon.Canonical(g))
	y, _, _, e := table.Build(g, a)
	frame := must(bundle.Encode(api.Bundle{Table: must(y, e), Cert: must(cert.Make(g, a, y))}))
	v := heldOfLoad(t, []byte(text), frame)
	if !v.Made() {
		t.Fatal("P20.4: it is not taken")
	}
	seen := map[string]int{}
	heldOfLoaded(t, v, 4, seen)
	if seen["accepted"] != 4 {
		t.Error("P20.8:", seen)
	}
}

// bodyOf is what stands in a frame.
func bodyOf(kind byte, frame []byte) []byte {
	body, e, _ := codec.Open(kind, frame)
	return must(body, e)
}

// turned is a frame in whose body some bytes are others, cut out or put in; its sum is right.
func turned(r *rand.Rand, kind byte, frame []byte) []byte {
	body := slices.Clone(bodyOf(kind, frame))
	for range 1 + r.Intn(2) {
		at := r.Intn(len(body))
		switch r.Intn(8) {
		case 0:
			body = slices.Delete(body, at, at+1)
		case 1:
			body = slices.Insert(body, at, byte(r.Intn(256)))
		case 2:
			body[at] = byte(r.Intn(256))
		case 3:
			body[at] ^= byte(1 << r.Intn(8))
		case 4:
			other := r.Intn(len(body))
			body[at], body[other] = body[other], body[at]
		default:
			body[at] = byte(max(0, int(body[at])-1+r.Intn(3)))
		}
		if len(body) == 0 {
			body = []byte{0}
		}
	}
	return must(codec.Seal(kind, body))
}

// put is a list with a number more, rising.
func put(l []int, n int) []int {
	at, there := slices.BinarySearch(l, n)
	if there {
		return l
	}
	return slices.Insert(slices.Clone(l), at, n)
}

// claim changes what is claimed of one state, or what it does, within the shape.
func claim(r *rand.Rand, g api.Grammar, b *api.Bundle) {
	state := r.Intn(len(b.Table.Rows))
	row, past := &b.Table.Rows[state], b.Cert.PastStates[state]
	look := r.Intn(len(g.Terms) + 1)
	switch r.Intn(6) {
	case 0:
		if n := len(past); n > 0 {
			at := r.Intn(n)
			past[at] = put(past[at], r.Intn(len(b.Table.Rows)))
		}
	case 1:
		l := b.Cert.Items[state]
		at := r.Intn(len(l))
		l[at].Look = put(l[at].Look, look)
	case 2:
		if n := len(b.Cert.PastSyms[state]); n > 0 {
			b.Cert.PastSyms[state] = b.Cert.PastSyms[state][:n-1]
			b.Cert.PastStates[state] = past[:n]
		}
	case 3:
		if row.Default != -1 {
			row.Acts = slices.Repeat([]api.Action{{Kind: api.ActReduce, Arg: row.Default}}, len(row.Acts))
			row.Default = -1
		}
	case 4:
		if row.Default == -1 && row.Acts[look] == (api.Action{}) {
			row.Acts[look] = api.Action{Kind: api.ActReduce, Arg: r.Intn(len(g.Prods))}
		}
	case 5:
		at := r.Intn(len(g.Nons))
		b.Cert.First[at] = put(b.Cert.First[at], r.Intn(len(g.Terms)))
	}
}

// claimed is the frame of a bundle that claims more or less, or does something else, than the one of that frame.
func claimed(r *rand.Rand, g api.Grammar, frame []byte) []byte {
	b, e, _ := bundle.Decode(frame)
	b = must(b, e)
	for range 1 + r.Intn(3) {
		claim(r, g, &b)
	}
	return must(bundle.Encode(b))
}

// P20.7, P20.8: bundles and grammars of hostile hands, whose sums are right: what is taken keeps the laws.
func TestHostile(t *testing.T) {
	r := rand.New(rand.NewSource(2077))
	seen := map[string]int{}
	errors := map[api.Errno]int{}
	for range 1500 {
		g := anyWell(r, 2, 3, 5, 3)
		got := force(codeOf(g))
		if got.err != api.OK {
			continue
		}
		for range 60 {
			code, frame := codeOf(g), got.frame
			switch r.Intn(4) {
			case 0:
				frame = claimed(r, g, frame)
			case 1, 2:
				frame = turned(r, 2, frame)
			}
			if r.Intn(3) == 0 {
				code = turned(r, 1, code)
			}
			v := heldOfLoad(t, code, frame)
			if v == nil {
				_, e, _ := pgen.Load(code, frame)
				errors[e]++
				continue
			}
			if !slices.Equal(frame, got.frame) {
				seen["turned"]++
			}
			heldOfLoaded(t, v, 2, seen)
		}
	}
	seenAll(t, seen, 200, "turned", "taken", "accepted", "refused")
	for _, e := range []api.Errno{api.ErrShape, api.ErrCert, api.ErrIncoming, api.ErrPast, api.ErrReduce, api.ErrGoto, api.ErrClosure, api.ErrAction, api.ErrInitial, api.ErrWell, api.ErrTail, api.ErrShort, api.ErrRange} {
		if errors[e] < 10 {
			t.Error("too seldom:", e, errors)
		}
	}
}

// P20.7: no bytes at all of the right form.
func TestAnyBytes(t *testing.T) {
	r := rand.New(rand.NewSource(20777))
	heads := []string{"", "g", "gtr", "gtr\x01", "gtr\x02", "S : ", "%term a S : a ;", nest}
	for range 50000 {
		g, b := []byte(pick(r, heads)), []byte(pick(r, heads))
		for range r.Intn(12) {
			g = append(g, pick(r, []byte("S:;|'x %a\x00\x01\x02\xff")))
		}
		for range r.Intn(20) {
			b = append(b, byte(r.Intn(256)>>r.Intn(8)))
		}
		if v := heldOfLoad(t, g, b); v != nil {
			t.Fatal("P20.7: taken:", g, b)
		}
		got := compile(g)
		if (got.err == api.OK) != (len(got.frame) > 0) {
			t.Fatal("P20.2:", g, got)
		}
	}
}

// FuzzLoad lets bytes be a grammar, a bundle's body and a text: what is taken keeps the laws, what is compiled is taken.
func FuzzLoad(f *testing.F) {
	for _, text := range []string{nest, sums, leftSums, "S : 'a' S | ;"} {
		made := force([]byte(text))
		f.Add([]byte(text), bodyOf(2, made.frame), []byte{0, 1, 2})
		g, _, _ := pgen.ReadGrammar([]byte(text))
		f.Add(codeOf(g), bodyOf(2, made.frame), []byte{1, 1})
	}
	f.Fuzz(func(t *testing.T, g, body, text []byte) {
		var w []api.Token
		for _, b := range text[:min(len(text), 8)] {
			w = append(w, api.Token{Kind: int(b%8) - 1, Text: string(b)})
		}
		if len(g) > 300 || len(body) > api.MaxBytes {
			return
		}
		pgen.Load(g, body)
		if v := heldOfLoad(t, g, must(codec.Seal(2, body))); v != nil {
			heldOfText(t, v, w)
		}
		got := compile(g)
		if got.err != api.OK {
			return
		}
		v := heldOfLoad(t, g, got.frame)
		if v == nil {
			t.Fatal("P20.9:", g)
		}
		heldOfText(t, v, w)
	})
}
