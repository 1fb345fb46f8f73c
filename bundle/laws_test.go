package bundle_test

import (
	"bytes"
	"math/rand"
	"slices"
	"strconv"
	"testing"

	"gantry/api"
	"gantry/bundle"
	"gantry/cert"
	"gantry/lookahead"
	"gantry/lrzero"
	"gantry/notation"
	"gantry/table"
)

// bundlesOf is what is made of a grammar: its table as it is built and with Defaults, each beside its certificate.
func bundlesOf(t *testing.T, text string) []api.Bundle {
	t.Helper()
	g, e, at := notation.Parse(text)
	if e != api.OK {
		t.Fatal(text, e, at)
	}
	a := must(cert.Close(g, must(lrzero.Build(g))))
	plain, _, _, e := table.Build(g, a)
	if e != api.OK {
		t.Fatal(text, e)
	}
	var l []api.Bundle
	for _, x := range []api.Table{plain, must(table.Defaults(g, plain))} {
		l = append(l, api.Bundle{Table: x, Cert: must(cert.Make(g, a, x))})
	}
	return l
}

// P17.1, P17.3, P17.4: what chapters 15 and 16 make, there and back.
func TestMadeBundles(t *testing.T) {
	terms, rules := "%term t", " S : t"
	for n := range 60 {
		name := " t" + strconv.Itoa(n)
		terms += name
		rules += " | S" + name
	}
	for _, text := range []string{
		"S : '(' S ')' | 'x' ;",
		"%left '+' E : E '+' E | 'n' ;",
		"E : E '+' T | T ; T : T '*' F | F ; F : '(' E ')' | 'n' ;",
		"L : L 'x' | ;",
		"S : A B C ; A : 'a' | ; B : 'b' | ; C : 'c' | ;",
		"S : ; T : 'a' ;",
		terms + rules + " ;",
	} {
		for _, b := range bundlesOf(t, text) {
			if e := heldOfBundle(t, b); e != api.OK {
				t.Error(text, e)
			}
			if frame := must(bundle.Encode(b)); things(b) > len(frame) {
				t.Error(text, "more things than bytes")
			}
		}
	}
}

// P17.3: a bundle is taken as such, whoever made it: items that there are not, numbers that do not rise, lists that are not as many.
func TestWhoeverMade(t *testing.T) {
	b := api.Bundle{
		Table: api.Table{Rows: []api.Row{{Default: 77, Acts: []api.Action{{Kind: api.ActShift, Arg: 9000}}}}},
		Cert: api.Cert{
			First: [][]int{{3, 3, 1}}, Items: [][]api.Item{{{Prod: 5, Dot: 99, Look: []int{2, 1}}, {Prod: -1}}}, Incoming: []api.Sym{non(1 << 20), term(7), {}},
			PastStates: [][][]int{{{4, 4}}, {}, {}, {}},
		},
	}
	if e := heldOfBundle(t, b); e != api.OK {
		t.Error(e)
	}
}

// P17.3: two bundles that are not the same have not the same bytes, and one without its nils has those of the one with them.
func TestOneForm(t *testing.T) {
	m := maker{Rand: rand.New(rand.NewSource(1704))}
	seen := map[string]api.Bundle{}
	for range 3000 {
		b := m.bundle()
		frame := string(must(bundle.Encode(b)))
		if other, ok := seen[frame]; ok && !same(b, other) {
			t.Fatal(b, other)
		}
		seen[frame] = b
		back, _, _ := bundle.Decode([]byte(frame))
		if again := must(bundle.Encode(back)); string(again) != frame {
			t.Fatalf("%v: % x, % x", b, frame, again)
		}
	}
}

// P17.4, G5: bodies that are as many things as they can be, or say that they are, make nobody ask for more memory than a fixed multiple of the bytes.
func TestMemoryAskedFor(t *testing.T) {
	const size = 1 << 20
	fill := func(c byte, head ...uint64) []byte {
		b := form(head...)
		return append(b, bytes.Repeat([]byte{c}, size-len(b))...)
	}
	left := uint64(size - 64)
	for n, body := range [][]byte{
		fill(0),
		fill(0, left, 0, 0),           // rows of one byte each
		fill(0, left/2, 1, 0),         // with an action
		fill(0, 1, left/2, left/2-99), // with many
		fill(0, 1<<30, 1<<30, 1<<30),
		fill(0, 0, 0, 0, left),
		fill(0, 0, 0, 0, 0, left),
		fill(0xff, 0, 0, 0, 0, left, left),
		fill(0, 0, 0, 0, 0, 0, left),
		fill(0, 0, 0, 0, 0, 0, left, left),
		fill(0xff, 0, 0, 0, 0, 0, left, left, 1, 1, left),
		fill(0, 0, 0, 0, 0, 0, 0, left),
		fill(0, 0, 0, 0, 0, 0, 0, 0, left),
		fill(0xff, 0, 0, 0, 0, 0, 0, 0, left, left),
		fill(0, 0, 0, 0, 0, 0, 0, 0, 0, left),
		fill(1, 0, 0, 0, 0, 0, 0, 0, 0, left),
		fill(0xff, 0, 0, 0, 0, 0, 0, 0, 0, left, left, left),
	} {
		frame, _ := sealed(body)
		var b api.Bundle
		if asked := allocated(func() { b, _, _ = bundle.Decode(frame) }); asked > 100*uint64(len(frame)) {
			t.Errorf("%d: asked for %d bytes", n, asked)
		}
		if things(b) > len(frame) {
			t.Error(n, "more things than bytes:", things(b))
		}
	}
	full := append(form(0, 0, 0, 0, left), make([]byte, left+4)...)
	if e := heldOfBody(t, full); e != api.OK {
		t.Error(e)
	}
	small, _ := sealed(form(1<<20, 1<<20, 1<<20))
	if asked := allocated(func() { bundle.Decode(small) }); asked > 4096 {
		t.Error("a few bytes asked for", asked)
	}
}

// lists are all lists of a bundle, each with its spare room, by what they are of.
type lists struct {
	rows    [][]api.Row
	acts    [][]api.Action
	flags   [][]bool
	numbers [][]int
	ints    [][][]int
	states  [][][][]int
	items   [][]api.Item
	sets    [][][]api.Item
	syms    [][]api.Sym
	past    [][][]api.Sym
}

func listsOf(b api.Bundle) lists {
	c := b.Cert
	l := lists{
		rows: [][]api.Row{b.Table.Rows}, flags: [][]bool{c.Nullable}, ints: [][][]int{c.First}, states: [][][][]int{c.PastStates},
		sets: [][][]api.Item{c.Items}, syms: [][]api.Sym{c.Incoming}, past: [][][]api.Sym{c.PastSyms},
	}
	for _, r := range b.Table.Rows {
		l.acts = append(l.acts, r.Acts)
		l.numbers = append(l.numbers, r.Gotos)
	}
	l.numbers = append(l.numbers, c.First...)
	for _, state := range c.Items {
		l.items = append(l.items, state)
		for _, i := range state {
			l.numbers = append(l.numbers, i.Look)
		}
	}
	l.syms = append(l.syms, c.PastSyms...)
	for _, state := range c.PastStates {
		l.ints = append(l.ints, state)
		l.numbers = append(l.numbers, state...)
	}
	return l
}

// spoil writes a mark all over lists and their spare room, another into each, and tells whether each has its own still.
func spoil[T any](all [][]T, mark func(n int) T, is func(x T, n int) bool) bool {
	for n, l := range all {
		for at := range cap(l) {
			l[:cap(l)][at] = mark(n)
		}
	}
	for n, l := range all {
		if slices.ContainsFunc(l[:cap(l)], func(x T) bool { return !is(x, n) }) {
			return false
		}
	}
	return true
}

// spoilAll spoils all lists of a bundle, the innermost first, and tells whether no two shared memory.
func spoilAll(b api.Bundle) bool {
	l := listsOf(b)
	apart := true
	held := func(ok bool) { apart = apart && ok }
	held(spoil(l.acts, func(n int) api.Action { return api.Action{Arg: n + 7} }, func(x api.Action, n int) bool { return x.Arg == n+7 }))
	held(spoil(l.numbers, func(n int) int { return n - 9000 }, func(x, n int) bool { return x == n-9000 }))
	held(spoil(l.flags, func(int) bool { return true }, func(x bool, _ int) bool { return x }))
	held(spoil(l.syms, func(n int) api.Sym { return api.Sym{Kind: 9, N: n} }, func(x api.Sym, n int) bool { return x.N == n }))
	held(spoil(l.items, func(n int) api.Item { return api.Item{Prod: n + 5} }, func(x api.Item, n int) bool { return x.Prod == n+5 }))
	held(spoil(l.ints, func(n int) []int { return make([]int, n) }, func(x []int, n int) bool { return len(x) == n }))
	held(spoil(l.rows, func(int) api.Row { return api.Row{Default: -5} }, func(x api.Row, _ int) bool { return x.Default == -5 }))
	held(spoil(l.sets, func(int) []api.Item { return nil }, func(x []api.Item, _ int) bool { return x == nil }))
	held(spoil(l.past, func(int) []api.Sym { return nil }, func(x []api.Sym, _ int) bool { return x == nil }))
	held(spoil(l.states, func(int) [][]int { return nil }, func(x [][]int, _ int) bool { return x == nil }))
	return apart
}

// P17.5: Decode neither changes nor keeps b; its answers share no memory with it, nor with one another, nor within one; spare room too.
func TestMemoryOfDecode(t *testing.T) {
	m := maker{Rand: rand.New(rand.NewSource(1705))}
	for range 300 {
		b := m.bundle()
		frame := must(bundle.Encode(b))
		given := append(make([]byte, 0, len(frame)+9), frame...)
		one, _, _ := bundle.Decode(given)
		two, _, _ := bundle.Decode(given)
		if !bytes.Equal(given, frame) || !bytes.Equal(given[:cap(given)][len(frame):], make([]byte, cap(given)-len(frame))) {
			t.Fatal("Decode changed what it was given")
		}
		clear(given)
		if !same(one, b) {
			t.Fatal("Decode's answer shares memory with what it was given:", one, b)
		}
		if !spoilAll(one) {
			t.Fatal("two lists of one answer share memory:", b)
		}
		if !same(two, b) {
			t.Fatal("two answers share memory:", two, b)
		}
		if three, e, at := bundle.Decode(frame); e != api.OK || at != 0 || !same(three, b) {
			t.Fatal("an answer is kept:", three, e, at)
		}
	}
}

// deep is a bundle in memory of its own, with all that stands in its lists' spare room.
func deep(b api.Bundle) api.Bundle {
	whole := func(l [][]int) [][]int {
		l = slices.Clone(l[:cap(l)])
		for n := range l {
			l[n] = slices.Clone(l[n][:cap(l[n])])
		}
		return l
	}
	var d api.Bundle
	for _, r := range b.Table.Rows[:cap(b.Table.Rows)] {
		r.Acts, r.Gotos = slices.Clone(r.Acts[:cap(r.Acts)]), slices.Clone(r.Gotos[:cap(r.Gotos)])
		d.Table.Rows = append(d.Table.Rows, r)
	}
	c := b.Cert
	d.Cert = api.Cert{Nullable: slices.Clone(c.Nullable[:cap(c.Nullable)]), First: whole(c.First), Incoming: slices.Clone(c.Incoming[:cap(c.Incoming)])}
	for _, state := range c.Items[:cap(c.Items)] {
		state = slices.Clone(state[:cap(state)])
		for n, i := range state {
			state[n].Look = slices.Clone(i.Look[:cap(i.Look)])
		}
		d.Cert.Items = append(d.Cert.Items, state)
	}
	for _, l := range c.PastSyms[:cap(c.PastSyms)] {
		d.Cert.PastSyms = append(d.Cert.PastSyms, slices.Clone(l[:cap(l)]))
	}
	for _, l := range c.PastStates[:cap(c.PastStates)] {
		d.Cert.PastStates = append(d.Cert.PastStates, whole(l))
	}
	return d
}

// P17.5: Encode and Size neither change nor keep a bundle; Encode's answers share no memory.
func TestMemoryOfEncode(t *testing.T) {
	m := maker{Rand: rand.New(rand.NewSource(1706))}
	for n := range 600 {
		m.strange = n%2 == 1
		b := m.bundle() // with spare room in all its lists
		was := deep(b)
		want, wantE := modelEncode(b)
		one, _ := bundle.Encode(b)
		two, _ := bundle.Encode(b)
		bundle.Size(b)
		if !same(deep(b), was) {
			t.Fatal("Encode or Size changed what it was given:", b)
		}
		for at := range cap(one) {
			one[:cap(one)][at] = 0xee
		}
		if !bytes.Equal(two, want) {
			t.Fatal("two answers share memory")
		}
		if three, e := bundle.Encode(b); e != wantE || !bytes.Equal(three, want) {
			t.Fatal("an answer is kept")
		}
		spoilAll(b)
		if !bytes.Equal(two, want) {
			t.Fatal("Encode's answer shares memory with what it was given")
		}
	}
}

// P17.5: one list may stand in many places of what is handed in.
func TestSharedArguments(t *testing.T) {
	l := []int{3, 4, 5}
	row := api.Row{Default: 1, Acts: make([]api.Action, 2), Gotos: l}
	items := []api.Item{{Prod: 3, Look: l}, {Look: l[:2]}}
	syms := []api.Sym{term(1), non(2)}
	b := api.Bundle{
		Table: api.Table{Rows: []api.Row{row, row}},
		Cert: api.Cert{First: [][]int{l, l, l[1:]}, Items: [][]api.Item{items, items[1:], items}, Incoming: syms, PastSyms: [][]api.Sym{syms, syms[:1], syms},
			PastStates: [][][]int{{l, l}, {l[:1], l}, {l}}},
	}
	if e := heldOfBundle(t, b); e != api.OK {
		t.Error(e)
	}
	back, _, _ := bundle.Decode(must(bundle.Encode(b)))
	if !spoilAll(back) {
		t.Error("what was shared ahead is shared behind")
	}
}

// P3: the same again, and beside others.
func TestAgain(t *testing.T) {
	m := maker{Rand: rand.New(rand.NewSource(1707)), strange: true}
	var all []api.Bundle
	for range 200 {
		all = append(all, m.bundle())
	}
	done := make(chan string)
	for range 4 {
		go func() {
			fault := ""
			for _, b := range all {
				frame, e := bundle.Encode(b)
				want, wantE := modelEncode(b)
				if e != wantE || !bytes.Equal(frame, want) {
					fault = "Encode"
				}
				if back, f, _ := bundle.Decode(frame); e == api.OK && (f != api.OK || !same(back, b)) {
					fault = "Decode"
				}
			}
			done <- fault
		}()
	}
	for range 4 {
		if fault := <-done; fault != "" {
			t.Error(fault)
		}
	}
}

// P17.1: the greatest tables that there are: as many rows, actions and gotos as the limits let.
func TestGreatest(t *testing.T) {
	m := maker{Rand: rand.New(rand.NewSource(1708))}
	var b api.Bundle
	for range api.MaxStates {
		b.Table.Rows = append(b.Table.Rows, api.Row{Default: -1, Acts: repeat(api.MaxTerms+1, m.action), Gotos: repeat(api.MaxNons, m.orNone)})
		b.Cert.Items = append(b.Cert.Items, repeat(20, m.item))
	}
	if e := heldOfBundle(t, b); e != api.OK {
		t.Error(e)
	}
}

// P17.3: nothing of a bundle is left out of its form: one with other lookaheads, or one number more, has another.
func TestNothingIsLeftOut(t *testing.T) {
	g, _, _ := notation.Parse("S : '(' S ')' | 'x' ;")
	b := bundlesOf(t, "S : '(' S ')' | 'x' ;")[0]
	frame := must(bundle.Encode(b))
	other := b
	other.Cert.Items = must(lookahead.Attach(g)).States
	if bytes.Equal(must(bundle.Encode(other)), frame) {
		t.Error("items")
	}
	for n, p := range places() {
		x, y := some(), some()
		*p.of(&y)++
		if bytes.Equal(must(bundle.Encode(x)), must(bundle.Encode(y))) {
			t.Error("place", n)
		}
	}
}
