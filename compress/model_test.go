package compress_test

import (
	"math"
	"math/big"
	"math/rand"
	"slices"
	"strconv"

	"gantry/api"
	"gantry/codec"
	"gantry/table"
)

const great = 1 << 30

func term(n int) api.Sym { return api.Sym{Kind: api.SymTerm, N: n} }
func non(n int) api.Sym  { return api.Sym{Kind: api.SymNon, N: n} }

func prod(left int, right ...api.Sym) api.Prod {
	return api.Prod{Left: left, Right: right, Prec: -1}
}

// to, by, accept and fault are the actions.
func to(state int) api.Action { return api.Action{Kind: api.ActShift, Arg: state} }
func by(prod int) api.Action  { return api.Action{Kind: api.ActReduce, Arg: prod} }

var accept, fault = api.Action{Kind: api.ActAccept}, api.Action{}

func acts(l ...api.Action) []api.Action { return l }

// looks is a row that looks, blind one that does not.
func looks(acts []api.Action, gotos ...int) api.Row {
	return api.Row{Default: -1, Acts: acts, Gotos: gotos}
}

func blind(prod, actions int, gotos ...int) api.Row {
	return api.Row{Default: prod, Acts: make([]api.Action, actions), Gotos: gotos}
}

func rows(l ...api.Row) api.Table { return api.Table{Rows: l} }

// numbered are that many names: the letter, and the numbers from 0 on behind it.
func numbered(letter string, n int) []string {
	var l []string
	for i := range n {
		l = append(l, letter+strconv.Itoa(i))
	}
	return l
}

func grammarOf(terms, nons, start int, prods ...api.Prod) api.Grammar {
	return api.Grammar{Terms: numbered("t", terms), Nons: numbered("n", nons), Start: start, Prods: prods}
}

// sized is a grammar of so many terminals, nonterminals and productions, that are of no other use.
func sized(terms, nons, prods int) api.Grammar {
	g := grammarOf(terms, nons, 0)
	for p := range prods {
		var right []api.Sym
		for p++; p > 0; p /= 2 {
			right = append(right, []api.Sym{term(0), non(0)}[p%2])
		}
		g.Prods = append(g.Prods, prod(0, right...))
	}
	return g
}

func must[T any](x T, e api.Errno) T {
	if e != api.OK {
		panic(e)
	}
	return x
}

func sameRow(a, b api.Row) bool {
	return a.Default == b.Default && slices.Equal(a.Acts, b.Acts) && slices.Equal(a.Gotos, b.Gotos)
}

func sameTable(a, b api.Table) bool { return slices.EqualFunc(a.Rows, b.Rows, sameRow) }

func same(a, b api.Packed) bool {
	return a.Terms == b.Terms && a.Nons == b.Nons && slices.Equal(a.Default, b.Default) &&
		slices.Equal(a.ActBase, b.ActBase) && slices.Equal(a.GotoBase, b.GotoBase) &&
		slices.Equal(a.Owner, b.Owner) && slices.Equal(a.Value, b.Value)
}

func isNone(p api.Packed) bool { return same(p, api.Packed{}) }

// clone is p in memory of its own.
func clone(p api.Packed) api.Packed {
	for _, l := range listsOf(&p) {
		*l = slices.Clone(*l)
	}
	return p
}

// listsOf are the lists of p.
func listsOf(p *api.Packed) []*[]int {
	return []*[]int{&p.Default, &p.ActBase, &p.GotoBase, &p.Owner, &p.Value}
}

// modelEntries are the entries of an owner: of each offset the value.
func modelEntries(t api.Table, owner int) map[int]int {
	l := map[int]int{}
	row := t.Rows[owner/2]
	for k, x := range row.Acts {
		switch {
		case owner%2 == 1 || x == fault:
		case x == accept:
			l[k] = 1
		case x == to(x.Arg):
			l[k] = 2 + 2*x.Arg
		default:
			l[k] = 3 + 2*x.Arg
		}
	}
	for n, state := range row.Gotos {
		if owner%2 == 1 && state != -1 {
			l[n] = state
		}
	}
	return l
}

// modelPack lays pieces one by one, as the chapter says it: those with most entries first, base by base, place by place.
func modelPack(g api.Grammar, t api.Table) (api.Packed, api.Errno) {
	if e, _ := table.Shape(g, t); e != api.OK {
		return api.Packed{}, e
	}
	n := len(t.Rows)
	p := api.Packed{Terms: len(g.Terms), Nons: len(g.Nons), ActBase: make([]int, n), GotoBase: make([]int, n)}
	for _, row := range t.Rows {
		p.Default = append(p.Default, row.Default)
	}
	type mark struct{ owner, value int }
	laid := map[int]mark{}
	last := -1
	for count := max(p.Terms+1, p.Nons); count > 0; count-- {
		for owner := range 2 * n {
			entries := modelEntries(t, owner)
			if len(entries) != count {
				continue
			}
			base := 0
			for fits := false; !fits; base++ {
				fits = true
				for k := range entries {
					if _, ok := laid[base+k]; ok {
						fits = false
						break
					}
				}
			}
			base--
			for k, value := range entries {
				laid[base+k] = mark{owner, value}
				last = max(last, base+k)
			}
			[][]int{p.ActBase, p.GotoBase}[owner%2][owner/2] = base
		}
	}
	for place := range last + 1 {
		m, ok := laid[place]
		if !ok {
			m = mark{-1, 0}
		}
		p.Owner = append(p.Owner, m.owner)
		p.Value = append(p.Value, m.value)
	}
	return p, api.OK
}

// modelCheck asks in the order of the chapter's words.
func modelCheck(p api.Packed) (api.Errno, int) {
	n := len(p.Default)
	if p.Terms < 1 || p.Terms > 64 || p.Nons < 1 || p.Nons > 64 || n < 1 || n > 2048 || n != len(p.ActBase) || n != len(p.GotoBase) {
		return api.ErrPacked, 0
	}
	if len(p.Owner) != len(p.Value) || len(p.Owner) > 1048576 {
		return api.ErrPacked, 0
	}
	for r, d := range p.Default {
		if d < -1 || d > 255 || min(p.ActBase[r], p.GotoBase[r]) < 0 || max(p.ActBase[r], p.GotoBase[r]) > 1048576 {
			return api.ErrPacked, r
		}
	}
	for place, owner := range p.Owner {
		ok := owner >= -1 && owner <= 2*n-1
		value := p.Value[place]
		switch {
		case !ok:
		case owner == -1:
			ok = value == 0
		case owner%2 == 0:
			r := owner / 2
			state, production := value >= 2 && value%2 == 0 && value <= 2*n, value >= 3 && value%2 == 1 && value <= 3+2*255
			ok = place >= p.ActBase[r] && place <= p.ActBase[r]+p.Terms && (value == 1 || state || production) && p.Default[r] == -1
		default:
			r := owner / 2
			ok = place >= p.GotoBase[r] && place <= p.GotoBase[r]+p.Nons-1 && value >= 0 && value <= n-1
		}
		if !ok {
			return api.ErrPacked, n + place
		}
	}
	return api.OK, 0
}

// modelAt goes over all places for the one that a base and a number make, whatever numbers they are.
func modelAt(p api.Packed, base, number, owner int) (int, bool) {
	sum := new(big.Int).Add(big.NewInt(int64(base)), big.NewInt(int64(number)))
	for place := range min(len(p.Owner), len(p.Value)) {
		if sum.Cmp(big.NewInt(int64(place))) == 0 && p.Owner[place] == owner {
			return p.Value[place], true
		}
	}
	return 0, false
}

func modelHas(p api.Packed, state int) bool {
	return state >= 0 && state < min(len(p.Default), len(p.ActBase), len(p.GotoBase))
}

func modelAction(p api.Packed, state, look int) api.Action {
	if !modelHas(p, state) {
		return fault
	}
	if p.Default[state] != -1 {
		return by(p.Default[state])
	}
	if look < 0 || look > p.Terms {
		return fault
	}
	value, ok := modelAt(p, p.ActBase[state], look, 2*state)
	switch {
	case !ok || value < 1:
		return fault
	case value == 1:
		return accept
	case value%2 == 0:
		return to(value/2 - 1)
	}
	return by((value - 3) / 2)
}

func modelGoto(p api.Packed, state, non int) int {
	if !modelHas(p, state) || non < 0 || non >= p.Nons {
		return -1
	}
	if value, ok := modelAt(p, p.GotoBase[state], non, 2*state+1); ok {
		return value
	}
	return -1
}

// modelUnpack asks what each state does.
func modelUnpack(p api.Packed) (api.Table, api.Errno) {
	if e, _ := modelCheck(p); e != api.OK {
		return api.Table{}, e
	}
	var t api.Table
	for r, d := range p.Default {
		row := blind(d, p.Terms+1)
		for k := range row.Acts {
			if d == -1 {
				row.Acts[k] = modelAction(p, r, k)
			}
		}
		for n := range p.Nons {
			row.Gotos = append(row.Gotos, modelGoto(p, r, n))
		}
		t.Rows = append(t.Rows, row)
	}
	return t, api.OK
}

// sealed is the frame of a body, and where the body begins in it.
func sealed(body []byte) ([]byte, int) {
	frame := must(codec.Seal(4, body))
	return frame, len(frame) - 4 - len(body)
}

// form is the form of numbers, one behind the other.
func form(numbers ...int) []byte {
	var b []byte
	for _, n := range numbers {
		u := uint64(n)
		for ; u > 127; u /= 128 {
			b = append(b, byte(u%128+128))
		}
		b = append(b, byte(u))
	}
	return b
}

// numbersOf is the body of p as numbers.
func numbersOf(p api.Packed) []int {
	l := []int{p.Terms, p.Nons, len(p.Default)}
	for r, d := range p.Default {
		l = append(l, d+1, p.ActBase[r], p.GotoBase[r])
	}
	l = append(l, len(p.Owner))
	for place, owner := range p.Owner {
		l = append(l, owner+1)
		if owner != -1 {
			l = append(l, p.Value[place])
		}
	}
	return l
}

// modelEncode is Encode by the model.
func modelEncode(p api.Packed) ([]byte, api.Errno) {
	if e, _ := modelCheck(p); e != api.OK {
		return nil, e
	}
	frame, _ := sealed(form(numbersOf(p)...))
	return frame, api.OK
}

// cursor goes over a body; it panics with a stop at the first error.
type cursor struct {
	body []byte
	at   int
}

type stop struct {
	e  api.Errno
	at int
}

// next reads a number.
func (c *cursor) next() int {
	n, size := uint64(0), 0
	for more := true; more; size++ {
		if c.at+size == len(c.body) {
			panic(stop{api.ErrShort, c.at})
		}
		x := c.body[c.at+size]
		more = x >= 128
		if size == 9 && x != 1 || x == 0 && size > 0 {
			panic(stop{api.ErrForm, c.at})
		}
		n += uint64(x%128) << (7 * size)
	}
	if n > great {
		panic(stop{api.ErrRange, c.at})
	}
	c.at += size
	return int(n)
}

// count reads how many things there are that take so many bytes.
func (c *cursor) count(least int) int {
	at := c.at
	n := c.next()
	if n*least > len(c.body)-c.at {
		panic(stop{api.ErrShort, at})
	}
	return n
}

// modelDecode is what a body holds, or its first error and the place in it.
func modelDecode(body []byte) (p api.Packed, e api.Errno, at int) {
	defer func() {
		if s, ok := recover().(stop); ok {
			p, e, at = api.Packed{}, s.e, s.at
		}
	}()
	c := &cursor{body: body}
	p.Terms = c.next()
	p.Nons = c.next()
	for range c.count(3) {
		p.Default = append(p.Default, c.next()-1)
		p.ActBase = append(p.ActBase, c.next())
		p.GotoBase = append(p.GotoBase, c.next())
	}
	for range c.count(1) {
		owner, value := c.next()-1, 0
		if owner != -1 {
			value = c.next()
		}
		p.Owner = append(p.Owner, owner)
		p.Value = append(p.Value, value)
	}
	if c.at < len(body) {
		panic(stop{api.ErrTail, c.at})
	}
	if e, _ := modelCheck(p); e != api.OK {
		panic(stop{e, 0})
	}
	return p, api.OK, 0
}

func pick[T any](r *rand.Rand, l []T) T { return l[r.Intn(len(l))] }

// anyAction is one of a table of so many rows; of ten so many are errors.
func anyAction(r *rand.Rand, g api.Grammar, rows, faults int) api.Action {
	if r.Intn(10) < faults {
		return fault
	}
	switch r.Intn(8) {
	case 0:
		return accept
	case 1, 2, 3:
		return by(r.Intn(len(g.Prods)))
	}
	return to(r.Intn(rows))
}

// anyTable is a table of so many rows that has the shape, and no more; some rows are nearly full, some nearly empty.
func anyTable(r *rand.Rand, g api.Grammar, n int) api.Table {
	var t api.Table
	for range n {
		row := blind(r.Intn(len(g.Prods)), len(g.Terms)+1)
		faults := r.Intn(11)
		for range g.Nons {
			state := r.Intn(n)
			if r.Intn(10) < faults {
				state = -1
			}
			row.Gotos = append(row.Gotos, state)
		}
		if r.Intn(5) > 0 {
			row.Default = -1
			for look := range row.Acts {
				row.Acts[look] = anyAction(r, g, n, faults)
			}
		}
		t.Rows = append(t.Rows, row)
	}
	return t
}

// anyGrammar is one of any size up to so many terminals and nonterminals.
func anyGrammar(r *rand.Rand, terms, nons int) api.Grammar {
	return sized(1+r.Intn(terms), 1+r.Intn(nons), 1+r.Intn(20))
}

// odd are numbers that are near to a bound, or far from all.
func odd(r *rand.Rand, size int) int {
	return pick(r, []int{-2, -1, 0, 1, 2, 3, size - 1, size, size + 1, 2*size - 1, 2 * size, 2*size + 1, 64, 65, 255, 256, 513, 515, 1 << 20, 1<<20 + 1, great, math.MinInt, math.MaxInt})
}

// turn makes one number of p another one, or a list longer or shorter.
func turn(r *rand.Rand, p *api.Packed) {
	if r.Intn(8) == 0 {
		n := pick(r, []*int{&p.Terms, &p.Nons})
		*n = pick(r, []int{*n + 1, *n - 1, odd(r, 64)})
		return
	}
	l := pick(r, listsOf(p))
	switch at := r.Intn(len(*l) + 1); {
	case r.Intn(12) == 0:
		*l = slices.Insert(*l, at, odd(r, len(p.Default)))
	case at == len(*l):
	case r.Intn(12) == 0:
		*l = slices.Delete(*l, at, at+1)
	case r.Intn(3) == 0:
		(*l)[at] += r.Intn(5) - 2
	default:
		(*l)[at] = odd(r, len(p.Default))
	}
}

// anyPacked is a packed table with so many numbers turned.
func anyPacked(r *rand.Rand, turns int) api.Packed {
	g := anyGrammar(r, 4, 3)
	p := must(modelPack(g, anyTable(r, g, 1+r.Intn(5))))
	for range turns {
		turn(r, &p)
	}
	return p
}
