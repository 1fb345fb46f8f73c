package bundle_test

import (
	"math"
	"math/rand"
	"slices"
	"strings"

	"gantry/api"
	"gantry/codec"
)

const great = 1 << 30

func term(n int) api.Sym { return api.Sym{Kind: api.SymTerm, N: n} }
func non(n int) api.Sym  { return api.Sym{Kind: api.SymNon, N: n} }

func must[T any](x T, e api.Errno) T {
	if e != api.OK {
		panic(e)
	}
	return x
}

// sealed is the frame of a body, and where the body begins in it.
func sealed(body []byte) ([]byte, int) {
	frame := must(codec.Seal(2, body))
	return frame, len(frame) - 4 - len(body)
}

// form is the form of numbers, one behind the other.
func form(numbers ...uint64) []byte {
	var b []byte
	for _, n := range numbers {
		for ; n > 127; n /= 128 {
			b = append(b, byte(n%128+128))
		}
		b = append(b, byte(n))
	}
	return b
}

// modelNumbers is the body of a bundle as numbers, and whether the bundle may be, but for its length; by the chapter's words, one after the other, with as little in common with the program as may be.
func modelNumbers(b api.Bundle) ([]uint64, bool) {
	var l []uint64
	ok := true
	put := func(n, least, times, plus int) {
		ok = ok && n >= least && n <= great
		l = append(l, uint64(times*n+plus))
	}
	count := func(n int) { l = append(l, uint64(n)) }
	syms := func(all []api.Sym) {
		count(len(all))
		for _, s := range all {
			switch s.Kind {
			case 0:
				ok = ok && s.N == 0
				count(0)
			case 1:
				put(s.N, 0, 2, 1)
			case 2:
				put(s.N, 0, 2, 2)
			default:
				ok = false
			}
		}
	}
	ints := func(all []int) {
		count(len(all))
		for _, n := range all {
			put(n, 0, 1, 0)
		}
	}
	count(len(b.Table.Rows))
	acts, gotos := 0, 0
	for n, r := range b.Table.Rows {
		if n == 0 {
			acts, gotos = len(r.Acts), len(r.Gotos)
		}
		ok = ok && acts == len(r.Acts) && gotos == len(r.Gotos)
	}
	count(acts)
	count(gotos)
	for _, r := range b.Table.Rows {
		put(r.Default, -1, 1, 1)
		for _, a := range r.Acts {
			switch a.Kind {
			case 0:
				ok = ok && a.Arg == 0
				count(0)
			case 1:
				put(a.Arg, 0, 2, 2)
			case 2:
				put(a.Arg, 0, 2, 3)
			case 3:
				ok = ok && a.Arg == 0
				count(1)
			default:
				ok = false
			}
		}
		for _, n := range r.Gotos {
			put(n, -1, 1, 1)
		}
	}
	count(len(b.Cert.Nullable))
	for _, f := range b.Cert.Nullable {
		count(strings.Index("ft", map[bool]string{true: "t", false: "f"}[f]))
	}
	count(len(b.Cert.First))
	for _, all := range b.Cert.First {
		ints(all)
	}
	count(len(b.Cert.Items))
	for _, state := range b.Cert.Items {
		count(len(state))
		for _, i := range state {
			put(i.Prod, -1, 1, 1)
			put(i.Dot, 0, 1, 0)
			ints(i.Look)
		}
	}
	syms(b.Cert.Incoming)
	count(len(b.Cert.PastSyms))
	for _, all := range b.Cert.PastSyms {
		syms(all)
	}
	count(len(b.Cert.PastStates))
	for _, state := range b.Cert.PastStates {
		count(len(state))
		for _, all := range state {
			ints(all)
		}
	}
	return l, ok
}

// modelEncode is Encode by the model.
func modelEncode(b api.Bundle) ([]byte, api.Errno) {
	numbers, ok := modelNumbers(b)
	if !ok {
		return nil, api.ErrBundle
	}
	body := form(numbers...)
	if len(body) > api.MaxBytes {
		return nil, api.ErrLong
	}
	frame, _ := sealed(body)
	return frame, api.OK
}

// cursor goes over a body; it panics with a stop at the first error.
type cursor struct {
	body []byte
	at   int
}

type stop struct {
	e  api.Errno
	at int
}

// next reads a number from 0 to bound.
func (c *cursor) next(bound uint64) int {
	n, size := uint64(0), 0
	for more := true; more; size++ {
		if c.at+size == len(c.body) {
			panic(stop{api.ErrShort, c.at})
		}
		x := c.body[c.at+size]
		more = x >= 128
		if size == 9 && x != 1 || x == 0 && size > 0 {
			panic(stop{api.ErrForm, c.at})
		}
		n += uint64(x%128) << (7 * size)
	}
	if n > bound {
		panic(stop{api.ErrRange, c.at})
	}
	c.at += size
	return int(n)
}

// times reads a count, and calls as often.
func (c *cursor) times(do func()) {
	at := c.at
	n := c.next(great)
	if n > len(c.body)-c.at {
		panic(stop{api.ErrShort, at})
	}
	for range n {
		do()
	}
}

func (c *cursor) ints() []int {
	var l []int
	c.times(func() { l = append(l, c.next(great)) })
	return l
}

func (c *cursor) syms() []api.Sym {
	var l []api.Sym
	c.times(func() {
		switch n := c.next(2*great + 2); {
		case n == 0:
			l = append(l, api.Sym{})
		case n%2 == 1:
			l = append(l, term(n/2))
		default:
			l = append(l, non(n/2-1))
		}
	})
	return l
}

func (c *cursor) rows() []api.Row {
	var l []api.Row
	rows, acts := c.next(great), c.next(great)
	at := c.at
	gotos := c.next(great)
	all := float64(rows) * float64(1+acts+gotos)
	if all > float64(len(c.body)-c.at) || rows == 0 && acts != 0 || rows == 0 && gotos != 0 {
		panic(stop{api.ErrShort, at})
	}
	for range rows {
		r := api.Row{Default: c.next(great+1) - 1}
		for range acts {
			n := c.next(2*great + 3)
			a := api.Action{Kind: api.ActKind(1 + n%2), Arg: n/2 - 1}
			if n < 2 {
				a = api.Action{Kind: api.ActKind(3 * n)}
			}
			r.Acts = append(r.Acts, a)
		}
		for range gotos {
			r.Gotos = append(r.Gotos, c.next(great+1)-1)
		}
		l = append(l, r)
	}
	return l
}

func (c *cursor) cert() api.Cert {
	var x api.Cert
	c.times(func() { x.Nullable = append(x.Nullable, c.next(1) == 1) })
	c.times(func() { x.First = append(x.First, c.ints()) })
	c.times(func() {
		var state []api.Item
		c.times(func() { state = append(state, api.Item{Prod: c.next(great+1) - 1, Dot: c.next(great), Look: c.ints()}) })
		x.Items = append(x.Items, state)
	})
	x.Incoming = c.syms()
	c.times(func() { x.PastSyms = append(x.PastSyms, c.syms()) })
	c.times(func() {
		var state [][]int
		c.times(func() { state = append(state, c.ints()) })
		x.PastStates = append(x.PastStates, state)
	})
	return x
}

// modelDecode is what a body holds, or its first error and the place in it.
func modelDecode(body []byte) (b api.Bundle, e api.Errno, at int) {
	defer func() {
		if s, ok := recover().(stop); ok {
			b, e, at = api.Bundle{}, s.e, s.at
		}
	}()
	c := &cursor{body: body}
	b.Table.Rows = c.rows()
	b.Cert = c.cert()
	if c.at < len(body) {
		panic(stop{api.ErrTail, c.at})
	}
	return b, api.OK, 0
}

func sameItem(a, b api.Item) bool {
	return a.Prod == b.Prod && a.Dot == b.Dot && slices.Equal(a.Look, b.Look)
}

func sameRow(a, b api.Row) bool {
	return a.Default == b.Default && slices.Equal(a.Acts, b.Acts) && slices.Equal(a.Gotos, b.Gotos)
}

func sameLists(a, b [][]int) bool { return slices.EqualFunc(a, b, slices.Equal) }

func same(a, b api.Bundle) bool {
	sameItems := func(a, b []api.Item) bool { return slices.EqualFunc(a, b, sameItem) }
	c, d := a.Cert, b.Cert
	return slices.EqualFunc(a.Table.Rows, b.Table.Rows, sameRow) &&
		slices.Equal(c.Nullable, d.Nullable) && sameLists(c.First, d.First) &&
		slices.EqualFunc(c.Items, d.Items, sameItems) && slices.Equal(c.Incoming, d.Incoming) &&
		slices.EqualFunc(c.PastSyms, d.PastSyms, slices.Equal) &&
		slices.EqualFunc(c.PastStates, d.PastStates, sameLists)
}

func isNothing(b api.Bundle) bool { return same(b, api.Bundle{}) }

// things is how many there are in a bundle: elements of lists, and the numbers in them.
func things(b api.Bundle) int {
	n := len(b.Cert.Nullable) + len(b.Cert.Incoming)
	for _, r := range b.Table.Rows {
		n += 1 + len(r.Acts) + len(r.Gotos)
	}
	lists := func(all [][]int) {
		n += len(all)
		for _, l := range all {
			n += len(l)
		}
	}
	lists(b.Cert.First)
	for _, state := range b.Cert.Items {
		n += 1
		for _, i := range state {
			n += 3 + len(i.Look)
		}
	}
	for _, l := range b.Cert.PastSyms {
		n += 1 + len(l)
	}
	for _, l := range b.Cert.PastStates {
		n++
		lists(l)
	}
	return n
}

// maker makes bundles of all sorts; with a strange one some numbers may not be.
type maker struct {
	*rand.Rand
	strange bool
}

func listOf[T any](m maker, most int, one func() T) []T {
	n := m.Intn(most + 1)
	return repeat(n, one)
}

func repeat[T any](n int, one func() T) []T {
	l := make([]T, 0, n+3)
	for range n {
		l = append(l, one())
	}
	return l
}

// number is mostly small, seldom at the edges; if it is strange, very seldom beyond them.
func (m maker) number(least int) int {
	if m.strange && m.Intn(60) == 0 {
		return []int{least - 1, least - 2, -7, great + 1, great + 2, 2 * great, math.MinInt, math.MaxInt}[m.Intn(8)]
	}
	switch m.Intn(20) {
	case 0:
		return great
	case 1:
		return least
	case 2:
		return m.Intn(great)
	}
	return m.Intn(200)
}

func (m maker) index() int  { return m.number(0) }
func (m maker) orNone() int { return m.number(-1) }
func (m maker) flag() bool  { return m.Intn(2) == 0 }

func (m maker) action() api.Action {
	if m.strange && m.Intn(60) == 0 {
		return api.Action{Kind: api.ActKind(m.Intn(7) - 2), Arg: m.Intn(3) - 1}
	}
	a := api.Action{Kind: api.ActKind(m.Intn(4))}
	if a.Kind == api.ActShift || a.Kind == api.ActReduce {
		a.Arg = m.index()
	}
	return a
}

func (m maker) symbol() api.Sym {
	if m.strange && m.Intn(60) == 0 {
		return api.Sym{Kind: api.SymKind(m.Intn(6) - 2), N: m.Intn(3) - 1}
	}
	s := api.Sym{Kind: api.SymKind(m.Intn(3))}
	if s.Kind != 0 {
		s.N = m.index()
	}
	return s
}

func (m maker) item() api.Item {
	return api.Item{Prod: m.orNone(), Dot: m.index(), Look: m.ints()}
}

func (m maker) ints() []int     { return listOf(m, 3, m.index) }
func (m maker) lists() [][]int  { return listOf(m, 3, m.ints) }
func (m maker) syms() []api.Sym { return listOf(m, 3, m.symbol) }

func (m maker) items() []api.Item { return listOf(m, 3, m.item) }

func (m maker) bundle() api.Bundle {
	var b api.Bundle
	acts, gotos := m.Intn(4), m.Intn(4)
	b.Table.Rows = listOf(m, 4, func() api.Row {
		if m.strange && m.Intn(20) == 0 {
			acts += m.Intn(2)
			gotos += m.Intn(2)
		}
		return api.Row{Default: m.orNone(), Acts: repeat(acts, m.action), Gotos: repeat(gotos, m.orNone)}
	})
	b.Cert = api.Cert{
		Nullable: listOf(m, 4, m.flag), First: m.lists(), Items: listOf(m, 4, m.items), Incoming: m.syms(),
		PastSyms: listOf(m, 4, m.syms), PastStates: listOf(m, 4, m.lists),
	}
	return b
}
