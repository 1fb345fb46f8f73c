package bundle

import (
	"gantry/api"
	"gantry/codec"
)

// encoder lays a bundle down, part by part.
type encoder struct {
	bundle api.Bundle
	writer *codec.Writer
	// wrong tells that the bundle may not be.
	wrong bool
	// numbers is how many the form has so far; each takes a byte at least.
	numbers int
}

// parts is what lays the body down, in order.
func (c *encoder) parts() []func() {
	return []func(){c.table, c.claims, c.items, c.incoming, c.past}
}

func (c *encoder) table() {
	rows := c.bundle.Table.Rows
	var first api.Row
	if len(rows) > 0 {
		first = rows[0]
	}
	c.number(len(rows))
	c.number(len(first.Acts))
	c.number(len(first.Gotos))
	writeEach(c, rows, func(r api.Row) {
		c.need(len(r.Acts) == len(first.Acts) && len(r.Gotos) == len(first.Gotos))
		c.row(r)
	})
}

func (c *encoder) claims() {
	writeList(c, c.bundle.Cert.Nullable, c.flag)
	writeList(c, c.bundle.Cert.First, c.list)
}

func (c *encoder) items() {
	writeList(c, c.bundle.Cert.Items, c.state)
}

func (c *encoder) incoming() {
	c.symbols(c.bundle.Cert.Incoming)
}

func (c *encoder) past() {
	writeList(c, c.bundle.Cert.PastSyms, c.symbols)
	writeList(c, c.bundle.Cert.PastStates, c.lists)
}

func (c *encoder) row(r api.Row) {
	c.within(-1, r.Default)
	c.within(-1, r.Gotos...)
	c.orNone(r.Default)
	writeEach(c, r.Acts, c.action)
	writeEach(c, r.Gotos, c.orNone)
}

func (c *encoder) action(a api.Action) {
	n, ok := actionNumber(a)
	c.need(ok)
	c.within(0, a.Arg)
	c.number(n)
}

func (c *encoder) state(l []api.Item) {
	writeList(c, l, c.item)
}

func (c *encoder) item(i api.Item) {
	c.within(-1, i.Prod)
	c.within(0, i.Dot)
	c.orNone(i.Prod)
	c.number(i.Dot)
	c.list(i.Look)
}

func (c *encoder) symbols(l []api.Sym) {
	writeList(c, l, c.symbol)
}

func (c *encoder) symbol(s api.Sym) {
	n, ok := symbolNumber(s)
	c.need(ok)
	c.within(0, s.N)
	c.number(n)
}

func (c *encoder) lists(l [][]int) {
	writeList(c, l, c.list)
}

func (c *encoder) list(l []int) {
	c.within(0, l...)
	writeList(c, l, c.number)
}

func (c *encoder) flag(f bool) {
	if f {
		c.number(1)
		return
	}
	c.number(0)
}

// orNone lays a number down that may be -1.
func (c *encoder) orNone(n int) {
	c.number(n + 1)
}

// number lays one number down. What is too long already costs no memory, but is still gone over: that it may not be goes ahead of its length.
func (c *encoder) number(n int) {
	c.numbers++
	if !c.isLong() {
		c.writer.Int(n)
	}
}

// isLong tells whether there are more numbers than a body may have bytes.
func (c *encoder) isLong() bool {
	return c.numbers > api.MaxBytes
}

// within asks that numbers are from least to most.
func (c *encoder) within(least int, numbers ...int) {
	for _, n := range numbers {
		c.need(n >= least && n <= most)
	}
}

func (c *encoder) need(ok bool) {
	if !ok {
		c.wrong = true
	}
}

// writeList writes how many things there are, and these.
func writeList[T any](c *encoder, l []T, write func(T)) {
	c.number(len(l))
	writeEach(c, l, write)
}

// writeEach writes things one behind the other, as long as nothing is wrong.
func writeEach[T any](c *encoder, l []T, write func(T)) {
	for _, one := range l {
		if c.wrong {
			return
		}
		write(one)
	}
}
