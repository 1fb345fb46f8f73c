package bundle

import (
	"slices"

	"gantry/api"
	"gantry/codec"
)

// decoder reads a bundle, part by part. Behind the first error all that it reads is nothing.
type decoder struct {
	bundle api.Bundle
	reader *codec.Reader
	// behind is how many bytes behind its place the error was found.
	behind int
}

// parts is what reads the body, in order.
func (d *decoder) parts() []func() {
	return []func(){d.table, d.claims, d.items, d.incoming, d.past}
}

// end answers the first error, and its place in the body.
func (d *decoder) end() (api.Errno, int) {
	e, at := d.reader.End()
	return e, at - d.behind
}

func (d *decoder) table() {
	rows, acts := d.number(), d.number()
	at := d.reader.At()
	gotos := d.number()
	if !holds(d.reader.Left(), rows, acts, gotos) {
		d.reader.Fail(api.ErrShort)
		// If one of the three could not be read, its error stays, and the reader has not moved.
		d.behind = d.reader.At() - at
		return
	}
	row := func() api.Row { return d.row(acts, gotos) }
	d.bundle.Table.Rows = readEach(d, rows, row)
}

// holds tells whether so many bytes may hold rows of these sizes. Without rows sizes are 0: the form is one.
func holds(left, rows, acts, gotos int) bool {
	if rows == 0 {
		return acts == 0 && gotos == 0
	}
	return rows*(1+acts+gotos) <= left
}

func (d *decoder) claims() {
	d.bundle.Cert.Nullable = readList(d, d.reader.Flag)
	d.bundle.Cert.First = readList(d, d.list)
}

func (d *decoder) items() {
	d.bundle.Cert.Items = readList(d, d.state)
}

func (d *decoder) incoming() {
	d.bundle.Cert.Incoming = d.symbols()
}

func (d *decoder) past() {
	d.bundle.Cert.PastSyms = readList(d, d.symbols)
	d.bundle.Cert.PastStates = readList(d, d.lists)
}

func (d *decoder) row(acts, gotos int) api.Row {
	var r api.Row
	r.Default = d.orNone()
	r.Acts = readEach(d, acts, d.action)
	r.Gotos = readEach(d, gotos, d.orNone)
	return r
}

func (d *decoder) action() api.Action {
	return actionOf(d.reader.Int(mostAction))
}

func (d *decoder) state() []api.Item {
	return readList(d, d.item)
}

func (d *decoder) item() api.Item {
	var i api.Item
	i.Prod = d.orNone()
	i.Dot = d.number()
	i.Look = d.list()
	return i
}

func (d *decoder) symbols() []api.Sym {
	return readList(d, d.symbol)
}

func (d *decoder) symbol() api.Sym {
	return symbolOf(d.reader.Int(mostSymbol))
}

func (d *decoder) lists() [][]int {
	return readList(d, d.list)
}

func (d *decoder) list() []int {
	return readList(d, d.number)
}

// orNone reads a number that may be -1.
func (d *decoder) orNone() int {
	return d.reader.Int(most+1) - 1
}

func (d *decoder) number() int {
	return d.reader.Int(most)
}

// readList reads how many things there are, and these.
func readList[T any](d *decoder, read func() T) []T {
	return readEach(d, d.reader.Count(1, most), read)
}

// readEach reads n things, for which bytes were counted. Each takes one at least, so where nothing was read an error stands.
func readEach[T any](d *decoder, n int, read func() T) []T {
	l := slices.Grow([]T(nil), n)
	for range n {
		at := d.reader.At()
		one := read()
		if d.reader.At() == at {
			break
		}
		l = append(l, one)
	}
	return l
}
