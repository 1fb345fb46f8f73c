package compress

import (
	"gantry/api"
	"gantry/codec"
)

const (
	// mostNumber is the greatest number that is read. One that may be -1 is laid down with 1 ahead.
	mostNumber = 1 << 30
	// rowSize and placeSize are how many bytes a row and a place take at least.
	rowSize   = 3
	placeSize = 1
)

// write lays the body of a p that was checked down.
func write(w *codec.Writer, p api.Packed) {
	w.Int(p.Terms)
	w.Int(p.Nons)
	w.Int(len(p.Default))
	for r, d := range p.Default {
		w.Int(d + 1)
		w.Int(p.ActBase[r])
		w.Int(p.GotoBase[r])
	}
	w.Int(len(p.Owner))
	for place, owner := range p.Owner {
		w.Int(owner + 1)
		if owner != noOwner {
			w.Int(p.Value[place])
		}
	}
}

// read reads a body. Behind the reader's first error all numbers are 0.
func read(r *codec.Reader) api.Packed {
	p := api.Packed{Terms: r.Int(mostNumber), Nons: r.Int(mostNumber)}
	rows := r.Count(rowSize, mostNumber)
	p.Default, p.ActBase, p.GotoBase = make([]int, rows), make([]int, rows), make([]int, rows)
	for n := range rows {
		p.Default[n] = r.Int(mostNumber) - 1
		p.ActBase[n] = r.Int(mostNumber)
		p.GotoBase[n] = r.Int(mostNumber)
	}
	places := r.Count(placeSize, mostNumber)
	p.Owner, p.Value = make([]int, places), make([]int, places)
	for n := range places {
		p.Owner[n] = r.Int(mostNumber) - 1
		if p.Owner[n] != noOwner {
			p.Value[n] = r.Int(mostNumber)
		}
	}
	return p
}
