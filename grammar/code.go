package grammar

import (
	"math"

	"gantry/api"
	"gantry/codec"
)

const (
	// frameKind is the kind of a grammar's frame.
	frameKind = 1
	// sumSize is how many bytes stand behind a frame's body.
	sumSize = 4
	// most is the greatest count and number of a body: Check, behind it, is narrower.
	most = math.MaxInt32
)

// Encode answers the frame of g.
func Encode(g api.Grammar) ([]byte, api.Errno) {
	if e, _ := Check(g); e != api.OK {
		return nil, e
	}
	w := codec.NewWriter()
	writeList(w, g.Terms, (*codec.Writer).Text)
	writeList(w, g.Nons, (*codec.Writer).Text)
	w.Int(g.Start)
	writeList(w, g.Prods, writeProd)
	writeList(w, g.Levels, writeLevel)
	body, e := w.Bytes()
	if e != api.OK {
		return nil, e
	}
	return codec.Seal(frameKind, body)
}

// Decode answers the grammar whose frame b is; else the first fault, and its place in b.
func Decode(b []byte) (api.Grammar, api.Errno, int) {
	body, e, at := codec.Open(frameKind, b)
	if e != api.OK {
		return api.Grammar{}, e, at
	}
	begin := len(b) - sumSize - len(body)
	r := codec.NewReader(body)
	g := readGrammar(r)
	if e, at := r.End(); e != api.OK {
		return api.Grammar{}, e, begin + at
	}
	if e, _ := Check(g); e != api.OK {
		return api.Grammar{}, e, begin
	}
	return g, api.OK, 0
}

func writeProd(w *codec.Writer, p api.Prod) {
	w.Int(p.Left)
	writeList(w, p.Right, writeSymbol)
	w.Signed(p.Prec)
}

func writeSymbol(w *codec.Writer, s api.Sym) {
	n := 2 * s.N
	if s.Kind == api.SymNon {
		n++
	}
	w.Int(n)
}

func writeLevel(w *codec.Writer, l api.Level) {
	w.Int(int(l.Assoc))
	writeList(w, l.Terms, (*codec.Writer).Int)
}

func writeList[T any](w *codec.Writer, l []T, write func(*codec.Writer, T)) {
	w.Int(len(l))
	for _, one := range l {
		write(w, one)
	}
}

func readGrammar(r *codec.Reader) api.Grammar {
	var g api.Grammar
	g.Terms = readList(r, readName)
	g.Nons = readList(r, readName)
	g.Start = r.Int(most)
	g.Prods = readList(r, readProd)
	g.Levels = readList(r, readLevel)
	return g
}

func readName(r *codec.Reader) string {
	return r.Text(api.MaxText)
}

func readProd(r *codec.Reader) api.Prod {
	var p api.Prod
	p.Left = r.Int(most)
	p.Right = readList(r, readSymbol)
	p.Prec = r.Signed(most)
	return p
}

func readSymbol(r *codec.Reader) api.Sym {
	n := r.Int(most)
	if n%2 == 1 {
		return api.Sym{Kind: api.SymNon, N: n / 2}
	}
	return api.Sym{Kind: api.SymTerm, N: n / 2}
}

func readLevel(r *codec.Reader) api.Level {
	var l api.Level
	l.Assoc = api.Assoc(r.Int(most))
	l.Terms = readList(r, readNumber)
	return l
}

func readNumber(r *codec.Reader) int {
	return r.Int(most)
}

// readList reads a count and so many things. Each takes a byte at least, so where nothing was read an error stands, and what is still missing needs no memory.
func readList[T any](r *codec.Reader, read func(*codec.Reader) T) []T {
	var l []T
	for range r.Count(1, most) {
		at := r.At()
		one := read(r)
		if r.At() == at {
			break
		}
		l = append(l, one)
	}
	return l
}
