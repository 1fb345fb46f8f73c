package trees

import (
	"gantry/api"
	"gantry/codec"
)

const (
	// frameKind is the kind of a tree's frame.
	frameKind = 3
	// sumSize is how many bytes stand behind a frame's body.
	sumSize = 4
	// mostProd is the greatest production, mostKids the greatest number of kids, mostKind the greatest amount of a Kind.
	mostProd = 1 << 30
	mostKids = 1 << 30
	mostKind = 1 << 62
)

// Encode answers the frame of t.
func Encode(t api.Tree) ([]byte, api.Errno) {
	w := codec.NewWriter()
	e, least := api.OK, 0
	walk(&t, func(at *api.Tree) bool {
		e = codeFault(at)
		least += leastSize(at)
		// A fault behind goes ahead of ErrLong, so all places are asked; but what is too long already is not laid down.
		if e == api.OK && least <= api.MaxBytes {
			writePlace(w, at)
		}
		return e == api.OK
	})
	if e == api.OK && least > api.MaxBytes {
		e = api.ErrLong
	}
	if e != api.OK {
		return nil, e
	}
	body, e := w.Bytes()
	if e != api.OK {
		return nil, e
	}
	return codec.Seal(frameKind, body)
}

// Decode answers the tree whose frame b is; else the first fault, and its place in b.
func Decode(b []byte) (api.Tree, api.Errno, int) {
	body, e, at := codec.Open(frameKind, b)
	if e != api.OK {
		return api.Tree{}, e, at
	}
	r := codec.NewReader(body)
	var made builder
	for !made.whole() && !failed(r) {
		readPlace(r, &made)
	}
	if e, at := r.End(); e != api.OK {
		begin := len(b) - sumSize - len(body)
		return api.Tree{}, e, begin + at
	}
	return made.tree(), api.OK, 0
}

// codeFault is why a place has no code.
func codeFault(t *api.Tree) api.Errno {
	switch {
	case isLeaf(t):
		if t.Tok.Kind < -mostKind || t.Tok.Kind > mostKind {
			return api.ErrRange
		}
		if len(t.Kids) != 0 {
			return api.ErrLeaf
		}
	case t.Prod < 0 || t.Prod > mostProd || t.Tok != api.Token{}:
		return api.ErrRange
	}
	return api.OK
}

// leastSize is how many bytes a place takes at least: a number takes one.
func leastSize(t *api.Tree) int {
	if isLeaf(t) {
		return 3 + len(t.Tok.Text)
	}
	return 2
}

func writePlace(w *codec.Writer, t *api.Tree) {
	w.Int(t.Prod + 1)
	if isLeaf(t) {
		w.Signed(t.Tok.Kind)
		w.Text(t.Tok.Text)
		return
	}
	w.Int(len(t.Kids))
}

// readPlace reads what writePlace laid down. Behind an error it puts a place in that nobody sees.
func readPlace(r *codec.Reader, b *builder) {
	prod := r.Int(mostProd+1) - 1
	if prod < 0 {
		kind := r.Signed(mostKind)
		b.leaf(api.Token{Kind: kind, Text: r.Text(api.MaxBytes)})
		return
	}
	b.node(prod, r.Count(1, mostKids))
}

// failed tells whether an error stands, beside that bytes are left.
func failed(r *codec.Reader) bool {
	e, _ := r.End()
	return e != api.OK && e != api.ErrTail
}
