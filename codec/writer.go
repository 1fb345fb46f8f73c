package codec

import (
	"bytes"

	"gantry/api"
)

// Writer lays things down one behind the other. NewWriter makes one; any other does nothing.
type Writer struct {
	laid *laid
}

// laid is what a writer has come to. It stands behind a pointer so that a copied Writer is the same writer: two lists that grow into one spare room would overwrite each other.
type laid struct {
	data []byte
	err  api.Errno
}

// NewWriter answers a writer that has laid nothing down.
func NewWriter() *Writer {
	return &Writer{laid: &laid{}}
}

// Number lays a number down.
func (w *Writer) Number(n uint64) {
	if w.ready() {
		w.laid.data = appendNumber(w.laid.data, n)
	}
}

// Int lays an int from 0 on down; one below is ErrRange.
func (w *Writer) Int(n int) {
	if n < 0 {
		w.fail(api.ErrRange)
		return
	}
	w.Number(uint64(n))
}

// Signed lays any int down.
func (w *Writer) Signed(n int) {
	w.Number(fold(n))
}

// Flag lays a flag down.
func (w *Writer) Flag(f bool) {
	if f {
		w.Number(1)
		return
	}
	w.Number(0)
}

// Text lays a text's length and bytes down.
func (w *Writer) Text(s string) {
	if w.ready() {
		w.laid.data = append(appendNumber(w.laid.data, uint64(len(s))), s...)
	}
}

// Bytes answers all that was laid down so far, or the first error.
func (w *Writer) Bytes() ([]byte, api.Errno) {
	if !w.made() {
		return nil, api.ErrMade
	}
	if w.laid.err != api.OK {
		return nil, w.laid.err
	}
	return bytes.Clone(w.laid.data), api.OK
}

func (w *Writer) made() bool {
	return w != nil && w.laid != nil
}

func (w *Writer) ready() bool {
	return w.made() && w.laid.err == api.OK
}

func (w *Writer) fail(e api.Errno) {
	if w.ready() {
		w.laid.err = e
	}
}
