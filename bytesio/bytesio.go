// Package bytesio is rows of bytes: see DOC.md, chapter 1.
package bytesio

import (
	"slices"

	"lantern/api"
)

const (
	maxU1 = 1<<8 - 1
	maxU2 = 1<<16 - 1
	minI4 = -1 << 31
	maxI4 = 1<<31 - 1
)

// Writer writes. One that is bad keeps no bytes.
type Writer struct {
	out []byte
	bad bool
}

// U1 writes a byte.
func (w *Writer) U1(n int) *Writer { return w.number(n, 0, maxU1, 1) }

// U2 writes two.
func (w *Writer) U2(n int) *Writer { return w.number(n, 0, maxU2, 2) }

// I4 writes four.
func (w *Writer) I4(n int) *Writer { return w.number(n, minI4, maxI4, 4) }

// Text writes a text.
func (w *Writer) Text(s string) *Writer {
	// A text that is too long has a length that U2 refuses.
	if w.U2(len(s)).Bad() {
		return w
	}
	w.out = append(w.out, s...)
	return w
}

// Bytes is all.
func (w *Writer) Bytes() []byte {
	if w == nil {
		return nil
	}
	return slices.Clone(w.out)
}

// Bad tells whether something could not be written.
func (w *Writer) Bad() bool { return w == nil || w.bad }

// number writes the lowest size bytes of n, the greatest first, if n is from least to greatest.
func (w *Writer) number(n, least, greatest, size int) *Writer {
	if w.Bad() {
		return w
	}
	if n < least || n > greatest {
		w.out, w.bad = nil, true
		return w
	}
	for i := size - 1; i >= 0; i-- {
		w.out = append(w.out, byte(n>>(8*i)))
	}
	return w
}

// Reader reads. One that failed stays where the value begins that it could not read.
type Reader struct {
	data   []byte
	at     int
	failed bool
}

// NewReader is one.
func NewReader(b []byte) *Reader { return &Reader{data: slices.Clone(b)} }

// U1 reads a byte.
func (r *Reader) U1() int { return int(r.number(1)) }

// U2 reads two.
func (r *Reader) U2() int { return int(r.number(2)) }

// I4 reads four.
func (r *Reader) I4() int { return int(int32(r.number(4))) }

// Text reads a text.
func (r *Reader) Text() string {
	if r == nil {
		return ""
	}
	begin := r.at
	size := r.U2()
	if r.failed || r.Left() < size {
		goto fail
	}
	r.at += size
	return string(r.data[r.at-size : r.at])
fail:
	// The place of a text is that of its length, which may have been read.
	r.at, r.failed = begin, true
	return ""
}

// At is how many were read.
func (r *Reader) At() int {
	if r == nil {
		return 0
	}
	return r.at
}

// Left is how many are left.
func (r *Reader) Left() int {
	if r == nil || r.failed {
		return 0
	}
	return len(r.data) - r.at
}

// Err is whether it failed, and where.
func (r *Reader) Err() (api.Errno, int) {
	if r == nil || !r.failed {
		return api.OK, 0
	}
	return api.ErrShort, r.at
}

// number reads size bytes, at least one, the greatest first.
func (r *Reader) number(size int) uint32 {
	var n uint32
	if r == nil {
		return 0
	}
	// Nothing is left to one that failed: it fails again, where it stands.
	if r.Left() < size {
		goto fail
	}
	for _, b := range r.data[r.at : r.at+size] {
		n = n<<8 | uint32(b)
	}
	r.at += size
	return n
fail:
	r.failed = true
	return 0
}
