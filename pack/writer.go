package pack

import (
	"bytes"

	"isthmus/api"
)

// Writer appends values to its bytes; on a nil Writer nothing is written.
type Writer struct{ bytes []byte }

// New is an empty Writer.
func New() *Writer { return &Writer{} }

// Uint appends the varint of n.
func (w *Writer) Uint(n uint64) *Writer {
	var groups [longest]byte
	size := 0
	for n >= more {
		groups[size] = byte(n) | more
		n >>= groupBits
		size++
	}
	groups[size] = byte(n)
	return w.add(groups[:size+1])
}

// Int appends the varint of 2n, or of -2n - 1 if n is negative.
func (w *Writer) Int(n int) *Writer {
	if n < 0 {
		// ^n is -n - 1, which no n is too small for.
		return w.Uint(2*uint64(^n) + 1)
	}
	return w.Uint(2 * uint64(n))
}

// Bool appends a byte 0 or 1.
func (w *Writer) Bool(b bool) *Writer {
	if b {
		return w.add([]byte{1})
	}
	return w.add([]byte{0})
}

// Text appends the length of s and its bytes.
func (w *Writer) Text(s string) *Writer {
	return w.Bytes([]byte(s))
}

// Bytes appends the length of b and its bytes.
func (w *Writer) Bytes(b []byte) *Writer {
	return w.Uint(uint64(len(b))).add(b)
}

// Hash appends the bytes of h.
func (w *Writer) Hash(h api.Hash) *Writer {
	return w.add(h[:])
}

// Done are all bytes that were appended; the Writer can be used further.
func (w *Writer) Done() []byte {
	if w == nil {
		return nil
	}
	return bytes.Clone(w.bytes)
}

// add appends bytes as they are.
func (w *Writer) add(b []byte) *Writer {
	if w != nil {
		w.bytes = append(w.bytes, b...)
	}
	return w
}
