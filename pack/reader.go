package pack

import (
	"bytes"
	"math"

	"isthmus/api"
)

// Reader takes values off the front of its bytes; from the first error on it takes nothing, and answers zero values.
type Reader struct {
	rest []byte
	err  error
}

// Read is a Reader at the first byte of b.
func Read(b []byte) *Reader {
	return &Reader{rest: bytes.Clone(b)}
}

// Uint reads a varint of at most most.
func (r *Reader) Uint(most uint64) uint64 {
	if r.Err() != nil {
		return 0
	}
	n, size, err := varint(r.rest, most)
	if err != nil {
		r.err = err
		return 0
	}
	r.take(size)
	return n
}

// Int reads a number that Int of a Writer appended.
func (r *Reader) Int() int {
	n := r.Uint(math.MaxUint64)
	if n%2 == 1 {
		return ^int(n / 2)
	}
	return int(n / 2)
}

// Count reads a number of things that take at least a byte each, so that it is never greater than what is left.
func (r *Reader) Count(most int) int {
	if r.Err() != nil {
		return 0
	}
	n, size, err := varint(r.rest, uint64(max(most, 0)))
	if err == nil && n > uint64(len(r.rest)-size) {
		err = api.ErrLong
	}
	if err != nil {
		r.err = err
		return 0
	}
	r.take(size)
	return int(n)
}

// Bool reads a byte 0 or 1.
func (r *Reader) Bool() bool {
	if r.Err() != nil {
		return false
	}
	switch {
	case len(r.rest) == 0:
		r.err = api.ErrEnd
	case r.rest[0] > 1:
		r.err = api.ErrForm
	default:
		return r.take(1)[0] == 1
	}
	return false
}

// Text reads a string of at most most bytes.
func (r *Reader) Text(most int) string {
	return string(r.part(most))
}

// Bytes reads at most most bytes.
func (r *Reader) Bytes(most int) []byte {
	return bytes.Clone(r.part(most))
}

// Hash reads 32 bytes.
func (r *Reader) Hash() api.Hash {
	var h api.Hash
	if r.Err() != nil {
		return h
	}
	if len(r.rest) < len(h) {
		r.err = api.ErrEnd
		return h
	}
	copy(h[:], r.take(len(h)))
	return h
}

// Left is the number of bytes left.
func (r *Reader) Left() int {
	if r == nil {
		return 0
	}
	return len(r.rest)
}

// Err is the first error, or nil.
func (r *Reader) Err() error {
	if r == nil {
		return api.ErrArg
	}
	return r.err
}

// Done is the first error, or ErrForm if bytes are left; what is left can still be read.
func (r *Reader) Done() error {
	if err := r.Err(); err != nil {
		return err
	}
	if r.Left() > 0 {
		return api.ErrForm
	}
	return nil
}

// part reads a length and that many bytes. They are still the Reader's: whoever hands them out copies them.
func (r *Reader) part(most int) []byte {
	if r.Err() != nil {
		return nil
	}
	if most < 0 {
		r.err = api.ErrArg
		return nil
	}
	length, size, err := varint(r.rest, math.MaxUint64)
	switch {
	case err != nil:
		r.err = err
	case length > uint64(most):
		r.err = api.ErrLong
	case length > uint64(len(r.rest)-size):
		r.err = api.ErrEnd
	default:
		// The length is taken only now, since nothing is consumed beside an error.
		r.take(size)
		return r.take(int(length))
	}
	return nil
}

// take consumes so many bytes of those left.
func (r *Reader) take(size int) []byte {
	b := r.rest[:size]
	r.rest = r.rest[size:]
	return b
}

// varint is the number at the front of b, of at most most, and how many bytes it takes.
func varint(b []byte, most uint64) (n uint64, size int, err error) {
	for i := range min(len(b), longest) {
		n |= uint64(b[i]&^more) << (groupBits * i)
		if b[i] < more {
			return checked(n, b[:i+1], most)
		}
	}
	if len(b) < longest {
		return 0, 0, api.ErrEnd
	}
	return 0, 0, api.ErrForm
}

// checked is n and the number of its groups, if there are no more of them than needed and n is at most most.
func checked(n uint64, groups []byte, most uint64) (uint64, int, error) {
	size := len(groups)
	last := groups[size-1]
	padded := size > 1 && last == 0
	// Of the last of ten bytes only one bit belongs to a number below 2^64.
	tooGreat := size == longest && last > 1
	if padded || tooGreat {
		return 0, 0, api.ErrForm
	}
	if n > most {
		return 0, 0, api.ErrRange
	}
	return n, size, nil
}
