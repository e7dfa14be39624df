package kv

import (
	"isthmus/api"
	"isthmus/frame"
	"isthmus/pack"
)

// Change is a key's new value, or that the key is gone.
type Change struct {
	Key, Value string
	Gone       bool
}

// record is the record of a batch, or ErrLong if its encoding is too long; l is not empty.
func record(l []Change) ([]byte, error) {
	// The encoding of changes that share a long text would take far more memory than they do.
	if tooLong(l) {
		return nil, api.ErrLong
	}
	return frame.Frame(encode(l))
}

// tooLong reports whether the texts of a batch alone are longer than its encoding may be.
func tooLong(l []Change) bool {
	size := 0
	for _, c := range l {
		size += len(c.Key)
		if !c.Gone {
			size += len(c.Value)
		}
		if size > api.MaxBytes {
			return true
		}
	}
	return false
}

// encode is the encoding of a batch.
func encode(l []Change) []byte {
	w := pack.New().Uint(uint64(len(l)))
	for _, c := range l {
		w.Bool(c.Gone).Text(c.Key)
		if !c.Gone {
			w.Text(c.Value)
		}
	}
	return w.Done()
}

// decode is the batch that a payload encodes, or ErrHalt if it encodes none with at least one change.
func decode(payload []byte) ([]Change, error) {
	r := pack.Read(payload)
	var l []Change
	for left := r.Count(api.MaxBytes); left > 0 && r.Err() == nil; left-- {
		l = append(l, decodeChange(r))
	}
	if r.Done() != nil || len(l) == 0 {
		return nil, api.ErrHalt
	}
	return l, nil
}

// decodeChange reads one change of a batch.
func decodeChange(r *pack.Reader) Change {
	c := Change{Gone: r.Bool()}
	c.Key = r.Text(api.MaxBytes)
	if !c.Gone {
		c.Value = r.Text(api.MaxBytes)
	}
	return c
}
