package state

import (
	"isthmus/api"
	"isthmus/avl"
	"isthmus/pack"
)

const maxShape = 1 << 20 // elements of a Shape that can be decoded

// version is a tree, its height, and its note.
type version struct {
	height int
	tree   *avl.Tree
	note   string
}

// encode is the encoding of a version. One that is too long to be stored ends early, but not before it is too long:
// the pairs of a tree can share a long text, copies of which would take far more memory than the tree.
func encode(v version) []byte {
	shape := v.tree.Shape()
	w := pack.New().Int(v.height).Uint(uint64(len(shape)))
	for _, isNode := range shape {
		w.Bool(isNode)
	}
	size := 0
	for _, pair := range v.tree.Range("", "") {
		if size > api.MaxBytes {
			break
		}
		w.Text(pair.Key).Text(pair.Value)
		size += len(pair.Key) + len(pair.Value)
	}
	return w.Text(v.note).Done()
}

// decode is the version that b encodes, or ErrForm if it encodes none.
func decode(b []byte) (version, error) {
	r := pack.Read(b)
	v := version{height: r.Int()}
	shape, leaves := decodeShape(r)
	l := decodePairs(r, leaves)
	v.note = r.Text(api.MaxBytes)
	if r.Done() != nil || v.height < 1 {
		return version{}, api.ErrForm
	}
	var err error
	if v.tree, err = avl.Build(shape, l); err != nil {
		return version{}, api.ErrForm
	}
	return v, nil
}

// decodeShape reads a Shape, and counts its leaves, since there is a pair for each.
func decodeShape(r *pack.Reader) (shape []bool, leaves int) {
	for range r.Count(maxShape) {
		isNode := r.Bool()
		if !isNode {
			leaves++
		}
		shape = append(shape, isNode)
	}
	return shape, leaves
}

// decodePairs reads so many pairs.
func decodePairs(r *pack.Reader, many int) []api.Pair {
	var l []api.Pair
	for range many {
		l = append(l, api.Pair{Key: r.Text(api.MaxBytes), Value: r.Text(api.MaxBytes)})
	}
	return l
}
