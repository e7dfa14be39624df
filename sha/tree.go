package sha

import (
	"math/bits"

	"isthmus/api"
)

// A leaf and a node begin with different bytes, so that none can be taken for the other.
const (
	leafMark = 0
	nodeMark = 1
)

// Leaf is the hash of the leaf with the bytes b.
func Leaf(b []byte) api.Hash {
	h := New()
	h.Write([]byte{leafMark})
	h.Write(b)
	return h.Sum()
}

// Node is the hash of the node with the children a and b.
func Node(a, b api.Hash) api.Hash {
	h := New()
	h.Write([]byte{nodeMark})
	h.Write(a[:])
	h.Write(b[:])
	return h.Sum()
}

// Root is the root of the leaf hashes l.
func Root(l []api.Hash) api.Hash {
	switch len(l) {
	case 0:
		return Sum(nil)
	case 1:
		return l[0]
	}
	k := split(len(l))
	return Node(Root(l[:k]), Root(l[k:]))
}

// Path is the roots of the sibling subtrees of leaf i, from the leaf upwards.
func Path(l []api.Hash, i int) ([]api.Hash, error) {
	if i < 0 || i >= len(l) {
		return nil, api.ErrArg
	}
	return siblings(l, i), nil
}

// Fold is the root that path proves for leaf at index i of n.
func Fold(leaf api.Hash, i, n int, path []api.Hash) (api.Hash, error) {
	if i < 0 || i >= n {
		return api.Hash{}, api.ErrArg
	}
	turns := turnsTo(i, n)
	if len(path) != len(turns) {
		return api.Hash{}, api.ErrLong
	}
	sum := leaf
	for up, sibling := range path {
		if turns[len(turns)-1-up] {
			sum = Node(sibling, sum)
		} else {
			sum = Node(sum, sibling)
		}
	}
	return sum, nil
}

// split is how many of n leaves, at least 2, are in the first subtree.
func split(n int) int { return 1 << (bits.Len(uint(n-1)) - 1) }

// siblings is Path of an index that there is.
func siblings(l []api.Hash, i int) []api.Hash {
	if len(l) == 1 {
		return nil
	}
	k := split(len(l))
	if i < k {
		return append(siblings(l[:k], i), Root(l[k:]))
	}
	return append(siblings(l[k:], i-k), Root(l[:k]))
}

// turnsTo tells, from the root down to leaf i of n, where the way goes to the second subtree.
func turnsTo(i, n int) []bool {
	var turns []bool
	for n > 1 {
		k := split(n)
		second := i >= k
		turns = append(turns, second)
		if second {
			i, n = i-k, n-k
		} else {
			n = k
		}
	}
	return turns
}
