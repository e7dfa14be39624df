package avl

import (
	"slices"

	"isthmus/api"
)

// Shape is false for a leaf and true for a node, each node ahead of its parts.
func (t *Tree) Shape() []bool {
	if t.Len() == 0 {
		return nil
	}
	return t.appendShape(make([]bool, 0, 2*t.many-1))
}

// Build is the tree with that Shape and these pairs.
func Build(shape []bool, l []api.Pair) (*Tree, error) {
	if len(shape) == 0 && len(l) == 0 {
		return nil, nil
	}
	if !rising(l) {
		return nil, api.ErrForm
	}
	// Backwards, a node comes behind its parts; so they are there, the first one on top, however deep the shape goes.
	var parts []*Tree
	for _, isNode := range slices.Backward(shape) {
		if !isNode {
			if len(l) == 0 {
				return nil, api.ErrForm
			}
			last := l[len(l)-1]
			parts, l = append(parts, leaf(last.Key, last.Value)), l[:len(l)-1]
			continue
		}
		below := len(parts) - 2
		if below < 0 || !balanced(parts[below+1], parts[below]) {
			return nil, api.ErrForm
		}
		parts = append(parts[:below], node(parts[below+1], parts[below]))
	}
	if len(parts) != 1 || len(l) != 0 {
		return nil, api.ErrForm
	}
	return parts[0], nil
}

// appendShape appends the Shape of a tree that has keys.
func (t *Tree) appendShape(shape []bool) []bool {
	if t.many == 1 {
		return append(shape, false)
	}
	return t.second.appendShape(t.first.appendShape(append(shape, true)))
}

// rising tells whether each key is greater than the one ahead of it.
func rising(l []api.Pair) bool {
	for i := 1; i < len(l); i++ {
		if l[i].Key <= l[i-1].Key {
			return false
		}
	}
	return true
}

// balanced tells whether the heights of two parts differ by at most one.
func balanced(a, b *Tree) bool {
	return max(a.height, b.height)-min(a.height, b.height) <= 1
}
