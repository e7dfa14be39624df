package avl

import (
	"iter"
	"slices"

	"isthmus/api"
)

// Step is a node above a leaf: which of its parts has the leaf, and what the other part is.
type Step struct {
	Second bool
	Many   int
	Other  api.Hash
}

// Get is the value of key, and whether there is one.
func (t *Tree) Get(key string) (string, bool) {
	for t.Len() > 1 {
		if key < t.second.least {
			t = t.first
		} else {
			t = t.second
		}
	}
	if t.Len() == 0 || t.least != key {
		return "", false
	}
	return t.value, true
}

// Len is the number of keys.
func (t *Tree) Len() int {
	if t == nil {
		return 0
	}
	return t.many
}

// Height is the height: 1 for a leaf.
func (t *Tree) Height() int {
	if t == nil {
		return 0
	}
	return t.height
}

// At is the pair at index i.
func (t *Tree) At(i int) (api.Pair, error) {
	if i < 0 || i >= t.Len() {
		return api.Pair{}, api.ErrArg
	}
	for t.many > 1 {
		if i < t.first.many {
			t = t.first
		} else {
			i -= t.first.many
			t = t.second
		}
	}
	return t.pair(), nil
}

// Find is the number of keys that are less than key.
func (t *Tree) Find(key string) int {
	less := 0
	for t.Len() > 1 {
		if key < t.second.least {
			t = t.first
		} else {
			less += t.first.many
			t = t.second
		}
	}
	if t.Len() == 1 && t.least < key {
		less++
	}
	return less
}

// Range is the pairs whose keys are not less than from, and less than to if that is not empty.
func (t *Tree) Range(from, to string) []api.Pair {
	var l []api.Pair
	for pair := range t.pairs(from) {
		if to != "" && pair.Key >= to {
			break
		}
		l = append(l, pair)
	}
	return l
}

// Path is a Step for each node above the leaf at index i, from the leaf upwards.
func (t *Tree) Path(i int) ([]Step, error) {
	if i < 0 || i >= t.Len() {
		return nil, api.ErrArg
	}
	var steps []Step
	for t.many > 1 {
		if i < t.first.many {
			steps = append(steps, Step{false, t.second.many, t.second.root})
			t = t.first
		} else {
			steps = append(steps, Step{true, t.first.many, t.first.root})
			i -= t.first.many
			t = t.second
		}
	}
	slices.Reverse(steps)
	return steps, nil
}

// pairs iterates, in order, over the pairs whose keys are not less than from.
func (t *Tree) pairs(from string) iter.Seq[api.Pair] {
	return func(yield func(api.Pair) bool) {
		t.visit(from, yield)
	}
}

// visit yields the pairs whose keys are not less than from, and tells whether to go on behind them.
func (t *Tree) visit(from string, yield func(api.Pair) bool) bool {
	switch {
	case t.Len() == 0:
		return true
	case t.Len() == 1:
		return t.least < from || yield(t.pair())
	}
	// All of the first part is less than the first key of the second part.
	if from < t.second.least && !t.first.visit(from, yield) {
		return false
	}
	return t.second.visit(from, yield)
}

// pair is a leaf's.
func (t *Tree) pair() api.Pair {
	return api.Pair{Key: t.least, Value: t.value}
}
