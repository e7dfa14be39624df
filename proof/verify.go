package proof

import (
	"isthmus/api"
	"isthmus/avl"
	"isthmus/sha"
)

// A valid proof has at most so many steps, each of which adds at most so many keys; so no count is too great for an int.
const (
	maxSteps = 64
	maxMany  = 1 << 32
)

// place is what a proof leads to: a root, and the index of its key among so many.
type place struct {
	root         api.Hash
	index, count int
}

// Verify is an error unless p shows that key is there with this value in the tree of this root.
func Verify(root api.Hash, key, value string, p Proof) error {
	if p.Key != key || p.Value != value {
		return api.ErrProof
	}
	_, err := follow(root, p)
	return err
}

// VerifyNone is an error unless p shows that key is not in the tree of this root.
func VerifyNone(root api.Hash, key string, p Absent) error {
	if len(p.Left) > 1 || len(p.Right) > 1 || !between(key, p) {
		return api.ErrProof
	}
	left, err := followAll(root, p.Left)
	if err != nil {
		return err
	}
	right, err := followAll(root, p.Right)
	if err != nil {
		return err
	}
	if !adjacent(root, left, right) {
		return api.ErrProof
	}
	return nil
}

// follow is where a proof leads to, if it is valid and leads to this root.
func follow(root api.Hash, p Proof) (place, error) {
	if len(p.Steps) > maxSteps {
		return place{}, api.ErrProof
	}
	here := place{root: avl.Leaf(p.Key, p.Value), index: 0, count: 1}
	for _, s := range p.Steps {
		if s.Many < 1 || s.Many > maxMany {
			return place{}, api.ErrProof
		}
		here = here.up(s)
	}
	if here.root != root {
		return place{}, api.ErrProof
	}
	return here, nil
}

// followAll is where each of these proofs leads to.
func followAll(root api.Hash, proofs []Proof) ([]place, error) {
	var places []place
	for _, p := range proofs {
		here, err := follow(root, p)
		if err != nil {
			return nil, err
		}
		places = append(places, here)
	}
	return places, nil
}

// up is the same key's place one step further up.
func (here place) up(s avl.Step) place {
	count := here.count + s.Many
	if s.Second {
		return place{avl.Node(s.Many, s.Other, here.count, here.root), s.Many + here.index, count}
	}
	return place{avl.Node(here.count, here.root, s.Many, s.Other), here.index, count}
}

// between tells whether key is greater than that of Left and less than that of Right, where there are such.
func between(key string, p Absent) bool {
	for _, left := range p.Left {
		if left.Key >= key {
			return false
		}
	}
	for _, right := range p.Right {
		if right.Key <= key {
			return false
		}
	}
	return true
}

// adjacent tells whether the tree of this root has nothing between two places, of which one or both may be missing.
func adjacent(root api.Hash, left, right []place) bool {
	switch {
	case len(left) == 0 && len(right) == 0:
		return root == sha.Sum(nil)
	case len(left) == 0:
		return right[0].index == 0
	case len(right) == 0:
		return left[0].index == left[0].count-1
	}
	return left[0].count == right[0].count && right[0].index == left[0].index+1
}
