package state

import (
	"isthmus/api"
	"isthmus/avl"
	"isthmus/kv"
)

// Commit stores the next version, and removes the one that is keep versions ahead of it. Both are written at once, so that
// a crash can't part them.
func (s *Store) Commit(height int, t *avl.Tree, note string) error {
	if s == nil {
		return api.ErrArg
	}
	if height < 1 || height > api.MaxHeight || s.top != 0 && height != s.top+1 {
		return api.ErrHeight
	}
	v := version{height, t, note}
	changes := []kv.Change{{Key: key(height), Value: string(encode(v))}}
	if height > s.keep {
		changes = append(changes, kv.Change{Key: key(height - s.keep), Gone: true})
	}
	return s.apply(changes, v)
}

// Back removes all versions behind that of a height.
func (s *Store) Back(height int) error {
	t, note, err := s.Version(height)
	if err != nil {
		return err
	}
	var gone []kv.Change
	for _, pair := range s.pairs.Range(key(height), "")[1:] {
		gone = append(gone, kv.Change{Key: pair.Key, Gone: true})
	}
	return s.apply(gone, version{height, t, note})
}

// Restore stores a version from its encoding, where there is none.
func (s *Store) Restore(b []byte) error {
	if s == nil {
		return api.ErrArg
	}
	if s.top != 0 {
		return api.ErrTwice
	}
	v, err := decode(b)
	if err != nil {
		return err
	}
	return s.apply([]kv.Change{{Key: key(v.height), Value: string(b)}}, v)
}

// apply makes changes, after which last is the last version.
func (s *Store) apply(changes []kv.Change, last version) error {
	if err := s.pairs.Apply(changes); err != nil {
		return err
	}
	s.top, s.tree = last.height, last.tree
	return nil
}
