package blocks

import (
	"strconv"
	"strings"

	"isthmus/api"
	"isthmus/files"
	"isthmus/kv"
)

// Open is the Store of the file with that name, which is created when a block is saved.
func Open(f *files.FS, name string) (*Store, error) {
	pairs, err := kv.Open(f, name)
	if err != nil {
		return nil, err
	}
	s := &Store{pairs: pairs}
	if !s.find() {
		return nil, api.ErrHalt
	}
	return s, nil
}

// find finds the heights, and tells whether the pairs are those of consecutive heights, and no others.
func (s *Store) find() bool {
	found := s.pairs.Range(blockMark, afterBlocks)
	if s.pairs.Len() != parts*len(found) {
		return false
	}
	for _, pair := range found {
		height, ok := heightOf(pair.Key)
		if !ok || !s.whole(height) || s.top != 0 && height != s.top+1 {
			return false
		}
		s.extend(height)
	}
	return true
}

// heightOf is the height of a block's key, and whether there is one with this key.
func heightOf(k string) (int, bool) {
	height, err := strconv.Atoi(strings.TrimPrefix(k, blockMark))
	return height, err == nil && height >= 1 && k == key(blockMark, height)
}

// whole tells whether all parts of a height are there, can be decoded, and are of this height.
func (s *Store) whole(height int) bool {
	b, err := s.Block(height)
	if err != nil || b.Header.Height != height {
		return false
	}
	c, err := s.Commit(height)
	if err != nil || c.Height != height {
		return false
	}
	_, err = s.Set(height)
	return err == nil
}

// extend takes in the height of a new last block.
func (s *Store) extend(height int) {
	if s.base == 0 {
		s.base = height
	}
	s.top = height
}
