package blocks

import (
	"isthmus/api"
	"isthmus/kv"
	"isthmus/types"
)

const maxSign = 1 << 16 // bytes of a Sign that can be decoded

// Save stores the next block, the commit for it, and the validators of its height. All of them are written at once, so that
// a crash can't part them.
func (s *Store) Save(b api.Block, c api.Commit, l []api.Validator) error {
	if s == nil {
		return api.ErrArg
	}
	if err := s.check(b, c, l); err != nil {
		return err
	}
	height := b.Header.Height
	err := s.pairs.Apply([]kv.Change{
		{Key: key(blockMark, height), Value: string(types.EncodeBlock(b))},
		{Key: key(commitMark, height), Value: string(types.EncodeCommit(c))},
		{Key: key(setMark, height), Value: string(types.EncodeSet(l))},
	})
	if err != nil {
		return err
	}
	s.extend(height)
	return nil
}

// Prune removes all heights below height, and what the file held of them.
func (s *Store) Prune(height int) error {
	if s == nil || s.top == 0 || height < s.base || height > s.top {
		return api.ErrArg
	}
	var gone []kv.Change
	for h := s.base; h < height; h++ {
		for _, mark := range []string{blockMark, commitMark, setMark} {
			gone = append(gone, kv.Change{Key: key(mark, h), Gone: true})
		}
	}
	if err := s.pairs.Apply(gone); err != nil {
		return err
	}
	s.base = height
	return s.pairs.Compact()
}

// check is an error unless these can be the next block, the commit for it, and its validators.
func (s *Store) check(b api.Block, c api.Commit, l []api.Validator) error {
	if err := types.CheckBlock(b); err != nil {
		return err
	}
	if err := s.checkNext(b.Header); err != nil {
		return err
	}
	if c.Height != b.Header.Height || c.Block != types.HeaderHash(b.Header) {
		return api.ErrBlock
	}
	if err := types.CheckSet(l); err != nil {
		return err
	}
	if types.SetHash(l) != b.Header.Validators || !decodable(c) || !decodable(b.Last) {
		return api.ErrBlock
	}
	return nil
}

// checkNext is an error unless a block with this header can come behind the last one, if there is one.
func (s *Store) checkNext(h api.Header) error {
	if s.top == 0 {
		return nil
	}
	if h.Height != s.top+1 {
		return api.ErrHeight
	}
	last, err := s.Block(s.top)
	if err != nil {
		return err
	}
	if h.Last != types.HeaderHash(last.Header) {
		return api.ErrBlock
	}
	return nil
}

// decodable tells whether a commit's encoding can be decoded: otherwise the file could not be opened again.
func decodable(c api.Commit) bool {
	if len(c.Votes) > api.MaxValidators {
		return false
	}
	for _, v := range c.Votes {
		if len(v.Sign) > maxSign {
			return false
		}
	}
	return true
}
