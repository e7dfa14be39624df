package keys

import (
	"errors"

	"isthmus/api"
	"isthmus/files"
	"isthmus/frame"
	"isthmus/pack"
	"isthmus/sha"
	"isthmus/wots"
)

// Signer signs by one leaf after the other, and counts them in a file.
type Signer struct {
	disk   *files.FS
	name   string
	seed   api.Hash
	digest int
	leaves []api.Hash // the public sums, from which the paths are made
	used   int
	failed error // the counter's: from then on nothing is signed
}

// Open is a Signer whose counter is the file with that name, which Sign creates if it does not exist.
func Open(f *files.FS, name string, seed api.Hash, p api.Params) (*Signer, error) {
	if err := Check(p); err != nil {
		return nil, err
	}
	used, err := counted(f, name, size(p))
	if err != nil {
		return nil, err
	}
	leaves, err := publics(seed, p)
	if err != nil {
		return nil, err
	}
	return &Signer{disk: f, name: name, seed: seed, digest: p.Digest, leaves: leaves, used: used}, nil
}

// Sign is a signature of text by the next unused leaf.
func (s *Signer) Sign(text []byte) ([]byte, error) {
	if s == nil {
		return nil, api.ErrKey
	}
	if s.failed != nil {
		return nil, s.failed
	}
	if s.Left() == 0 {
		return nil, api.ErrSpent
	}
	leaf := s.used
	// The leaf must be safely told as used ahead of its signature: after a crash between them it would sign again.
	if s.failed = s.count(leaf + 1); s.failed != nil {
		return nil, s.failed
	}
	s.used = leaf + 1
	return s.signBy(leaf, text)
}

// Root is the root of the key.
func (s *Signer) Root() api.Hash {
	if s == nil {
		return api.Hash{}
	}
	return sha.Root(s.leaves)
}

// Left is the number of unused leaves.
func (s *Signer) Left() int {
	if s == nil {
		return 0
	}
	return len(s.leaves) - s.used
}

// signBy is a signature of text by a leaf that is counted already.
func (s *Signer) signBy(leaf int, text []byte) ([]byte, error) {
	digest, err := wots.Digest(text, s.digest)
	if err != nil {
		return nil, err
	}
	once, err := wots.Sign(s.seed, leaf, digest)
	if err != nil {
		return nil, err
	}
	path, err := sha.Path(s.leaves, leaf)
	if err != nil {
		return nil, err
	}
	return signature{leaf, once, path}.encode(), nil
}

// count makes the counter tell, safely, that so many leaves are used.
func (s *Signer) count(used int) error {
	record, err := frame.Frame(pack.New().Uint(uint64(used)).Done())
	if err != nil {
		return err
	}
	if err := s.disk.Append(s.name, record); err != nil {
		return err
	}
	return s.disk.Sync(s.name)
}

// counted is how many of a key's leaves the counter tells as used. A torn record is cut off: what is appended behind it
// could not be read again.
func counted(f *files.FS, name string, leaves int) (int, error) {
	b, err := f.Read(name)
	if errors.Is(err, api.ErrNone) {
		return 0, nil
	}
	if err != nil {
		return 0, err
	}
	payloads, whole, torn := frame.Scan(b)
	if torn != nil && !frame.Torn(torn) {
		return 0, api.ErrHalt
	}
	used, err := lastCount(payloads, leaves)
	if err == nil && torn != nil {
		err = f.Cut(name, whole)
	}
	return used, err
}

// lastCount is the last of a counter's numbers, each of which is greater than the one ahead of it.
func lastCount(payloads [][]byte, leaves int) (int, error) {
	used := 0
	for _, payload := range payloads {
		r := pack.Read(payload)
		n := int(r.Uint(uint64(leaves)))
		if r.Done() != nil || n <= used {
			return 0, api.ErrHalt
		}
		used = n
	}
	return used, nil
}
