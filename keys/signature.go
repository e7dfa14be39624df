package keys

import (
	"isthmus/api"
	"isthmus/pack"
	"isthmus/sha"
	"isthmus/wots"
)

const (
	lastLeaf = 1<<api.MaxDepth - 1
	maxOnce  = 4096 // bytes of a one-time part
)

// signature is a leaf, its one-time signature of a digest, and the leaf's path to the root.
type signature struct {
	leaf int
	once []byte
	path []api.Hash
}

// encode is the signature as bytes.
func (s signature) encode() []byte {
	w := pack.New().Uint(uint64(s.leaf)).Bytes(s.once).Uint(uint64(len(s.path)))
	for _, h := range s.path {
		w.Hash(h)
	}
	return w.Done()
}

// decode is the signature that has these bytes.
func decode(sign []byte) (signature, error) {
	r := pack.Read(sign)
	s := signature{leaf: int(r.Uint(lastLeaf))}
	s.once = r.Bytes(maxOnce)
	for range r.Uint(api.MaxDepth) {
		s.path = append(s.path, r.Hash())
	}
	if r.Done() != nil {
		return signature{}, api.ErrForm
	}
	return s, nil
}

// signer is the root of the key that has signed text, if it has signed it. It is an error if no key with these Params
// can have a signature like this one.
func (s signature) signer(p api.Params, text []byte) (api.Hash, error) {
	digest, err := wots.Digest(text, p.Digest)
	if err != nil {
		return api.Hash{}, err
	}
	public, err := wots.From(s.once, s.leaf, digest)
	if err != nil {
		return api.Hash{}, err
	}
	return sha.Fold(public, s.leaf, size(p), s.path)
}
