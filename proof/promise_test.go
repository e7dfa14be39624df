package proof_test

import (
	"errors"
	"testing"

	"isthmus/api"
	"isthmus/avl"
	"isthmus/proof"
)

// TestPR4Proved: of each key exactly one thing can be proved, and its proof is verified, also after it was bytes.
func TestPR4Proved(t *testing.T) {
	samples(func(x *avl.Tree) {
		for _, key := range asked(x) {
			value, found := x.Get(key)
			p, err := proof.Exist(x, key)
			none, errNone := proof.None(x, key)
			if found != (err == nil) || found == (errNone == nil) {
				t.Fatalf("%q: %v and %v", key, err, errNone)
			}
			if found {
				p, err = proof.Decode(proof.Encode(p))
				if err != nil || proof.Verify(x.Root(), key, value, p) != nil {
					t.Fatalf("%q: not verified, or %v", key, err)
				}
				continue
			}
			none, err = proof.DecodeNone(proof.EncodeNone(none))
			if err != nil || proof.VerifyNone(x.Root(), key, none) != nil {
				t.Fatalf("%q: not verified, or %v", key, err)
			}
		}
	})
}

// TestPR4OneValue: with all proofs that a tree has, and spoilt ones, no key has another value than its own.
func TestPR4OneValue(t *testing.T) {
	x := odd(12)
	var offered []proof.Proof
	for _, p := range proofsOf(t, x) {
		offered = append(append(offered, p), spoilt(p)...)
	}
	for i := range 25 {
		key := number(i)
		want, found := x.Get(key)
		for _, value := range []string{want, "", "v0", "v1", want + "\x00", "v" + key} {
			for _, p := range offered {
				if p.Key == key {
					p.Value = value
				}
				if proof.Verify(x.Root(), key, value, p) == nil && (!found || value != want) {
					t.Fatalf("%s has the value %q", key, value)
				}
			}
		}
	}
}

// TestPR4NotBoth: with all proofs that a tree has, and spoilt ones, no key that is there is shown not to be.
func TestPR4NotBoth(t *testing.T) {
	x := odd(6)
	sides := [][]proof.Proof{nil}
	for _, p := range proofsOf(t, x) {
		for _, q := range append(spoilt(p), p) {
			sides = append(sides, []proof.Proof{q})
		}
	}
	for _, pair := range x.Range("", "") {
		for _, left := range sides {
			for _, right := range sides {
				err := proof.VerifyNone(x.Root(), pair.Key, proof.Absent{Left: left, Right: right})
				if !errors.Is(err, api.ErrProof) {
					t.Fatalf("%s is not there: %v", pair.Key, err)
				}
			}
		}
	}
}

// TestPR4Inside: what is inside a tree is not taken for a pair, nor a part of it for the whole.
func TestPR4Inside(t *testing.T) {
	x := letters("abcd")
	p := exist(t, x, "c")
	upper := proof.Proof{Key: p.Key, Value: p.Value, Steps: p.Steps[:1]}
	if err := proof.Verify(rootOf(upper), "c", "of c", upper); err != nil {
		t.Errorf("the part with its own root: %v", err)
	}
	wantErr(t, "a part with the whole's root", proof.Verify(x.Root(), "c", "of c", upper), api.ErrProof)
	wantErr(t, "the whole with a part's root", proof.Verify(rootOf(upper), "c", "of c", p), api.ErrProof)
	// The second part begins with c; in it alone, nothing is ahead of c.
	lower := proof.Absent{Right: []proof.Proof{upper}}
	if err := proof.VerifyNone(rootOf(upper), "b", lower); err != nil {
		t.Errorf("no b in the part: %v", err)
	}
	wantErr(t, "no b in the whole", proof.VerifyNone(x.Root(), "b", lower), api.ErrProof)
}
