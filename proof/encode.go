package proof

import (
	"isthmus/api"
	"isthmus/avl"
	"isthmus/pack"
)

// Encode is p as bytes, whether it is valid or not.
func Encode(p Proof) []byte {
	w := pack.New().Text(p.Key).Text(p.Value).Uint(uint64(len(p.Steps)))
	for _, s := range p.Steps {
		w.Bool(s.Second).Int(s.Many).Hash(s.Other)
	}
	return w.Done()
}

// Decode is the proof that has these bytes.
func Decode(b []byte) (Proof, error) {
	r := pack.Read(b)
	p := Proof{Key: r.Text(api.MaxBytes), Value: r.Text(api.MaxBytes)}
	for range r.Count(maxSteps) {
		p.Steps = append(p.Steps, avl.Step{Second: r.Bool(), Many: r.Int(), Other: r.Hash()})
	}
	if r.Done() != nil {
		return Proof{}, api.ErrForm
	}
	return p, nil
}

// EncodeNone is p as bytes, whether it could be verified or not.
func EncodeNone(p Absent) []byte {
	w := pack.New()
	writeSide(w, p.Left)
	writeSide(w, p.Right)
	return w.Done()
}

// DecodeNone is the proof that a key is not there that has these bytes.
func DecodeNone(b []byte) (Absent, error) {
	r := pack.Read(b)
	left, err := readSide(r)
	if err != nil {
		return Absent{}, err
	}
	right, err := readSide(r)
	if err != nil {
		return Absent{}, err
	}
	if r.Done() != nil {
		return Absent{}, api.ErrForm
	}
	return Absent{Left: left, Right: right}, nil
}

// writeSide appends the proofs of one side.
func writeSide(w *pack.Writer, side []Proof) {
	w.Uint(uint64(len(side)))
	for _, p := range side {
		w.Bytes(Encode(p))
	}
}

// readSide reads the proofs of one side. If their number can't be read, there are none, and r keeps the error.
func readSide(r *pack.Reader) ([]Proof, error) {
	var side []Proof
	for range r.Count(1) {
		// A proof may be as long as what is left: its two texts alone may have more than MaxBytes together.
		p, err := Decode(r.Bytes(r.Left()))
		if err != nil {
			return nil, err
		}
		side = append(side, p)
	}
	return side, nil
}
