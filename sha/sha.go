// Package sha is layer 1: SHA-256 (FIPS 180-4) and Merkle trees (RFC 6962): see shared/doc/01-sha.md.
package sha

import (
	"math/bits"
	"strings"

	"isthmus/api"
)

const (
	blockBytes = 64
	countBytes = 8 // at the end of the last block: how many bits were written
	rounds     = 64
	digits     = "0123456789abcdef"
)

// begin is the state ahead of the first block.
var begin = [8]uint32{
	0x6a09e667, 0xbb67ae85, 0x3c6ef372, 0xa54ff53a, 0x510e527f, 0x9b05688c, 0x1f83d9ab, 0x5be0cd19,
}

// constants has a word for each round.
var constants = [rounds]uint32{
	0x428a2f98, 0x71374491, 0xb5c0fbcf, 0xe9b5dba5, 0x3956c25b, 0x59f111f1, 0x923f82a4, 0xab1c5ed5,
	0xd807aa98, 0x12835b01, 0x243185be, 0x550c7dc3, 0x72be5d74, 0x80deb1fe, 0x9bdc06a7, 0xc19bf174,
	0xe49b69c1, 0xefbe4786, 0x0fc19dc6, 0x240ca1cc, 0x2de92c6f, 0x4a7484aa, 0x5cb0a9dc, 0x76f988da,
	0x983e5152, 0xa831c66d, 0xb00327c8, 0xbf597fc7, 0xc6e00bf3, 0xd5a79147, 0x06ca6351, 0x14292967,
	0x27b70a85, 0x2e1b2138, 0x4d2c6dfc, 0x53380d13, 0x650a7354, 0x766a0abb, 0x81c2c92e, 0x92722c85,
	0xa2bfe8a1, 0xa81a664b, 0xc24b8b70, 0xc76c51a3, 0xd192e819, 0xd6990624, 0xf40e3585, 0x106aa070,
	0x19a4c116, 0x1e376c08, 0x2748774c, 0x34b0bcb5, 0x391c0cb3, 0x4ed8aa4a, 0x5b9cca4f, 0x682e6ff3,
	0x748f82ee, 0x78a5636f, 0x84c87814, 0x8cc70208, 0x90befffa, 0xa4506ceb, 0xbef9a3f7, 0xc67178f2,
}

// Sum is the hash of b.
func Sum(b []byte) api.Hash {
	h := New()
	h.Write(b)
	return h.Sum()
}

// Text is h as 64 lowercase hexadecimal digits.
func Text(h api.Hash) string {
	var text [2 * len(h)]byte
	for i, b := range h {
		text[2*i] = digits[b>>4]
		text[2*i+1] = digits[b&15]
	}
	return string(text[:])
}

// Parse is the hash whose Text is s.
func Parse(s string) (api.Hash, error) {
	var h api.Hash
	if len(s) != 2*len(h) {
		return api.Hash{}, api.ErrForm
	}
	for i := range h {
		high := strings.IndexByte(digits, s[2*i])
		low := strings.IndexByte(digits, s[2*i+1])
		if high < 0 || low < 0 {
			return api.Hash{}, api.ErrForm
		}
		h[i] = byte(high<<4 | low)
	}
	return h, nil
}

// Hash is the hash of bytes that are written piece by piece.
type Hash struct {
	state [8]uint32
	block [blockBytes]byte // begins with the bytes that make no whole block yet
	size  uint64           // of all that was written
}

// New is a Hash to which nothing has been written.
func New() *Hash { return &Hash{state: begin} }

// Write appends b to what is hashed.
func (h *Hash) Write(b []byte) {
	if h == nil {
		return
	}
	for len(b) > 0 {
		n := copy(h.block[h.size%blockBytes:], b)
		b = b[n:]
		h.size += uint64(n)
		if h.size%blockBytes == 0 {
			h.state = mix(h.state, h.block)
		}
	}
}

// Sum is the hash of all that was written so far; h can go on.
func (h *Hash) Sum() api.Hash {
	if h == nil {
		return api.Hash{}
	}
	var sum api.Hash
	for i, word := range finish(h.state, h.block, h.size) {
		for j := range 4 {
			sum[4*i+j] = byte(word >> (24 - 8*j))
		}
	}
	return sum
}

// Clone is an independent copy of h.
func (h *Hash) Clone() *Hash {
	if h == nil {
		return nil
	}
	twin := *h
	return &twin
}

// finish is the state after the padding: a bit 1, zeros, and the number of bits.
func finish(state [8]uint32, block [blockBytes]byte, size uint64) [8]uint32 {
	used := size % blockBytes
	block[used] = 0x80
	clear(block[used+1:])
	if used+1 > blockBytes-countBytes {
		state = mix(state, block)
		clear(block[:])
	}
	for i := range countBytes {
		block[blockBytes-1-i] = byte(size * 8 >> (8 * i))
	}
	return mix(state, block)
}

// mix is the state after one more block.
func mix(state [8]uint32, block [blockBytes]byte) [8]uint32 {
	words := expand(block)
	a, b, c, d, e, f, g, h := state[0], state[1], state[2], state[3], state[4], state[5], state[6], state[7]
	for i := range rounds {
		turned := bits.RotateLeft32(e, -6) ^ bits.RotateLeft32(e, -11) ^ bits.RotateLeft32(e, -25)
		chosen := e&f ^ ^e&g
		first := h + turned + chosen + constants[i] + words[i]
		turned = bits.RotateLeft32(a, -2) ^ bits.RotateLeft32(a, -13) ^ bits.RotateLeft32(a, -22)
		majority := a&b ^ a&c ^ b&c
		a, b, c, d, e, f, g, h = first+turned+majority, a, b, c, d+first, e, f, g
	}
	return [8]uint32{
		state[0] + a, state[1] + b, state[2] + c, state[3] + d,
		state[4] + e, state[5] + f, state[6] + g, state[7] + h,
	}
}

// expand makes a word for each round: those of the block, and others from them.
func expand(block [blockBytes]byte) [rounds]uint32 {
	var words [rounds]uint32
	for i := range blockBytes / 4 {
		words[i] = uint32(block[4*i])<<24 | uint32(block[4*i+1])<<16 | uint32(block[4*i+2])<<8 | uint32(block[4*i+3])
	}
	for i := range rounds - blockBytes/4 {
		w, v := words[i+1], words[i+14]
		near := bits.RotateLeft32(w, -7) ^ bits.RotateLeft32(w, -18) ^ w>>3
		far := bits.RotateLeft32(v, -17) ^ bits.RotateLeft32(v, -19) ^ v>>10
		words[i+16] = words[i] + near + words[i+9] + far
	}
	return words
}
