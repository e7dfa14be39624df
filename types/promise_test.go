package types_test

import (
	"testing"

	"isthmus/api"
	"isthmus/types"
)

// chosen are the indices whose bits are set.
func chosen(bits, n int) []int {
	var l []int
	for i := range n {
		if bits>>i&1 == 1 {
			l = append(l, i)
		}
	}
	return l
}

// powerOf is the power of those of l whose bits are set.
func powerOf(l []api.Validator, bits int) int {
	power := 0
	for _, i := range chosen(bits, len(l)) {
		power += l[i].Power
	}
	return power
}

// verified are, as bits, those validators whose votes are enough for a commit of that block.
func verified(t *testing.T, x voters, block string) []int {
	t.Helper()
	var all []int
	for i := range x.set {
		all = append(all, i)
	}
	c := x.commit(t, hashOf(block), all...)
	var l []int
	for bits := range 1 << len(all) {
		var votes []api.Vote
		for _, i := range chosen(bits, len(all)) {
			votes = append(votes, c.Votes[i])
		}
		err := types.VerifyCommit("one", x.set, params, withVotes(c, votes...))
		if enough := 3*powerOf(x.set, bits) > 2*types.Total(x.set); enough != (err == nil) {
			t.Fatalf("%b of %v: %v", bits, x.set, err)
		}
		if err == nil {
			l = append(l, bits)
		}
	}
	return l
}

// TestTY5Both: for two verified commits for different blocks, more than a third of the power has signed both, as two
// votes show of each who has.
func TestTY5Both(t *testing.T) {
	for _, powers := range [][]int{{1, 1, 1, 1}, {3, 1}, {1, 1, 1}, {5, 3, 2, 1}, {1, 2, 4, 8, 16}, {7, 7, 7, 1, 1}, {10, 10, 11}, {1}} {
		x := newVoters(t, powers...)
		first, second := verified(t, x, "block"), verified(t, x, "other")
		for _, a := range first {
			for _, b := range second {
				if 3*powerOf(x.set, a&b) <= types.Total(x.set) {
					t.Errorf("%b and %b of %v have no third in common", a, b, powers)
				}
			}
		}
		c, d := x.commit(t, hashOf("block"), 0), x.commit(t, hashOf("other"), 0)
		wantErr(t, "who signed both", types.TwoWays("one", x.set, params, c.Votes[0], d.Votes[0]), 0)
	}
}

// TestTY5Decoded: what was signed is verified after it was bytes.
func TestTY5Decoded(t *testing.T) {
	x := newVoters(t, 1, 1, 1, 1)
	c, err := types.DecodeCommit(types.EncodeCommit(x.commit(t, hashOf("block"), 0, 1, 3)))
	must(t, err)
	l, err := types.DecodeSet(types.EncodeSet(x.set))
	must(t, err)
	wantErr(t, "the commit", types.VerifyCommit("one", l, params, c), 0)
	wantErr(t, "the trust", types.VerifyTrust(x.set, l, c), 0)
	if types.SetHash(l) != types.SetHash(x.set) {
		t.Error("another hash of the set")
	}
	b := secondBlock()
	b.Last = x.commit(t, hashOf("last"), 0, 1, 2)
	b.Last.Height = 1
	got, err := types.DecodeBlock(types.EncodeBlock(b))
	must(t, err)
	wantErr(t, "the block", types.CheckBlock(got), 0)
	if types.HeaderHash(got.Header) != types.HeaderHash(b.Header) || types.TxsHash(got.Txs) != got.Header.Txs {
		t.Error("another hash of the header or the transactions")
	}
}
