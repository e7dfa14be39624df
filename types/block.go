package types

import (
	"isthmus/api"
	"isthmus/sha"
)

// headerMark begins what a header is hashed from, so that it can't be taken for anything else that is hashed.
const headerMark = 8

// TxsHash is the hash of transactions.
func TxsHash(l [][]byte) api.Hash {
	leaves := make([]api.Hash, len(l))
	for i, tx := range l {
		leaves[i] = sha.Leaf(tx)
	}
	return sha.Root(leaves)
}

// HeaderHash is the hash of a header, by which its block is known.
func HeaderHash(h api.Header) api.Hash {
	return sha.Sum(append([]byte{headerMark}, EncodeHeader(h)...))
}

// CheckBlock is ErrBlock if b can't be a block, whatever stands ahead of it.
func CheckBlock(b api.Block) error {
	if !headerCanBe(b.Header) || !txsCanBe(b) || !lastCanBe(b) {
		return api.ErrBlock
	}
	return nil
}

// headerCanBe tells whether the name and the numbers of a header are in their bounds.
func headerCanBe(h api.Header) bool {
	return isName(h.Chain) && h.Height >= 1 && h.Height <= api.MaxHeight &&
		h.Time >= 0 && h.Time <= api.MaxTime && h.Proposer >= 0
}

// txsCanBe tells whether a block has as many transactions, and as long ones, as it may, and those that its header tells.
func txsCanBe(b api.Block) bool {
	if len(b.Txs) > api.MaxTxs {
		return false
	}
	for _, tx := range b.Txs {
		if len(tx) > maxPart {
			return false
		}
	}
	return b.Header.Txs == TxsHash(b.Txs)
}

// lastCanBe tells whether the commit is for the block ahead of this one, or, for a first block, is none.
func lastCanBe(b api.Block) bool {
	none := api.Hash{}
	last, c := b.Header.Last, b.Last
	if b.Header.Height == 1 {
		return last == none && c.Height == 0 && c.Round == 0 && c.Block == none && len(c.Votes) == 0
	}
	return last != none && c.Height == b.Header.Height-1 && c.Block == last
}
