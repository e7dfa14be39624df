package types

import (
	"isthmus/api"
	"isthmus/pack"
)

// EncodeVote is v as bytes, whether it can be or not, as each of these functions encodes whatever it is given.
func EncodeVote(v api.Vote) []byte { return encode(v, writeVote) }

// EncodeCommit is c as bytes.
func EncodeCommit(c api.Commit) []byte { return encode(c, writeCommit) }

// EncodeHeader is h as bytes.
func EncodeHeader(h api.Header) []byte { return encode(h, writeHeader) }

// EncodeBlock is b as bytes.
func EncodeBlock(b api.Block) []byte { return encode(b, writeBlock) }

// EncodeSet is l as bytes.
func EncodeSet(l []api.Validator) []byte { return encode(l, writeSet) }

// encode is v as the bytes that write appends for it.
func encode[T any](v T, write func(*pack.Writer, T)) []byte {
	w := pack.New()
	write(w, v)
	return w.Done()
}

// writeList appends the number of the parts of l, and what write appends for each.
func writeList[T any](w *pack.Writer, l []T, write func(*pack.Writer, T)) {
	w.Uint(uint64(len(l)))
	for _, v := range l {
		write(w, v)
	}
}

func writeVote(w *pack.Writer, v api.Vote) {
	w.Int(v.Kind).Int(v.Height).Int(v.Round).Hash(v.Block).Int(v.Validator).Bytes(v.Sign)
}

func writeCommit(w *pack.Writer, c api.Commit) {
	w.Int(c.Height).Int(c.Round).Hash(c.Block)
	writeList(w, c.Votes, writeVote)
}

func writeHeader(w *pack.Writer, h api.Header) {
	w.Text(h.Chain).Int(h.Height).Int(h.Time)
	w.Hash(h.Last).Hash(h.App).Hash(h.Txs).Hash(h.Validators).Hash(h.Next)
	w.Int(h.Proposer)
}

func writeTx(w *pack.Writer, tx []byte) { w.Bytes(tx) }

func writeBlock(w *pack.Writer, b api.Block) {
	writeHeader(w, b.Header)
	writeList(w, b.Txs, writeTx)
	writeCommit(w, b.Last)
}

func writeValidator(w *pack.Writer, v api.Validator) {
	w.Text(v.Name).Hash(v.Key).Int(v.Power)
}

func writeSet(w *pack.Writer, l []api.Validator) { writeList(w, l, writeValidator) }
