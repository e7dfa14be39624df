package txs

import (
	"isthmus/api"
	"isthmus/pack"
	"isthmus/sha"
)

const (
	signedMark = "tx" // begins what is signed, so that it is nothing else that a key signs
	hashMark   = 9    // begins what is hashed
	maxTx      = 1 << 16
)

// Bytes is what is signed for a chain.
func Bytes(chain string, x Tx) []byte {
	w := pack.New().Text(signedMark).Text(chain)
	writeUnsigned(w, x)
	return w.Done()
}

// Encode is a transaction as bytes, if it can be.
func Encode(x Tx) ([]byte, error) {
	if err := Check(x); err != nil {
		return nil, err
	}
	w := pack.New()
	writeUnsigned(w, x)
	b := w.Bytes(x.Sign).Done()
	if len(b) > maxTx {
		return nil, api.ErrLong
	}
	return b, nil
}

// Decode is the transaction that has these bytes.
func Decode(b []byte) (Tx, error) {
	if len(b) > maxTx {
		return Tx{}, api.ErrForm
	}
	r := pack.Read(b)
	x := readTx(r)
	if r.Done() != nil || Check(x) != nil {
		return Tx{}, api.ErrForm
	}
	return x, nil
}

// Hash is the sum by which a transaction's bytes are known.
func Hash(b []byte) api.Hash {
	return sha.Sum(append([]byte{hashMark}, b...))
}

// writeUnsigned appends all of a transaction but its signature.
func writeUnsigned(w *pack.Writer, x Tx) {
	w.Text(x.Account).Int(x.Seq).Text(x.Fee.Denom).Int(x.Fee.Amount)
	writeList(w, x.Msgs, writeMsg)
}

func writeMsg(w *pack.Writer, m Msg) {
	w.Int(m.Kind)
	writeList(w, m.Texts, writeText)
	writeList(w, m.Ints, writeInt)
	writeList(w, m.Data, writeData)
}

func writeText(w *pack.Writer, s string) { w.Text(s) }

func writeInt(w *pack.Writer, n int) { w.Int(n) }

func writeData(w *pack.Writer, b []byte) { w.Bytes(b) }

// writeList appends the number of the parts of l, and what write appends for each.
func writeList[T any](w *pack.Writer, l []T, write func(*pack.Writer, T)) {
	w.Uint(uint64(len(l)))
	for _, v := range l {
		write(w, v)
	}
}

// readTx reads what writeUnsigned and Bytes of a Writer appended; whether it can be is for Check to tell, so that no part has a bound of its own here.
func readTx(r *pack.Reader) Tx {
	return Tx{
		Account: r.Text(maxTx), Seq: r.Int(), Fee: api.Coin{Denom: r.Text(maxTx), Amount: r.Int()},
		Msgs: readList(r, readMsg), Sign: r.Bytes(maxTx),
	}
}

func readMsg(r *pack.Reader) Msg {
	return Msg{Kind: r.Int(), Texts: readList(r, readText), Ints: readList(r, readInt), Data: readList(r, readData)}
}

func readText(r *pack.Reader) string { return r.Text(maxTx) }

func readInt(r *pack.Reader) int { return r.Int() }

func readData(r *pack.Reader) []byte { return r.Bytes(maxTx) }

// readList reads a number of parts, and as many of them, each by read.
func readList[T any](r *pack.Reader, read func(*pack.Reader) T) []T {
	var l []T
	for range r.Count(maxTx) {
		l = append(l, read(r))
	}
	return l
}
