package types

import (
	"isthmus/api"
	"isthmus/pack"
)

// DecodeVote is the vote that has these bytes.
func DecodeVote(b []byte) (api.Vote, error) { return decode(b, readVote) }

// DecodeCommit is the commit that has these bytes.
func DecodeCommit(b []byte) (api.Commit, error) { return decode(b, readCommit) }

// DecodeHeader is the header that has these bytes.
func DecodeHeader(b []byte) (api.Header, error) { return decode(b, readHeader) }

// DecodeBlock is the block that has these bytes.
func DecodeBlock(b []byte) (api.Block, error) { return decode(b, readBlock) }

// DecodeSet is the set that has these bytes.
func DecodeSet(b []byte) ([]api.Validator, error) { return decode(b, readSet) }

// decode is what read reads off b, or ErrForm if it can't be read, or leaves bytes behind.
func decode[T any](b []byte, read func(*pack.Reader) T) (T, error) {
	r := pack.Read(b)
	v := read(r)
	if r.Done() != nil {
		var none T
		return none, api.ErrForm
	}
	return v, nil
}

// readList reads a number of parts, at most most, and as many of them, each by read.
func readList[T any](r *pack.Reader, most int, read func(*pack.Reader) T) []T {
	var l []T
	for range r.Count(most) {
		l = append(l, read(r))
	}
	return l
}

func readVote(r *pack.Reader) api.Vote {
	return api.Vote{Kind: r.Int(), Height: r.Int(), Round: r.Int(), Block: r.Hash(), Validator: r.Int(), Sign: r.Bytes(maxPart)}
}

func readCommit(r *pack.Reader) api.Commit {
	return api.Commit{Height: r.Int(), Round: r.Int(), Block: r.Hash(), Votes: readList(r, api.MaxValidators, readVote)}
}

func readHeader(r *pack.Reader) api.Header {
	return api.Header{
		Chain: r.Text(api.MaxName), Height: r.Int(), Time: r.Int(),
		Last: r.Hash(), App: r.Hash(), Txs: r.Hash(), Validators: r.Hash(), Next: r.Hash(),
		Proposer: r.Int(),
	}
}

func readTx(r *pack.Reader) []byte { return r.Bytes(maxPart) }

func readBlock(r *pack.Reader) api.Block {
	return api.Block{Header: readHeader(r), Txs: readList(r, api.MaxTxs, readTx), Last: readCommit(r)}
}

func readValidator(r *pack.Reader) api.Validator {
	return api.Validator{Name: r.Text(api.MaxName), Key: r.Hash(), Power: r.Int()}
}

func readSet(r *pack.Reader) []api.Validator { return readList(r, api.MaxValidators, readValidator) }
