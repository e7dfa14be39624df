package types_test

import (
	"bytes"
	"errors"
	"math"
	"slices"
	"strconv"
	"strings"
	"testing"

	"isthmus/api"
	"isthmus/files"
	"isthmus/keys"
	"isthmus/sha"
	"isthmus/types"
)

// params sign digests long enough that no two texts of these tests have the same one.
var params = api.Params{Digest: 4, Depth: 4}

// notParams are those of no key.
var notParams = []api.Params{{}, {Digest: 0, Depth: 4}, {Digest: 33, Depth: 4}, {Digest: 4, Depth: -1}, {Digest: 4, Depth: 11}}

// numbers are ints of all sizes, for what takes any of them.
var numbers = []int{0, 1, -1, 63, 64, -64, -65, 127, 128, 1 << 16, 1 << 40, math.MaxInt, math.MinInt, math.MaxInt32, math.MinInt32}

// zeros are the digits of a hash of zeros.
const zeros = "0000000000000000000000000000000000000000000000000000000000000000"

// wantErr holds that err is the number want, or nil for 0.
func wantErr(t *testing.T, what string, err error, want api.Errno) {
	t.Helper()
	if want == 0 && err == nil {
		return
	}
	var number api.Errno
	if !errors.As(err, &number) || number != want {
		t.Errorf("%s: %v, want error %d", what, err, want)
	}
}

// must holds that a call of the preparation has no error.
func must(t *testing.T, err error) {
	t.Helper()
	if err != nil {
		t.Fatal(err)
	}
}

// hashOf is a hash that stands for something.
func hashOf(text string) api.Hash { return sha.Sum([]byte(text)) }

// equals is a validator of that name and power, whose key nobody has.
func equals(name string, power int) api.Validator {
	return api.Validator{Name: name, Key: hashOf(name), Power: power}
}

// many are n validators of the same power.
func many(n, power int) []api.Validator {
	var l []api.Validator
	for i := range n {
		l = append(l, equals("v"+strconv.Itoa(i), power))
	}
	return l
}

// voters are validators a, b, c and so on, behind z aa, bb and so on, who can sign.
type voters struct {
	set     []api.Validator
	signers []*keys.Signer
}

// newVoters are voters of these powers.
func newVoters(t *testing.T, powers ...int) voters {
	t.Helper()
	return newVotersBy(t, params, powers...)
}

// newVotersBy are voters who sign by these Params.
func newVotersBy(t *testing.T, p api.Params, powers ...int) voters {
	t.Helper()
	var x voters
	for i, power := range powers {
		name := strings.Repeat(string(rune('a'+i%26)), 1+i/26)
		s, err := keys.Open(files.New(), "k", keys.Seed(name), p)
		must(t, err)
		x.signers = append(x.signers, s)
		x.set = append(x.set, api.Validator{Name: name, Key: s.Root(), Power: power})
	}
	return x
}

// sign is v with the signature, on the chain one, of its Validator.
func (x voters) sign(t *testing.T, v api.Vote) api.Vote {
	t.Helper()
	sign, err := x.signers[v.Validator].Sign(types.VoteBytes("one", v))
	must(t, err)
	v.Sign = sign
	return v
}

// commit is a commit of height 5 and round 1 for that block, with votes of these validators.
func (x voters) commit(t *testing.T, block api.Hash, validators ...int) api.Commit {
	t.Helper()
	c := api.Commit{Height: 5, Round: 1, Block: block}
	for _, i := range validators {
		v := api.Vote{Kind: api.Precommit, Height: 5, Round: 1, Block: block, Validator: i}
		c.Votes = append(c.Votes, x.sign(t, v))
	}
	return c
}

// withVotes is c with other votes.
func withVotes(c api.Commit, votes ...api.Vote) api.Commit {
	c.Votes = votes
	return c
}

// changedVote is v after a change.
func changedVote(v api.Vote, change func(v *api.Vote)) api.Vote {
	v.Sign = bytes.Clone(v.Sign)
	change(&v)
	return v
}

func sameVote(a, b api.Vote) bool {
	return a.Kind == b.Kind && a.Height == b.Height && a.Round == b.Round && a.Block == b.Block &&
		a.Validator == b.Validator && bytes.Equal(a.Sign, b.Sign)
}

func sameCommit(a, b api.Commit) bool {
	return a.Height == b.Height && a.Round == b.Round && a.Block == b.Block && slices.EqualFunc(a.Votes, b.Votes, sameVote)
}

func sameHeader(a, b api.Header) bool { return a == b }

func sameBlock(a, b api.Block) bool {
	return a.Header == b.Header && slices.EqualFunc(a.Txs, b.Txs, bytes.Equal) && sameCommit(a.Last, b.Last)
}

func sameSet(a, b []api.Validator) bool { return slices.Equal(a, b) }

// copyOfCommit is c with memory of its own.
func copyOfCommit(c api.Commit) api.Commit {
	c.Votes = slices.Clone(c.Votes)
	for i, v := range c.Votes {
		c.Votes[i].Sign = bytes.Clone(v.Sign)
	}
	return c
}

// copyOfBlock is b with memory of its own.
func copyOfBlock(b api.Block) api.Block {
	b.Txs = slices.Clone(b.Txs)
	for i, tx := range b.Txs {
		b.Txs[i] = bytes.Clone(tx)
	}
	b.Last = copyOfCommit(b.Last)
	return b
}
