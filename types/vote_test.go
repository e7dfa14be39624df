package types_test

import (
	"bytes"
	"encoding/hex"
	"math"
	"strconv"
	"testing"

	"isthmus/api"
	"isthmus/keys"
	"isthmus/sha"
	"isthmus/types"
)

// blockDigits are the digits of hashOf("block").
const blockDigits = "496aca80e4d8f29fb8e8cd816c3afb48d3f103970b3a2ee1600c08ca67326dee"

// TestTY2VoteBytes: bytes that were made outside Go.
func TestTY2VoteBytes(t *testing.T) {
	block := hashOf("block")
	cases := []struct {
		chain string
		v     api.Vote
		want  string
	}{
		{"one", api.Vote{Kind: api.Prevote, Height: 1}, "04766f7465036f6e65020200" + zeros},
		{"one", api.Vote{Kind: api.Precommit, Height: 1 << 40, Round: 1 << 30, Block: block},
			"04766f7465036f6e65" + "04" + "808080808040" + "8080808008" + blockDigits},
		{"", api.Vote{}, "04766f746500000000" + zeros},
		{"two chains", api.Vote{Kind: -1, Height: -2, Round: -3, Block: block}, "04766f74650a74776f20636861696e73010305" + blockDigits},
		{"one", api.Vote{Kind: math.MaxInt, Height: math.MinInt, Round: math.MaxInt, Block: block},
			"04766f7465036f6e65feffffffffffffffff01ffffffffffffffffff01feffffffffffffffff01" + blockDigits},
	}
	for _, c := range cases {
		for _, validator := range numbers {
			c.v.Validator, c.v.Sign = validator, []byte("any")
			if got := hex.EncodeToString(types.VoteBytes(c.chain, c.v)); got != c.want {
				t.Fatalf("%v: %s", c.v, got)
			}
		}
	}
}

// TestTY2Signed: a commit that was signed outside Go.
func TestTY2Signed(t *testing.T) {
	p := api.Params{Digest: 4, Depth: 3}
	x := newVotersBy(t, p, 1, 1, 1)
	c := x.commit(t, hashOf("block"), 0, 1, 2)
	if got := sha.Text(sha.Sum(types.EncodeCommit(c))); got != "0d6a3785f617d80c0e65d641b749a1f734dd13c0b0dd296dd6a0857edc26e287" {
		t.Errorf("%s", got)
	}
	wantErr(t, "its votes", types.VerifyCommit("one", x.set, p, c), 0)
}

// TestTY2SignedVote: a vote that was signed outside Go.
func TestTY2SignedVote(t *testing.T) {
	b, err := hex.DecodeString("0202" + "00" + zeros + "00" + "a401" + "00" + "a001" +
		"b6441a48431ca1681048ff1de6ad4eb3099159cd6d65e6cbbead4893c7110bd2" +
		"0a1e76492a31e369505ee1d5a0309d5932e07a8d945872c5f34368448fb2ac0b" +
		"748d9eb6e5ed5ae235ab06262e8cdf5c5b4bae8a4d79cd0cd28335dfa5b8a6a7" +
		"855ed390d9d37ca905117a39f6e8ba1c020d3c2df5ba45f650df6c55c62f740d" +
		"625322513e22efbfaa3b045c47f744873af7308416a8ea0bd62674d1204549e5" + "00")
	must(t, err)
	v, err := types.DecodeVote(b)
	must(t, err)
	key, err := sha.Parse("92d77711fbd19c4e8ff5ccfff29548ebb85e7406038b6d26d85af9d709cb7974")
	must(t, err)
	l := []api.Validator{{Name: "a", Key: key, Power: 1}}
	wantErr(t, "the vote", types.VerifyVote("one", l, api.Params{Digest: 1}, v), 0)
	wantErr(t, "on another chain", types.VerifyVote("two", l, api.Params{Digest: 1}, v), api.ErrSign)
}

func TestTY2VerifyVote(t *testing.T) {
	x := newVoters(t, 1, 1, 1)
	cases := []api.Vote{
		{Kind: api.Prevote, Height: 1},
		{Kind: api.Precommit, Height: 1, Block: hashOf("block"), Validator: 1},
		{Kind: api.Prevote, Height: api.MaxHeight, Round: 1 << 30, Block: hashOf("block"), Validator: 2},
		{Kind: api.Precommit, Height: api.MaxHeight, Round: 1 << 30, Validator: 2},
		{Kind: api.Precommit, Height: 7, Round: 1},
	}
	for _, v := range cases {
		wantErr(t, "a vote", types.VerifyVote("one", x.set, params, x.sign(t, v)), 0)
	}
	v := x.sign(t, cases[1])
	// Neither the set itself nor the names in it are checked.
	odd := []api.Validator{{Power: -1}, {Key: x.set[1].Key}}
	wantErr(t, "in a set that can't be", types.VerifyVote("one", odd, params, v), 0)
	wantErr(t, "a second time", types.VerifyVote("one", x.set, params, v), 0)
}

// TestTY2VerifyVoteErrors: votes that can't be, though their validators have signed them.
func TestTY2VerifyVoteErrors(t *testing.T) {
	x := newVoters(t, 1, 1)
	good := api.Vote{Kind: api.Precommit, Height: 5, Round: 1, Block: hashOf("block"), Validator: 1}
	cases := []struct {
		what   string
		change func(v *api.Vote)
	}{
		{"Kind 0", func(v *api.Vote) { v.Kind = 0 }},
		{"Kind 3", func(v *api.Vote) { v.Kind = 3 }},
		{"Kind -1", func(v *api.Vote) { v.Kind = -1 }},
		{"Kind -2", func(v *api.Vote) { v.Kind = -2 }},
		{"Height 0", func(v *api.Vote) { v.Height = 0 }},
		{"Height -1", func(v *api.Vote) { v.Height = -1 }},
		{"Height 2^40 + 1", func(v *api.Vote) { v.Height = api.MaxHeight + 1 }},
		{"the least Height", func(v *api.Vote) { v.Height = math.MinInt }},
		{"Round -1", func(v *api.Vote) { v.Round = -1 }},
		{"Round 2^30 + 1", func(v *api.Vote) { v.Round = 1<<30 + 1 }},
		{"the greatest Round", func(v *api.Vote) { v.Round = math.MaxInt }},
	}
	for _, c := range cases {
		v := good
		c.change(&v)
		v = x.sign(t, v)
		wantErr(t, c.what, types.VerifyVote("one", x.set, params, v), api.ErrVote)
		for _, p := range notParams {
			wantErr(t, c.what+" and wrong Params", types.VerifyVote("one", x.set, p, v), api.ErrVote)
		}
	}
	v := x.sign(t, good)
	for _, validator := range []int{-1, 2, 3, math.MaxInt, math.MinInt} {
		v.Validator = validator
		wantErr(t, "Validator "+strconv.Itoa(validator), types.VerifyVote("one", x.set, params, v), api.ErrVote)
		wantErr(t, "Validator and Params", types.VerifyVote("one", x.set, notParams[0], v), api.ErrVote)
	}
	v.Validator = 0
	wantErr(t, "nobody", types.VerifyVote("one", nil, params, v), api.ErrVote)
}

// TestTY2VerifyVoteParams: wrong Params are told ahead of a wrong signature.
func TestTY2VerifyVoteParams(t *testing.T) {
	x := newVoters(t, 1)
	v := x.sign(t, api.Vote{Kind: api.Prevote, Height: 1})
	for _, p := range notParams {
		wantErr(t, "no Params", types.VerifyVote("one", x.set, p, v), api.ErrKey)
		wantErr(t, "no Params and no Sign", types.VerifyVote("one", x.set, p, api.Vote{Kind: api.Prevote, Height: 1}), api.ErrKey)
	}
	for _, p := range []api.Params{{Digest: 5, Depth: 4}, {Digest: 3, Depth: 4}, {Digest: 4, Depth: 3}, {Digest: 4, Depth: 5}} {
		wantErr(t, "other Params", types.VerifyVote("one", x.set, p, v), api.ErrSign)
	}
}

// TestTY2VerifyVoteSign: a signature is for each part of the vote, and nobody else's.
func TestTY2VerifyVoteSign(t *testing.T) {
	x := newVoters(t, 1, 1)
	good := x.sign(t, api.Vote{Kind: api.Precommit, Height: 5, Round: 1, Block: hashOf("block")})
	cases := []struct {
		what   string
		change func(v *api.Vote)
	}{
		{"Kind", func(v *api.Vote) { v.Kind = api.Prevote }},
		{"Height", func(v *api.Vote) { v.Height = 6 }},
		{"Round", func(v *api.Vote) { v.Round = 0 }},
		{"Block", func(v *api.Vote) { v.Block[31] ^= 1 }},
		{"no Block", func(v *api.Vote) { v.Block = api.Hash{} }},
		{"Validator", func(v *api.Vote) { v.Validator = 1 }},
		{"no Sign", func(v *api.Vote) { v.Sign = nil }},
		{"a short Sign", func(v *api.Vote) { v.Sign = v.Sign[:len(v.Sign)-1] }},
		{"a long Sign", func(v *api.Vote) { v.Sign = append(v.Sign, 0) }},
		{"a Sign of nothing", func(v *api.Vote) { v.Sign = make([]byte, len(v.Sign)) }},
	}
	for _, c := range cases {
		wantErr(t, c.what, types.VerifyVote("one", x.set, params, changedVote(good, c.change)), api.ErrSign)
	}
	for i := range good.Sign {
		v := changedVote(good, func(v *api.Vote) { v.Sign[i] ^= 1 })
		wantErr(t, "byte "+strconv.Itoa(i), types.VerifyVote("one", x.set, params, v), api.ErrSign)
	}
	for _, chain := range []string{"", "on", "two", "One", "one ", "one\x00"} {
		wantErr(t, "chain "+chain, types.VerifyVote(chain, x.set, params, good), api.ErrSign)
	}
	l := []api.Validator{x.set[1], x.set[0]}
	wantErr(t, "another order", types.VerifyVote("one", l, params, good), api.ErrSign)
}

// TestTY2VerifyCommitPower: more than two thirds are needed, whoever they are.
func TestTY2VerifyCommitPower(t *testing.T) {
	cases := []struct {
		what   string
		powers []int
		votes  []int
		want   api.Errno
	}{
		{"three of four", []int{1, 1, 1, 1}, []int{0, 1, 2}, 0},
		{"the last three of four", []int{1, 1, 1, 1}, []int{1, 2, 3}, 0},
		{"all of four", []int{1, 1, 1, 1}, []int{0, 1, 2, 3}, 0},
		{"two of four", []int{1, 1, 1, 1}, []int{0, 3}, api.ErrPower},
		{"the first alone", []int{3, 1}, []int{0}, 0},
		{"the second alone", []int{3, 1}, []int{1}, api.ErrPower},
		{"two thirds", []int{1, 1, 1}, []int{0, 1}, api.ErrPower},
		{"two thirds in one", []int{2, 1}, []int{0}, api.ErrPower},
		{"just more than two thirds", []int{201, 100}, []int{0}, 0},
		{"just less than two thirds", []int{199, 100}, []int{0}, api.ErrPower},
		{"half", []int{1, 1}, []int{0}, api.ErrPower},
		{"one", []int{1}, []int{0}, 0},
		{"nobody", []int{1}, nil, api.ErrPower},
		{"the greatest power", []int{api.MaxPower}, []int{0}, 0},
		{"just two thirds of the greatest power", []int{api.MaxPower/3*2 + 1, api.MaxPower / 3}, []int{0}, 0},
		{"not two thirds of the greatest power", []int{api.MaxPower / 3 * 2, api.MaxPower/3 + 1}, []int{0}, api.ErrPower},
	}
	for _, c := range cases {
		x := newVoters(t, c.powers...)
		wantErr(t, c.what, types.VerifyCommit("one", x.set, params, x.commit(t, hashOf("block"), c.votes...)), c.want)
	}
}

// TestTY2VerifyCommitMany: as many validators as there may be.
func TestTY2VerifyCommitMany(t *testing.T) {
	p := api.Params{Digest: 2, Depth: 1}
	powers := make([]int, api.MaxValidators)
	all := make([]int, api.MaxValidators)
	for i := range powers {
		powers[i], all[i] = 1, i
	}
	x := newVotersBy(t, p, powers...)
	c := x.commit(t, hashOf("block"), all...)
	for n := range len(all) + 1 {
		want := api.Errno(0)
		if n < 22 {
			want = api.ErrPower
		}
		wantErr(t, strconv.Itoa(n), types.VerifyCommit("one", x.set, p, withVotes(c, c.Votes[:n]...)), want)
	}
	more := append(x.set, equals("more", 1))
	wantErr(t, "one too many", types.VerifyCommit("one", more, p, c), api.ErrSet)
}

// TestTY2VerifyCommitSet: an error of the set is the first one, and a missing block the next one.
func TestTY2VerifyCommitSet(t *testing.T) {
	x := newVoters(t, 1, 1)
	block := hashOf("block")
	good, none := x.commit(t, block, 0, 1), x.commit(t, api.Hash{}, 0, 1)
	bad := []api.Validator{x.set[0], x.set[0]}
	for _, c := range []api.Commit{good, none, {}, by(5), withVotes(good, api.Vote{})} {
		wantErr(t, "nobody", types.VerifyCommit("one", nil, params, c), api.ErrSet)
		wantErr(t, "one twice", types.VerifyCommit("one", bad, params, c), api.ErrSet)
		wantErr(t, "one twice, and no Params", types.VerifyCommit("one", bad, notParams[0], c), api.ErrSet)
	}
	wantErr(t, "no block", types.VerifyCommit("one", x.set, params, none), api.ErrVote)
	wantErr(t, "no block and no votes", types.VerifyCommit("one", x.set, params, withVotes(none)), api.ErrVote)
	wantErr(t, "no block and no Params", types.VerifyCommit("one", x.set, notParams[0], none), api.ErrVote)
	wantErr(t, "no votes", types.VerifyCommit("one", x.set, params, withVotes(good)), api.ErrPower)
	wantErr(t, "no votes and no Params", types.VerifyCommit("one", x.set, notParams[0], withVotes(good)), api.ErrPower)
	wantErr(t, "no Params", types.VerifyCommit("one", x.set, notParams[0], good), api.ErrKey)
	wantErr(t, "another chain", types.VerifyCommit("two", x.set, params, good), api.ErrSign)
}

// TestTY2VerifyCommitVotes: each vote belongs to the commit, though its validator has signed it as it is.
func TestTY2VerifyCommitVotes(t *testing.T) {
	x := newVoters(t, 1, 1, 1)
	block := hashOf("block")
	c := x.commit(t, block, 0, 1, 2)
	cases := []struct {
		what   string
		change func(v *api.Vote)
	}{
		{"a prevote", func(v *api.Vote) { v.Kind = api.Prevote }},
		{"another height", func(v *api.Vote) { v.Height = 6 }},
		{"another round", func(v *api.Vote) { v.Round = 2 }},
		{"another block", func(v *api.Vote) { v.Block = hashOf("other") }},
		{"no block", func(v *api.Vote) { v.Block = api.Hash{} }},
	}
	for _, k := range cases {
		for i := range c.Votes {
			v := c.Votes[i]
			k.change(&v)
			other := copyOfCommit(c)
			other.Votes[i] = x.sign(t, v)
			wantErr(t, "signed", types.VerifyVote("one", x.set, params, other.Votes[i]), 0)
			wantErr(t, k.what, types.VerifyCommit("one", x.set, params, other), api.ErrVote)
			wantErr(t, k.what+", and no Params", types.VerifyCommit("one", x.set, notParams[0], withVotes(other, other.Votes[i])), api.ErrVote)
		}
	}
	for i := range c.Votes {
		other := copyOfCommit(c)
		other.Votes[i].Sign[20] ^= 1
		wantErr(t, "a wrong Sign", types.VerifyCommit("one", x.set, params, other), api.ErrSign)
		other.Votes[i].Sign = nil
		wantErr(t, "no Sign", types.VerifyCommit("one", x.set, params, other), api.ErrSign)
	}
	for _, validator := range []int{-1, 3, math.MinInt, math.MaxInt} {
		other := copyOfCommit(c)
		other.Votes[2].Validator = validator
		wantErr(t, "no such validator", types.VerifyCommit("one", x.set, params, other), api.ErrVote)
		wantErr(t, "no such validator alone", types.VerifyCommit("one", x.set, params, withVotes(other, other.Votes[2])), api.ErrVote)
	}
}

// TestTY2VerifyCommitOrder: the validators increase, so that nobody counts twice.
func TestTY2VerifyCommitOrder(t *testing.T) {
	x := newVoters(t, 1, 1, 1, 1)
	votes := x.commit(t, hashOf("block"), 0, 1, 2, 3).Votes
	cases := []struct {
		order []int
		want  api.Errno
	}{
		{[]int{0, 1, 2, 3}, 0}, {[]int{0, 2, 3}, 0}, {[]int{1, 2, 3}, 0},
		{[]int{1, 0, 2, 3}, api.ErrVote}, {[]int{0, 1, 3, 2}, api.ErrVote}, {[]int{3, 2, 1, 0}, api.ErrVote},
		{[]int{0, 0}, api.ErrVote}, {[]int{0, 0, 0}, api.ErrVote}, {[]int{0, 1, 1}, api.ErrVote}, {[]int{0, 1, 2, 2}, api.ErrVote},
		{[]int{0, 1, 2, 3, 3}, api.ErrVote}, {[]int{0, 1, 2, 0}, api.ErrVote}, {[]int{0, 2, 1, 3}, api.ErrVote},
	}
	for _, c := range cases {
		commit := api.Commit{Height: 5, Round: 1, Block: hashOf("block")}
		for _, i := range c.order {
			commit.Votes = append(commit.Votes, votes[i])
		}
		wantErr(t, "order", types.VerifyCommit("one", x.set, params, commit), c.want)
	}
}

// TestTY2VerifyCommitFirst: the error is that of the first vote that has one, also if there is power enough without it.
func TestTY2VerifyCommitFirst(t *testing.T) {
	x := newVoters(t, 5, 1, 1)
	c := x.commit(t, hashOf("block"), 0, 1, 2)
	unsigned := c.Votes[1]
	unsigned.Sign = nil
	late := c.Votes[2]
	late.Height = 6
	wantErr(t, "signature, then height", types.VerifyCommit("one", x.set, params, withVotes(c, c.Votes[0], unsigned, late)), api.ErrSign)
	unsigned.Validator, late.Validator = 2, 1
	wantErr(t, "height, then signature", types.VerifyCommit("one", x.set, params, withVotes(c, c.Votes[0], late, unsigned)), api.ErrVote)
	wantErr(t, "power enough, then height", types.VerifyCommit("one", x.set, params, withVotes(c, c.Votes[0], late)), api.ErrVote)
	wantErr(t, "no power, but a signature", types.VerifyCommit("one", x.set, params, withVotes(c, unsigned)), api.ErrSign)
	unsigned.Validator = 0
	wantErr(t, "order ahead of the signature", types.VerifyCommit("one", x.set, params, withVotes(c, c.Votes[0], unsigned)), api.ErrVote)
}

// TestTY2VerifyCommitBounds: a commit whose Height or Round can't be has no votes that can be.
func TestTY2VerifyCommitBounds(t *testing.T) {
	x := newVoters(t, 1)
	cases := []struct {
		height, round int
		want          api.Errno
	}{
		{1, 0, 0}, {api.MaxHeight, 1 << 30, 0}, {0, 0, api.ErrVote}, {-1, 0, api.ErrVote}, {api.MaxHeight + 1, 0, api.ErrVote},
		{1, -1, api.ErrVote}, {1, 1<<30 + 1, api.ErrVote},
	}
	for _, c := range cases {
		v := x.sign(t, api.Vote{Kind: api.Precommit, Height: c.height, Round: c.round, Block: hashOf("block")})
		commit := api.Commit{Height: c.height, Round: c.round, Block: v.Block, Votes: []api.Vote{v}}
		wantErr(t, strconv.Itoa(c.height)+" "+strconv.Itoa(c.round), types.VerifyCommit("one", x.set, params, commit), c.want)
	}
}

func TestTY2TwoWays(t *testing.T) {
	x := newVoters(t, 1, 1)
	block, other := hashOf("block"), hashOf("other")
	a := x.sign(t, api.Vote{Kind: api.Precommit, Height: 5, Round: 1, Block: block})
	cases := []struct {
		what string
		b    api.Vote
		want api.Errno
	}{
		{"two blocks", api.Vote{Kind: api.Precommit, Height: 5, Round: 1, Block: other}, 0},
		{"a block and none", api.Vote{Kind: api.Precommit, Height: 5, Round: 1}, 0},
		{"one block", api.Vote{Kind: api.Precommit, Height: 5, Round: 1, Block: block}, api.ErrVote},
		{"another kind", api.Vote{Kind: api.Prevote, Height: 5, Round: 1, Block: other}, api.ErrVote},
		{"another height", api.Vote{Kind: api.Precommit, Height: 6, Round: 1, Block: other}, api.ErrVote},
		{"another round", api.Vote{Kind: api.Precommit, Height: 5, Round: 2, Block: other}, api.ErrVote},
		{"another validator", api.Vote{Kind: api.Precommit, Height: 5, Round: 1, Block: other, Validator: 1}, api.ErrVote},
	}
	for _, c := range cases {
		b := x.sign(t, c.b)
		wantErr(t, c.what, types.TwoWays("one", x.set, params, a, b), c.want)
		wantErr(t, c.what+", turned round", types.TwoWays("one", x.set, params, b, a), c.want)
	}
	wantErr(t, "the same vote", types.TwoWays("one", x.set, params, a, a), api.ErrVote)
	for _, kind := range []int{api.Prevote, api.Precommit} {
		b := x.sign(t, api.Vote{Kind: kind, Height: 1, Block: block, Validator: 1})
		c := x.sign(t, api.Vote{Kind: kind, Height: 1, Block: other, Validator: 1})
		wantErr(t, "kind "+strconv.Itoa(kind), types.TwoWays("one", x.set, params, b, c), 0)
	}
}

// TestTY2TwoWaysErrors: the error of the first vote, then that of the second one, then that of the two.
func TestTY2TwoWaysErrors(t *testing.T) {
	x := newVoters(t, 1)
	a := x.sign(t, api.Vote{Kind: api.Prevote, Height: 5, Block: hashOf("block")})
	b := x.sign(t, api.Vote{Kind: api.Prevote, Height: 5, Block: hashOf("other")})
	unsigned, wrong, later := a, b, b
	unsigned.Sign = nil
	wrong.Kind = 3
	later.Height = 6
	cases := []struct {
		what string
		a, b api.Vote
		want api.Errno
	}{
		{"good ones", a, b, 0},
		{"no signature first", unsigned, b, api.ErrSign},
		{"no signature second", b, unsigned, api.ErrSign},
		{"signature, then kind", unsigned, wrong, api.ErrSign},
		{"kind, then signature", wrong, unsigned, api.ErrVote},
		{"kind first", wrong, a, api.ErrVote},
		{"kind second", a, wrong, api.ErrVote},
		{"a signature ahead of what differs", a, later, api.ErrSign},
		{"a signature ahead of what is the same", a, unsigned, api.ErrSign},
	}
	for _, c := range cases {
		wantErr(t, c.what, types.TwoWays("one", x.set, params, c.a, c.b), c.want)
	}
	wantErr(t, "no Params", types.TwoWays("one", x.set, notParams[0], a, b), api.ErrKey)
	wantErr(t, "kind ahead of Params", types.TwoWays("one", x.set, notParams[0], wrong, b), api.ErrVote)
	wantErr(t, "Params ahead of the second kind", types.TwoWays("one", x.set, notParams[0], a, wrong), api.ErrKey)
	wantErr(t, "another chain", types.TwoWays("two", x.set, params, a, b), api.ErrSign)
	wantErr(t, "nobody", types.TwoWays("one", nil, params, a, b), api.ErrVote)
}

// TestTY2Memory: nothing that is verified is changed.
func TestTY2Memory(t *testing.T) {
	x := newVoters(t, 1, 1, 1)
	c := x.commit(t, hashOf("block"), 0, 1, 2)
	kept, set := copyOfCommit(c), bytes.Clone(types.EncodeSet(x.set))
	other := x.commit(t, hashOf("other"), 0)
	wantErr(t, "the commit", types.VerifyCommit("one", x.set, params, c), 0)
	wantErr(t, "the trust", types.VerifyTrust(x.set, x.set, c), 0)
	wantErr(t, "the two ways", types.TwoWays("one", x.set, params, c.Votes[0], other.Votes[0]), 0)
	if !sameCommit(c, kept) || !bytes.Equal(set, types.EncodeSet(x.set)) {
		t.Error("an argument was changed")
	}
	first := types.VoteBytes("one", c.Votes[0])
	clear(first[:cap(first)])
	if keys.Verify(x.set[0].Key, params, types.VoteBytes("one", c.Votes[0]), c.Votes[0].Sign) != nil {
		t.Error("bytes that were answered are kept")
	}
}
