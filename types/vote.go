package types

import (
	"isthmus/api"
	"isthmus/keys"
	"isthmus/pack"
)

// VoteBytes are what a validator signs to vote.
func VoteBytes(chain string, v api.Vote) []byte {
	return pack.New().Text("vote").Text(chain).Int(v.Kind).Int(v.Height).Int(v.Round).Hash(v.Block).Done()
}

// VerifyVote is an error unless v is a vote that a validator of l has signed.
func VerifyVote(chain string, l []api.Validator, p api.Params, v api.Vote) error {
	if !canBe(v) || !isIndex(v.Validator, l) {
		return api.ErrVote
	}
	if err := keys.Check(p); err != nil {
		return err
	}
	if keys.Verify(l[v.Validator].Key, p, VoteBytes(chain, v), v.Sign) != nil {
		return api.ErrSign
	}
	return nil
}

// canBe tells whether there are votes of such a Kind, Height and Round.
func canBe(v api.Vote) bool {
	return (v.Kind == api.Prevote || v.Kind == api.Precommit) &&
		v.Height >= 1 && v.Height <= api.MaxHeight && v.Round >= 0 && v.Round <= maxRound
}

// VerifyCommit is an error unless validators of l with more than two thirds of its power have signed the precommits of c.
func VerifyCommit(chain string, l []api.Validator, p api.Params, c api.Commit) error {
	if err := CheckSet(l); err != nil {
		return err
	}
	if c.Block == (api.Hash{}) {
		return api.ErrVote
	}
	power := 0
	for i, v := range c.Votes {
		// Increasing indices count nobody twice.
		if !isPart(v, c) || i > 0 && v.Validator <= c.Votes[i-1].Validator {
			return api.ErrVote
		}
		if err := VerifyVote(chain, l, p, v); err != nil {
			return err
		}
		power += l[v.Validator].Power
	}
	if !twoThirds(power, Total(l)) {
		return api.ErrPower
	}
	return nil
}

// isPart tells whether v is a precommit for what c commits.
func isPart(v api.Vote, c api.Commit) bool {
	return v.Kind == api.Precommit && v.Height == c.Height && v.Round == c.Round && v.Block == c.Block
}

// TwoWays is an error unless a and b show that one validator of l has signed two conflicting votes.
func TwoWays(chain string, l []api.Validator, p api.Params, a, b api.Vote) error {
	for _, v := range [...]api.Vote{a, b} {
		if err := VerifyVote(chain, l, p, v); err != nil {
			return err
		}
	}
	if !sameSlot(a, b) || a.Block == b.Block {
		return api.ErrVote
	}
	return nil
}

// sameSlot tells whether an honest validator casts only one of these votes.
func sameSlot(a, b api.Vote) bool {
	return a.Kind == b.Kind && a.Height == b.Height && a.Round == b.Round && a.Validator == b.Validator
}
