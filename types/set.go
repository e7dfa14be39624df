package types

import (
	"slices"

	"isthmus/api"
	"isthmus/sha"
)

// who is by what a validator is known again in another set, where its index and its power may be others.
type who struct {
	name string
	key  api.Hash
}

// CheckSet is ErrSet if l is not the validators of any height.
func CheckSet(l []api.Validator) error {
	if len(l) < 1 || len(l) > api.MaxValidators {
		return api.ErrSet
	}
	// What the others have left is counted down, since a sum of any Powers might be too great for an int.
	left := api.MaxPower
	for i, v := range l {
		hasItsName := func(other api.Validator) bool { return other.Name == v.Name }
		if !isName(v.Name) || slices.ContainsFunc(l[:i], hasItsName) {
			return api.ErrSet
		}
		if v.Power < 1 || v.Power > left {
			return api.ErrSet
		}
		left -= v.Power
	}
	return nil
}

// Total is the power of all validators together.
func Total(l []api.Validator) int {
	sum := 0
	for _, v := range l {
		sum += v.Power
	}
	return sum
}

// SetHash is the hash of a set.
func SetHash(l []api.Validator) api.Hash {
	leaves := make([]api.Hash, len(l))
	for i, v := range l {
		leaves[i] = sha.Leaf(encode(v, writeValidator))
	}
	return sha.Root(leaves)
}

// VerifyTrust is ErrPower unless those of old who are in l too, and have votes in c, have more than a third of old's power.
func VerifyTrust(old, l []api.Validator, c api.Commit) error {
	hasVoted := voters(l, c.Votes)
	power := 0
	for _, v := range old {
		if hasVoted(v) {
			power += v.Power
		}
	}
	if !third(power, Total(old)) {
		return api.ErrPower
	}
	return nil
}

// voters finds, by Name and Key, those of l who have one of these votes.
func voters(l []api.Validator, votes []api.Vote) func(api.Validator) bool {
	voted := make([]bool, len(l))
	for _, v := range votes {
		if isIndex(v.Validator, l) {
			voted[v.Validator] = true
		}
	}
	found := map[who]struct{}{}
	for i, v := range l {
		if voted[i] {
			found[who{v.Name, v.Key}] = struct{}{}
		}
	}
	return func(v api.Validator) bool {
		_, ok := found[who{v.Name, v.Key}]
		return ok
	}
}
