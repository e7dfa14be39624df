package types_test

import (
	"math"
	"slices"
	"strconv"
	"strings"
	"testing"

	"isthmus/api"
	"isthmus/sha"
	"isthmus/types"
)

// set are the validators of a text like "a1 b20": a letter, and a power.
func set(t *testing.T, text string) []api.Validator {
	t.Helper()
	var l []api.Validator
	for _, s := range strings.Fields(text) {
		power, err := strconv.Atoi(s[1:])
		must(t, err)
		l = append(l, equals(s[:1], power))
	}
	return l
}

// by is a commit with votes, that nobody signed, of these indices.
func by(validators ...int) api.Commit {
	var c api.Commit
	for _, i := range validators {
		c.Votes = append(c.Votes, api.Vote{Validator: i})
	}
	return c
}

func TestTY1CheckSet(t *testing.T) {
	visible := ""
	for c := 33; c <= 126; c++ {
		visible += string(rune(c))
	}
	long := strings.Repeat("x", api.MaxName-1)
	cases := []struct {
		what string
		l    []api.Validator
	}{
		{"the example", []api.Validator{{Name: "a", Power: 3}, {Name: "b", Power: 1}}},
		{"one", []api.Validator{{Name: "a", Power: 1}}},
		{"all power", []api.Validator{{Name: "a", Power: api.MaxPower}}},
		{"all power in two parts", []api.Validator{{Name: "a", Power: api.MaxPower - 1}, {Name: "b", Power: 1}}},
		{"all power in 32 parts", many(api.MaxValidators, api.MaxPower/api.MaxValidators)},
		{"31", many(api.MaxValidators-1, 1)},
		{"32", many(api.MaxValidators, 1)},
		{"keys twice", []api.Validator{{Name: "a", Key: hashOf("k"), Power: 1}, {Name: "b", Key: hashOf("k"), Power: 1}}},
		{"other letters", []api.Validator{{Name: "a", Power: 1}, {Name: "A", Power: 1}, {Name: "aa", Power: 1}, {Name: "aA", Power: 1}}},
		{"each byte", []api.Validator{{Name: visible[:64], Power: 1}, {Name: visible[64:], Power: 1}}},
		{"64 bytes", []api.Validator{{Name: long + "a", Power: 1}, {Name: long + "b", Power: 1}, {Name: long, Power: 1}}},
	}
	for _, c := range cases {
		wantErr(t, c.what, types.CheckSet(c.l), 0)
	}
}

func TestTY1CheckSetNumber(t *testing.T) {
	wantErr(t, "nil", types.CheckSet(nil), api.ErrSet)
	wantErr(t, "empty", types.CheckSet([]api.Validator{}), api.ErrSet)
	for _, n := range []int{33, 34, 64, 1000} {
		wantErr(t, strconv.Itoa(n), types.CheckSet(many(n, 1)), api.ErrSet)
	}
}

// TestTY1CheckSetPlaces: a validator that can't be is found wherever it stands.
func TestTY1CheckSetPlaces(t *testing.T) {
	long := strings.Repeat("x", api.MaxName+1)
	wrong := []api.Validator{
		{Name: "", Power: 1}, {Name: long, Power: 1}, {Name: " ", Power: 1}, {Name: "a b", Power: 1}, {Name: "a\x7f", Power: 1},
		{Name: "\x00a", Power: 1}, {Name: "é", Power: 1}, {Name: "\xff", Power: 1}, {Name: "x\n", Power: 1},
		{Name: "x", Power: 0}, {Name: "x", Power: -1}, {Name: "x", Power: math.MinInt},
		{Name: "x", Power: api.MaxPower + 1}, {Name: "x", Power: math.MaxInt},
		// With the three good ones, this is one too much.
		{Name: "x", Power: api.MaxPower - 2},
	}
	good := many(3, 1)
	wantErr(t, "as much as there may be", types.CheckSet(append(slices.Clone(good), equals("x", api.MaxPower-3))), 0)
	for _, v := range wrong {
		for at := range len(good) + 1 {
			l := slices.Insert(slices.Clone(good), at, v)
			wantErr(t, strconv.Quote(v.Name)+" at "+strconv.Itoa(at), types.CheckSet(l), api.ErrSet)
		}
	}
}

// TestTY1CheckSetBytes: a name has bytes from 33 to 126 only, at each of its places.
func TestTY1CheckSetBytes(t *testing.T) {
	for c := range 256 {
		b := string([]byte{byte(c)})
		want := api.Errno(0)
		if c < 33 || c > 126 {
			want = api.ErrSet
		}
		for _, name := range []string{b, b + "a", "a" + b, "a" + b + "b", strings.Repeat("x", api.MaxName-1) + b} {
			l := []api.Validator{{Name: name, Power: 1}}
			wantErr(t, strconv.Quote(name), types.CheckSet(l), want)
		}
	}
	for n := range 70 {
		want := api.Errno(0)
		if n < 1 || n > 64 {
			want = api.ErrSet
		}
		l := []api.Validator{{Name: strings.Repeat("n", n), Power: 1}}
		wantErr(t, strconv.Itoa(n)+" bytes", types.CheckSet(l), want)
	}
}

// TestTY1CheckSetTwice: a name that occurs twice is found at any two places, whatever the keys and the powers are.
func TestTY1CheckSetTwice(t *testing.T) {
	for _, n := range []int{2, 3, 5, api.MaxValidators} {
		for i := range n {
			for j := range i {
				l := many(n, 1)
				l[i].Name = l[j].Name
				l[i].Power = 2
				wantErr(t, strconv.Itoa(j)+" and "+strconv.Itoa(i), types.CheckSet(l), api.ErrSet)
			}
		}
	}
}

// TestTY1CheckSetSum: a sum that is too great is found, also if it is none of Go's ints.
func TestTY1CheckSetSum(t *testing.T) {
	half := math.MaxInt/2 + 1
	cases := [][]int{
		{api.MaxPower + 1}, {api.MaxPower, 1}, {1, api.MaxPower}, {api.MaxPower / 2, api.MaxPower / 2, 1},
		{math.MaxInt}, {math.MaxInt, 1}, {math.MaxInt, math.MaxInt}, {math.MaxInt, math.MaxInt, 2}, {math.MaxInt, math.MaxInt, 3},
		{1, math.MaxInt, math.MaxInt, 2}, {half, half}, {half, half, half, half}, {half, half, half, half, 1}, {1, half, half, half, half},
	}
	for _, powers := range cases {
		l := many(len(powers), 1)
		for i, power := range powers {
			l[i].Power = power
		}
		wantErr(t, "too much power", types.CheckSet(l), api.ErrSet)
	}
	l := many(api.MaxValidators, api.MaxPower/api.MaxValidators)
	l[31].Power++
	wantErr(t, "one too much", types.CheckSet(l), api.ErrSet)
}

func TestTY1Total(t *testing.T) {
	cases := []struct {
		powers []int
		want   int
	}{
		{nil, 0}, {[]int{1}, 1}, {[]int{3, 1}, 4}, {[]int{1, 2, 3, 4, 5}, 15}, {[]int{-1, -2}, -3}, {[]int{5, 0, -5}, 0},
		{[]int{api.MaxPower, api.MaxPower}, 2 * api.MaxPower},
		{[]int{math.MaxInt, 1}, math.MinInt}, {[]int{math.MaxInt, math.MaxInt}, -2}, {[]int{math.MinInt, -1}, math.MaxInt},
	}
	for _, c := range cases {
		l := many(len(c.powers), 0)
		for i, power := range c.powers {
			l[i].Power = power
		}
		if got := types.Total(l); got != c.want {
			t.Errorf("%v: %d", c.powers, got)
		}
	}
	if got := types.Total(many(1000, 7)); got != 7000 {
		t.Errorf("1000 of 7: %d", got)
	}
}

// oddSet are validators that can't be.
func oddSet() []api.Validator {
	x := api.Validator{Name: strings.Repeat("x", 200), Key: hashOf("x"), Power: math.MaxInt}
	return []api.Validator{{Power: -1}, {Power: math.MinInt}, x}
}

// bigSet are more validators than a set may have, each of another power.
func bigSet() []api.Validator {
	l := many(40, 0)
	for i := range l {
		l[i].Power = i
	}
	return l
}

// TestTY1SetHash: hashes that were made outside Go.
func TestTY1SetHash(t *testing.T) {
	cases := []struct {
		l    []api.Validator
		want string
	}{
		{nil, "e3b0c44298fc1c149afbf4c8996fb92427ae41e4649b934ca495991b7852b855"},
		{[]api.Validator{{Name: "a", Power: 3}}, "8fd5a386df85bc20add355a927cb14f446470b241d5ea37aae1fd2600050f5f7"},
		{[]api.Validator{{Name: "a", Power: 3}, {Name: "b", Power: 1}}, "237adcae79de4e3ee3a9ab45f629383c2275fa94407b421c95f2928f087b3950"},
		{[]api.Validator{{Name: "b", Power: 1}, {Name: "a", Power: 3}}, "f9162fae8fc01cd785af5a8131d9257acce8afde4dabce6d0dfe96adf5ce8ca4"},
		{set(t, "a1 b1 c1"), "0e5ba32df4fec57f85dc7b6ba8248ff206f0fa9210663106da5adb330fb2c523"},
		{set(t, "a1 b2 c3 d4 e5"), "8869e9395449e6f7bf64b60128dbd19b0105e50761d9965e957017e811f6c515"},
		{oddSet(), "35f939224b3b36054ae285fffbb6c2c7c68ef054929fd5377db3c65688f969de"},
		{bigSet(), "281db273990af317cf8230525cdfd268589e543a5bef22873e9f017d5da72fdf"},
	}
	for _, c := range cases {
		if got := sha.Text(types.SetHash(c.l)); got != c.want {
			t.Errorf("%d validators: %s", len(c.l), got)
		}
	}
}

// TestTY1SetHashParts: sets that differ in anything have other hashes.
func TestTY1SetHashParts(t *testing.T) {
	seen := map[api.Hash]string{}
	add := func(what string, l []api.Validator) {
		h := types.SetHash(l)
		if other, found := seen[h]; found {
			t.Errorf("%s and %s have one hash", what, other)
		}
		seen[h] = what
	}
	l := set(t, "a1 b2 c3")
	add("all", l)
	add("none", nil)
	add("fewer", l[:2])
	add("more", append(slices.Clone(l), l[2]))
	add("turned round", []api.Validator{l[2], l[1], l[0]})
	for i := range l {
		at := " of " + strconv.Itoa(i)
		change := func(what string, change func(v *api.Validator)) {
			other := slices.Clone(l)
			change(&other[i])
			add(what+at, other)
		}
		change("name", func(v *api.Validator) { v.Name += "x" })
		change("key", func(v *api.Validator) { v.Key[31]++ })
		change("power", func(v *api.Validator) { v.Power = -v.Power })
		change("other power", func(v *api.Validator) { v.Power += 10 })
	}
}

// TestTY2VerifyTrust: who counts, and how much of the old power is enough.
func TestTY2VerifyTrust(t *testing.T) {
	cases := []struct {
		what, old, l string
		votes        []int
		want         api.Errno
	}{
		{"a third is not enough", "a1 b1 c1", "a1 b1 c1", []int{0}, api.ErrPower},
		{"two thirds are", "a1 b1 c1", "a1 b1 c1", []int{1, 2}, 0},
		{"all are", "a1 b1 c1", "a1 b1 c1", []int{0, 1, 2}, 0},
		{"none is not", "a1 b1 c1", "a1 b1 c1", nil, api.ErrPower},
		{"half is enough", "a1 b1", "a1 b1", []int{1}, 0},
		{"a quarter is not", "a1 b1 c1 d1", "a1 b1 c1 d1", []int{3}, api.ErrPower},
		{"just a third", "a100 b200", "a1 b1", []int{0}, api.ErrPower},
		{"just more than a third", "a101 b201", "a1 b1", []int{0}, 0},
		{"just less than a third", "a99 b199", "a1 b1", []int{0}, api.ErrPower},
		{"one alone", "a1", "a1", []int{0}, 0},
		{"the index is that of the new set", "a1 b5", "b5 a1", []int{0}, 0},
		{"and not that of the old set", "a1 b5", "b5 a1", []int{1}, api.ErrPower},
		{"the power is that of the old set", "a1 b9", "a9 b1", []int{1}, 0},
		{"and not that of the new set", "a1 b9", "a9 b1", []int{0}, api.ErrPower},
		{"others count for nobody", "a1 b1 c1", "d9 e9 c1", []int{0, 1, 2}, api.ErrPower},
		{"others do no harm", "a1 b1 c1", "d9 b1 e9 c1", []int{0, 1, 2, 3}, 0},
		{"who did not vote does not count", "a1 b1 c1", "a1 d1 b1 c1", []int{0, 1}, api.ErrPower},
		{"votes twice count once", "a1 b1 c1", "a1 b1 c1", []int{0, 0, 0}, api.ErrPower},
		{"in any order", "a1 b1 c1", "a1 b1 c1", []int{2, 0, 2}, 0},
		{"who is in the new set twice counts once", "a1 b2", "a1 a1 b2", []int{0, 1}, api.ErrPower},
		{"one of two places is enough", "a2 b1", "a1 a1 b2", []int{1}, 0},
		{"no such index", "a1 b1 c1", "a1 b1 c1", []int{-1, 0, 3, 4, math.MaxInt, math.MinInt}, api.ErrPower},
		{"wrong indices do no harm", "a1 b1 c1", "a1 b1 c1", []int{-1, 0, 3, 1}, 0},
		{"nobody of old", "", "a1", []int{0}, api.ErrPower},
		{"nobody of new", "a1", "", []int{0}, api.ErrPower},
		{"nobody", "", "", nil, api.ErrPower},
	}
	for _, c := range cases {
		wantErr(t, c.what, types.VerifyTrust(set(t, c.old), set(t, c.l), by(c.votes...)), c.want)
	}
}

// TestTY2VerifyTrustSame: a validator is the same one only with the same Name and the same Key.
func TestTY2VerifyTrustSame(t *testing.T) {
	old := set(t, "a1 b1")
	l := slices.Clone(old)
	l[0].Power = 77
	wantErr(t, "another power", types.VerifyTrust(old, l, by(0)), 0)
	l[0].Key[0] ^= 1
	wantErr(t, "another key", types.VerifyTrust(old, l, by(0)), api.ErrPower)
	l[0].Key[0] ^= 1
	l[0].Key[31] ^= 128
	wantErr(t, "another end of the key", types.VerifyTrust(old, l, by(0)), api.ErrPower)
	l[0] = old[0]
	l[0].Name = "x"
	wantErr(t, "another name", types.VerifyTrust(old, l, by(0)), api.ErrPower)
	l[0].Name = ""
	wantErr(t, "no name", types.VerifyTrust(old, l, by(0)), api.ErrPower)
	l[0] = api.Validator{Name: old[0].Name, Key: old[1].Key}
	wantErr(t, "the key of another one", types.VerifyTrust(old, l, by(0)), api.ErrPower)
}

// TestTY2VerifyTrustVotes: of a vote only the Validator counts, since the commit is verified elsewhere.
func TestTY2VerifyTrustVotes(t *testing.T) {
	old := set(t, "a1 b1")
	v := api.Vote{Kind: -5, Height: -1, Round: 1 << 40, Block: hashOf("x"), Validator: 1, Sign: []byte("no")}
	wantErr(t, "any vote", types.VerifyTrust(old, old, api.Commit{Votes: []api.Vote{v}}), 0)
	wantErr(t, "another commit", types.VerifyTrust(old, old, api.Commit{Height: 3, Round: 1, Block: hashOf("y"), Votes: []api.Vote{v}}), 0)
}

// TestTY2VerifyTrustPower: the power of sets that can't be is that of Go's ints.
func TestTY2VerifyTrustPower(t *testing.T) {
	cases := []struct {
		what   string
		powers []int
		votes  []int
		want   api.Errno
	}{
		{"the greatest power", []int{api.MaxPower - 2, 1, 1}, []int{0}, 0},
		{"little beside it", []int{api.MaxPower - 2, 1, 1}, []int{1, 2}, api.ErrPower},
		{"no power", []int{0, 0}, []int{0, 1}, api.ErrPower},
		{"less than none", []int{-1}, []int{0}, api.ErrPower},
		{"nobody has more than less than none", []int{-1}, nil, 0},
		{"three times it is none of the ints", []int{1 << 62}, []int{0}, api.ErrPower},
		{"the sum is none of the ints", []int{math.MaxInt, 1, 5}, []int{2}, 0},
	}
	for _, c := range cases {
		l := many(len(c.powers), 0)
		for i, power := range c.powers {
			l[i].Power = power
		}
		wantErr(t, c.what, types.VerifyTrust(l, l, by(c.votes...)), c.want)
	}
}

// TestTY2VerifyTrustLong: long lists take no longer than they are long.
func TestTY2VerifyTrustLong(t *testing.T) {
	l := many(100_000, 1)
	indices := make([]int, len(l))
	for i := range indices {
		indices[i] = len(l) - 1 - i/2
	}
	old := slices.Clone(l)
	slices.Reverse(old)
	wantErr(t, "half", types.VerifyTrust(old, l, by(indices...)), 0)
	wantErr(t, "others", types.VerifyTrust(l[:10_000], l, by(indices...)), api.ErrPower)
}
