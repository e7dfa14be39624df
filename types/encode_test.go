package types_test

import (
	"bytes"
	"encoding/hex"
	"math"
	"strings"
	"testing"

	"isthmus/api"
	"isthmus/sha"
	"isthmus/types"
)

// Encodings that were made outside Go.
const (
	headerDigits = "036f6e65d8040a" +
		"3547cb112ac4489af2310c0626cdba6f3097a2ad5a3b42ddd3b59c76c7a079a3a172cedcae47474b615c54d510a5d84a8dea3032e958587430b413538be3f333" +
		"3fb7c727fd1c12b7f9ded83b2baa19232abda0487ee0c8b5b1d5ef49003cf7b466d18af4cf3d736390761abbea054bcedb18191b65128c2b057cdef5071a1698" +
		"c6c1c9a9c8543f1e4cd980064cf1625eeb61a90703b2464fff039f21682508b306"
	firstDigits = "036f6e650200" + zeros + zeros + "e3b0c44298fc1c149afbf4c8996fb92427ae41e4649b934ca495991b7852b855" + zeros + zeros +
		"00" + "00" + "0000" + zeros + "00"
	lastDigits   = "3547cb112ac4489af2310c0626cdba6f3097a2ad5a3b42ddd3b59c76c7a079a3"
	secondDigits = "036f6e65040e" + lastDigits + zeros + "937d6657c0301ead6b89d963b8268da3d139158cfb72a2c3e61780ce34833df4" + zeros + zeros +
		"00" + "03" + "0161" + "00" + "03616263" + "0200" + lastDigits + "01" + "040200" + lastDigits + "000173"
	commitDigits = "0602" + blockDigits + "02" + "040602" + blockDigits + "000161" + "040602" + blockDigits + "0400"
	setDigits    = "03" + "0161" + "ca978112ca1bbdcafac231b39a23dc4da786eff8147c4e72b9807785afee48bb" + "02" +
		"0162" + "3e23e8160039594a33894f6564e1b1348bbd7a0088d42c4acb73eeaed59c009d" + "02" +
		"0163" + "2e7d2c03a9507ae265ecf5b5356885a53393a2029d241394997265a1a25aefc6" + "02"
)

// someCommit has two votes, one of them without a signature.
func someCommit() api.Commit {
	block := hashOf("block")
	return api.Commit{Height: 3, Round: 1, Block: block, Votes: []api.Vote{
		{Kind: api.Precommit, Height: 3, Round: 1, Block: block, Sign: []byte("a")},
		{Kind: api.Precommit, Height: 3, Round: 1, Block: block, Validator: 2},
	}}
}

// bigCommit has more votes than there may be.
func bigCommit() api.Commit {
	c := api.Commit{Height: 7, Round: 8, Block: hashOf("block")}
	for i := range 200 {
		sign := bytes.Repeat([]byte{byte(i)}, i)
		c.Votes = append(c.Votes, api.Vote{Kind: api.Precommit, Height: 7, Round: 8, Block: c.Block, Validator: i, Sign: sign})
	}
	return c
}

// wantBytes holds that b is what was made outside Go: the digits want, or those of its hash behind the word sum.
func wantBytes(t *testing.T, what string, b []byte, want string) {
	t.Helper()
	got := hex.EncodeToString(b)
	if strings.HasPrefix(want, "sum ") {
		got = "sum " + sha.Text(sha.Sum(b))
	}
	if got != want {
		t.Errorf("%s: %s, want %s", what, got, want)
	}
}

func TestTY4EncodeVote(t *testing.T) {
	block := hashOf("block")
	cases := []struct {
		v    api.Vote
		want string
	}{
		{api.Vote{}, "000000" + zeros + "0000"},
		{api.Vote{Kind: api.Prevote, Height: 1}, "020200" + zeros + "0000"},
		{api.Vote{Kind: api.Precommit, Height: 3, Round: 1, Block: block, Validator: 31, Sign: []byte("sign")}, "040602" + blockDigits + "3e047369676e"},
		{api.Vote{Kind: -1, Height: -1, Round: -1, Block: block, Validator: -1, Sign: []byte{0}}, "010101" + blockDigits + "010100"},
		{api.Vote{Kind: math.MaxInt, Height: math.MinInt, Round: math.MaxInt, Block: block, Validator: math.MinInt, Sign: []byte{0, 1, 2}},
			"feffffffffffffffff01ffffffffffffffffff01feffffffffffffffff01" + blockDigits + "ffffffffffffffffff0103000102"},
	}
	for _, c := range cases {
		wantBytes(t, "a vote", types.EncodeVote(c.v), c.want)
	}
	long := types.EncodeVote(api.Vote{Sign: make([]byte, 1<<16+1)})
	if len(long) != 36+3+1<<16+1 || !bytes.Equal(long[36:39], []byte{129, 128, 4}) {
		t.Errorf("a long Sign: %d bytes, %v", len(long), long[36:39])
	}
}

func TestTY4EncodeCommit(t *testing.T) {
	cases := []struct {
		c    api.Commit
		want string
	}{
		{api.Commit{}, "0000" + zeros + "00"},
		{api.Commit{Height: 3, Round: 1, Block: hashOf("block")}, "0602" + blockDigits + "00"},
		{someCommit(), commitDigits},
		{api.Commit{Height: -1, Round: -2, Block: hashOf("block"), Votes: make([]api.Vote, 1)}, "0103" + blockDigits + "01" + "000000" + zeros + "0000"},
		{bigCommit(), "sum a5c458ee3d0f11f920a376ff253a2da8932f0c610e5418fd65ed2cb3c9d397df"},
	}
	for _, c := range cases {
		wantBytes(t, "a commit", types.EncodeCommit(c.c), c.want)
	}
}

func TestTY4EncodeHeader(t *testing.T) {
	wantBytes(t, "nothing", types.EncodeHeader(api.Header{}), "000000"+strings.Repeat(zeros, 5)+"00")
	wantBytes(t, "a header", types.EncodeHeader(header()), headerDigits)
	want := "c801" + strings.Repeat("78", 200) + "ffffffffffffffffff01feffffffffffffffff01" + headerDigits[14:len(headerDigits)-2] + "01"
	wantBytes(t, "a long header", types.EncodeHeader(longHeader()), want)
}

func TestTY4EncodeBlock(t *testing.T) {
	wantBytes(t, "nothing", types.EncodeBlock(api.Block{}), "000000"+strings.Repeat(zeros, 5)+"00"+"00"+"0000"+zeros+"00")
	wantBytes(t, "the first block", types.EncodeBlock(firstBlock()), firstDigits)
	wantBytes(t, "the second block", types.EncodeBlock(secondBlock()), secondDigits)
	wantBytes(t, "100 transactions", types.EncodeBlock(api.Block{Txs: row(100)}),
		"sum a6b0ae9b22d3fda964fe19627dab598fdff67181405e4b7541c287ed4daad449")
}

func TestTY4EncodeSet(t *testing.T) {
	cases := []struct {
		l    []api.Validator
		want string
	}{
		{nil, "00"},
		{[]api.Validator{}, "00"},
		{[]api.Validator{{}}, "0100" + zeros + "00"},
		{[]api.Validator{{Name: "a", Power: 3}}, "010161" + zeros + "06"},
		{[]api.Validator{{Name: "b", Power: 1}, {Name: "a", Power: 3}}, "02" + "0162" + zeros + "02" + "0161" + zeros + "06"},
		{set(t, "a1 b1 c1"), setDigits},
		{set(t, "a1 b2 c3 d4 e5"), "sum 4ae4f05ee4f635d17474b626bd3cdd4fbfb4eea9b61eee737404ff95a49a6673"},
		{oddSet(), "sum 6815e0b16b9a8c90541386c9aa7d5ef91865023f506b6bbd2dce8826697a898f"},
		{bigSet(), "sum ae402482dc91e1bfb90307559a34d22d8ca0935ff5aa39fa41f9da5650b45678"},
	}
	for _, c := range cases {
		wantBytes(t, "a set", types.EncodeSet(c.l), c.want)
	}
}

// TestTY4EncodeMemory: nothing that is encoded is changed, and what is answered is the caller's.
func TestTY4EncodeMemory(t *testing.T) {
	v, c, b, l := someCommit().Votes[0], someCommit(), secondBlock(), set(t, "a1 b1 c1")
	for range 2 {
		all := [][]byte{types.EncodeVote(v), types.EncodeCommit(c), types.EncodeHeader(header()), types.EncodeBlock(b), types.EncodeSet(l)}
		wantBytes(t, "the vote", all[0], "040602"+blockDigits+"000161")
		wantBytes(t, "the commit", all[1], commitDigits)
		wantBytes(t, "the header", all[2], headerDigits)
		wantBytes(t, "the block", all[3], secondDigits)
		wantBytes(t, "the set", all[4], setDigits)
		for _, x := range all {
			clear(x[:cap(x)])
		}
	}
	if !sameCommit(c, someCommit()) || !sameBlock(b, secondBlock()) || !sameSet(l, set(t, "a1 b1 c1")) {
		t.Error("an argument was changed")
	}
}
