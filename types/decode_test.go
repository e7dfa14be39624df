package types_test

import (
	"bytes"
	"encoding/hex"
	"math"
	"slices"
	"strconv"
	"strings"
	"testing"

	"isthmus/api"
	"isthmus/pack"
	"isthmus/types"
)

// codec is how values of one type are encoded, decoded, and compared.
type codec[T any] struct {
	name   string
	encode func(T) []byte
	decode func([]byte) (T, error)
	same   func(a, b T) bool
}

// thereAndBack holds that v is what its encoding is decoded to.
func (c codec[T]) thereAndBack(t *testing.T, what string, v T) {
	t.Helper()
	if got, err := c.decode(c.encode(v)); err != nil || !c.same(got, v) {
		t.Errorf("%s, %s: another one, or %v", c.name, what, err)
	}
}

// wantForm holds that b is none of these values.
func (c codec[T]) wantForm(t *testing.T, what string, b []byte) {
	t.Helper()
	v, err := c.decode(b)
	wantErr(t, c.name+", "+what, err, api.ErrForm)
	var none T
	if !c.same(v, none) {
		t.Errorf("%s, %s: a value beside the error", c.name, what)
	}
}

// wantCut holds that nothing may be missing from an encoding, nor be added to it.
func (c codec[T]) wantCut(t *testing.T, v T) {
	t.Helper()
	b := c.encode(v)
	for i := range b {
		c.wantForm(t, "cut at "+strconv.Itoa(i), b[:i])
	}
	for _, more := range [][]byte{{0}, {1}, {255}, make([]byte, 100), b} {
		c.wantForm(t, "with more bytes", slices.Concat(b, more))
	}
}

// wantOneWay holds that whatever is decoded is encoded to the same bytes, whichever byte is another one.
func (c codec[T]) wantOneWay(t *testing.T, v T) {
	t.Helper()
	b := c.encode(v)
	decoded, refused := 0, 0
	for i := range b {
		for x := range 256 {
			spoilt := bytes.Clone(b)
			spoilt[i] = byte(x)
			got, err := c.decode(spoilt)
			if err != nil {
				refused++
				wantErr(t, c.name, err, api.ErrForm)
				continue
			}
			decoded++
			if !bytes.Equal(c.encode(got), spoilt) {
				t.Fatalf("%s: byte %d as %d is encoded in another way", c.name, i, x)
			}
		}
	}
	if decoded == 0 || refused == 0 {
		t.Errorf("%s: %d decoded, %d refused", c.name, decoded, refused)
	}
}

func votes() codec[api.Vote] {
	return codec[api.Vote]{"a vote", types.EncodeVote, types.DecodeVote, sameVote}
}

func commits() codec[api.Commit] {
	return codec[api.Commit]{"a commit", types.EncodeCommit, types.DecodeCommit, sameCommit}
}

func headers() codec[api.Header] {
	return codec[api.Header]{"a header", types.EncodeHeader, types.DecodeHeader, sameHeader}
}

func blocks() codec[api.Block] {
	return codec[api.Block]{"a block", types.EncodeBlock, types.DecodeBlock, sameBlock}
}

func sets() codec[[]api.Validator] {
	return codec[[]api.Validator]{"a set", types.EncodeSet, types.DecodeSet, sameSet}
}

// someVote is a vote with a signature.
func someVote() api.Vote { return someCommit().Votes[0] }

// longVote is a vote with a signature of so many bytes.
func longVote(n int) api.Vote {
	v := someVote()
	v.Sign = bytes.Repeat([]byte{7}, n)
	return v
}

// TestTY4Decode: encodings that were made outside Go.
func TestTY4Decode(t *testing.T) {
	unhex := func(s string) []byte {
		b, err := hex.DecodeString(s)
		must(t, err)
		return b
	}
	if v, err := types.DecodeVote(unhex("040602" + blockDigits + "000161")); err != nil || !sameVote(v, someVote()) {
		t.Errorf("%v, %v", v, err)
	}
	if c, err := types.DecodeCommit(unhex(commitDigits)); err != nil || !sameCommit(c, someCommit()) {
		t.Errorf("%v, %v", c, err)
	}
	if h, err := types.DecodeHeader(unhex(headerDigits)); err != nil || h != header() {
		t.Errorf("%v, %v", h, err)
	}
	if b, err := types.DecodeBlock(unhex(firstDigits)); err != nil || !sameBlock(b, firstBlock()) {
		t.Errorf("%v, %v", b, err)
	}
	if b, err := types.DecodeBlock(unhex(secondDigits)); err != nil || !sameBlock(b, secondBlock()) {
		t.Errorf("%v, %v", b, err)
	}
	if l, err := types.DecodeSet(unhex(setDigits)); err != nil || !sameSet(l, set(t, "a1 b1 c1")) {
		t.Errorf("%v, %v", l, err)
	}
}

// TestTY4DecodeForm: nothing, too little and too much.
func TestTY4DecodeForm(t *testing.T) {
	votes().wantForm(t, "nil", nil)
	commits().wantForm(t, "nil", nil)
	headers().wantForm(t, "nil", nil)
	blocks().wantForm(t, "nil", nil)
	sets().wantForm(t, "nil", nil)
	votes().wantCut(t, someVote())
	commits().wantCut(t, someCommit())
	headers().wantCut(t, header())
	blocks().wantCut(t, firstBlock())
	blocks().wantCut(t, secondBlock())
	sets().wantCut(t, set(t, "a1 b1 c1"))
	sets().wantCut(t, nil)
	for _, b := range [][]byte{bytes.Repeat([]byte{255}, 600), bytes.Repeat([]byte{128}, 600), bytes.Repeat([]byte{1}, 600)} {
		votes().wantForm(t, "other bytes", b)
		commits().wantForm(t, "other bytes", b)
		headers().wantForm(t, "other bytes", b)
		blocks().wantForm(t, "other bytes", b)
		sets().wantForm(t, "other bytes", b)
	}
}

// TestTY4DecodeOneWay: each value has one encoding only.
func TestTY4DecodeOneWay(t *testing.T) {
	votes().wantOneWay(t, someVote())
	commits().wantOneWay(t, someCommit())
	headers().wantOneWay(t, header())
	blocks().wantOneWay(t, secondBlock())
	sets().wantOneWay(t, set(t, "a1 b1"))
}

// TestTY4DecodeNumbers: any number comes back as it was, whether it can be or not.
func TestTY4DecodeNumbers(t *testing.T) {
	for i, n := range numbers {
		at := strconv.Itoa(n)
		next := numbers[(i+1)%len(numbers)]
		last := numbers[(i+2)%len(numbers)]
		v := api.Vote{Kind: n, Height: next, Round: last, Validator: n, Sign: []byte{1}}
		c := api.Commit{Height: n, Round: next, Votes: []api.Vote{v, v}}
		h := api.Header{Chain: "x", Height: n, Time: next, Proposer: last}
		votes().thereAndBack(t, at, v)
		commits().thereAndBack(t, at, c)
		headers().thereAndBack(t, at, h)
		blocks().thereAndBack(t, at, api.Block{Header: h, Last: c})
		sets().thereAndBack(t, at, []api.Validator{{Name: "x", Power: n}, {Power: next}})
	}
}

// TestTY4DecodeTexts: a text may have any bytes, but not more than MaxName.
func TestTY4DecodeTexts(t *testing.T) {
	for _, s := range []string{"", " ", "\x00", "\xff\xfe", "é", strings.Repeat("x", 63), strings.Repeat("\x80", 64)} {
		h := header()
		h.Chain = s
		headers().thereAndBack(t, strconv.Quote(s), h)
		blocks().thereAndBack(t, strconv.Quote(s), api.Block{Header: h})
		sets().thereAndBack(t, strconv.Quote(s), []api.Validator{{Name: s, Power: 1}, {Name: s}})
	}
	for _, n := range []int{65, 127, 128, 1000, 1 << 17} {
		at := strconv.Itoa(n) + " bytes"
		long := strings.Repeat("x", n)
		h := header()
		h.Chain = long
		headers().wantForm(t, at, types.EncodeHeader(h))
		blocks().wantForm(t, at, types.EncodeBlock(api.Block{Header: h}))
		sets().wantForm(t, at, types.EncodeSet([]api.Validator{{Name: long}}))
		sets().wantForm(t, at+" at the end", types.EncodeSet([]api.Validator{{Name: "a"}, {Name: long}}))
	}
}

// TestTY4DecodeSign: a Sign has at most 2^16 bytes, wherever the vote stands.
func TestTY4DecodeSign(t *testing.T) {
	for _, n := range []int{0, 1, 127, 128, 1<<16 - 1, 1 << 16} {
		at := strconv.Itoa(n) + " bytes"
		v := longVote(n)
		c := withVotes(someCommit(), v, someVote(), v)
		votes().thereAndBack(t, at, v)
		commits().thereAndBack(t, at, c)
		blocks().thereAndBack(t, at, api.Block{Last: c})
	}
	for _, n := range []int{1<<16 + 1, 1 << 17, 1 << 20} {
		at := strconv.Itoa(n) + " bytes"
		v := longVote(n)
		votes().wantForm(t, at, types.EncodeVote(v))
		for _, c := range []api.Commit{withVotes(someCommit(), v), withVotes(someCommit(), someVote(), v), withVotes(someCommit(), v, someVote())} {
			commits().wantForm(t, at, types.EncodeCommit(c))
			blocks().wantForm(t, at, types.EncodeBlock(api.Block{Last: c}))
		}
	}
}

// TestTY4DecodeCounts: so many votes, transactions and validators there may be.
func TestTY4DecodeCounts(t *testing.T) {
	for _, n := range []int{0, 1, 2, 31, 32, 33, 63, 64, 65, 127, 128, 200} {
		at := strconv.Itoa(n)
		c := withVotes(someCommit(), slices.Repeat([]api.Vote{someVote()}, n)...)
		full, empty := api.Block{Last: c}, api.Block{Last: withVotes(someCommit(), make([]api.Vote, n)...)}
		l := many(n, 3)
		if n <= api.MaxValidators {
			commits().thereAndBack(t, at, c)
			blocks().thereAndBack(t, at+" votes", full)
			blocks().thereAndBack(t, at+" empty votes", empty)
			sets().thereAndBack(t, at, l)
		} else {
			commits().wantForm(t, at, types.EncodeCommit(c))
			blocks().wantForm(t, at+" votes", types.EncodeBlock(full))
			blocks().wantForm(t, at+" empty votes", types.EncodeBlock(empty))
			sets().wantForm(t, at, types.EncodeSet(l))
		}
		b := api.Block{Header: header(), Txs: row(n), Last: someCommit()}
		none := api.Block{Txs: make([][]byte, n)}
		if n <= api.MaxTxs {
			blocks().thereAndBack(t, at+" transactions", b)
			blocks().thereAndBack(t, at+" empty transactions", none)
		} else {
			blocks().wantForm(t, at+" transactions", types.EncodeBlock(b))
			blocks().wantForm(t, at+" empty transactions", types.EncodeBlock(none))
		}
	}
}

// TestTY4DecodeTxs: a transaction has at most 2^16 bytes.
func TestTY4DecodeTxs(t *testing.T) {
	for _, n := range []int{1<<16 - 1, 1 << 16, 1<<16 + 1, 1 << 17} {
		at := strconv.Itoa(n) + " bytes"
		tx := bytes.Repeat([]byte{9}, n)
		for _, txs := range [][][]byte{{tx}, {tx, nil}, {nil, {1}, tx}, slices.Repeat([][]byte{tx}, 64)} {
			b := api.Block{Header: header(), Txs: txs}
			if n <= 1<<16 {
				blocks().thereAndBack(t, at, b)
				continue
			}
			blocks().wantForm(t, at, types.EncodeBlock(b))
		}
	}
}

// TestTY4DecodeCount: a number of parts that are not there, or that is written in another way.
func TestTY4DecodeCount(t *testing.T) {
	block := hashOf("block")
	counts := [][]byte{{1}, {32}, {33}, {129, 0}, {255, 255, 255, 255, 255, 255, 255, 255, 255, 1}, bytes.Repeat([]byte{255}, 10), {128}}
	start := pack.New().Int(3).Int(1).Hash(block).Done()
	top := types.EncodeHeader(header())
	for _, count := range counts {
		sets().wantForm(t, "a count", count)
		commits().wantForm(t, "a count", slices.Concat(start, count))
		blocks().wantForm(t, "a count of transactions", slices.Concat(top, count))
		blocks().wantForm(t, "a count of transactions, and a commit", slices.Concat(top, count, types.EncodeCommit(api.Commit{})))
		blocks().wantForm(t, "a count of votes", slices.Concat(top, []byte{0}, start, count))
	}
	v := types.EncodeVote(someVote())
	commits().wantForm(t, "a vote that is not counted", slices.Concat(start, []byte{1}, v, v))
	commits().wantForm(t, "a vote too few", slices.Concat(start, []byte{2}, v))
	commits().wantForm(t, "a vote with its length", slices.Concat(start, []byte{1}, pack.New().Bytes(v).Done()))
	commits().wantForm(t, "a count in two bytes", slices.Concat(start, []byte{129, 0}, v))
	if c, err := types.DecodeCommit(slices.Concat(start, []byte{2}, v, v)); err != nil || len(c.Votes) != 2 {
		t.Errorf("two votes: %v, %v", c, err)
	}
}

// TestTY4DecodeMemory: bytes that were given are neither changed nor kept, and no two parts of an answer share memory.
func TestTY4DecodeMemory(t *testing.T) {
	b := types.EncodeBlock(secondBlock())
	given := bytes.Clone(b)
	got, err := types.DecodeBlock(given)
	if err != nil || !bytes.Equal(given, b) {
		t.Fatalf("an argument was changed, or %v", err)
	}
	clear(given)
	if !sameBlock(got, secondBlock()) {
		t.Error("an argument was kept")
	}
	clear(got.Txs[0][:cap(got.Txs[0])])
	if string(got.Txs[2]) != "abc" || string(got.Last.Votes[0].Sign) != "s" {
		t.Error("parts share memory")
	}
	_, _ = append(got.Txs[1], 'x'), append(got.Txs[0], 'x')
	if string(got.Txs[2]) != "abc" || len(got.Txs[1]) != 0 {
		t.Error("parts share their spare memory")
	}
	v := types.EncodeVote(longVote(100))
	vote, err := types.DecodeVote(v)
	must(t, err)
	clear(v)
	if !sameVote(vote, longVote(100)) {
		t.Error("a vote keeps its bytes")
	}
	again, err := types.DecodeBlock(b)
	if err != nil || !sameBlock(again, secondBlock()) {
		t.Errorf("another answer, or %v", err)
	}
}

// TestTY4DecodeGreat: the greatest block that can be decoded.
func TestTY4DecodeGreat(t *testing.T) {
	h := header()
	h.Chain = strings.Repeat("x", 64)
	h.Height, h.Time, h.Proposer = math.MinInt, math.MinInt, math.MinInt
	c := withVotes(someCommit(), slices.Repeat([]api.Vote{longVote(1 << 16)}, 32)...)
	b := api.Block{Header: h, Txs: slices.Repeat([][]byte{make([]byte, 1<<16)}, 64), Last: c}
	blocks().thereAndBack(t, "the greatest", b)
}
