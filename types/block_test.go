package types_test

import (
	"bytes"
	"math"
	"slices"
	"strconv"
	"strings"
	"testing"

	"isthmus/api"
	"isthmus/sha"
	"isthmus/types"
)

// header is one whose hashes are all others.
func header() api.Header {
	return api.Header{
		Chain: "one", Height: 300, Time: 5, Last: hashOf("last"), App: hashOf("app"), Txs: hashOf("txs"),
		Validators: hashOf("validators"), Next: hashOf("next"), Proposer: 3,
	}
}

// longHeader is one that can't be.
func longHeader() api.Header {
	h := header()
	h.Chain, h.Height, h.Time, h.Proposer = strings.Repeat("x", 200), math.MinInt, math.MaxInt, -1
	return h
}

// firstBlock is the example of the chapter.
func firstBlock() api.Block {
	return api.Block{Header: api.Header{Chain: "one", Height: 1, Txs: types.TxsHash(nil)}}
}

// secondBlock has three transactions, and a commit with a vote.
func secondBlock() api.Block {
	last := hashOf("last")
	v := api.Vote{Kind: api.Precommit, Height: 1, Block: last, Sign: []byte("s")}
	b := api.Block{Txs: texts("a", "", "abc"), Last: api.Commit{Height: 1, Block: last, Votes: []api.Vote{v}}}
	b.Header = api.Header{Chain: "one", Height: 2, Time: 7, Last: last, Txs: types.TxsHash(b.Txs)}
	return b
}

// texts are transactions of these bytes.
func texts(l ...string) [][]byte {
	var txs [][]byte
	for _, s := range l {
		txs = append(txs, []byte(s))
	}
	return txs
}

// row are n transactions, each one longer than the one ahead of it.
func row(n int) [][]byte {
	var txs [][]byte
	for i := range n {
		txs = append(txs, bytes.Repeat([]byte{byte(i)}, i))
	}
	return txs
}

// withTxs is b with these transactions, which its header tells.
func withTxs(b api.Block, txs [][]byte) api.Block {
	b.Txs = txs
	b.Header.Txs = types.TxsHash(txs)
	return b
}

// blockChange is what is done to a block.
type blockChange struct {
	what   string
	change func(b *api.Block)
}

// wantBlocks holds that CheckBlock returns want for b after each of these changes alone.
func wantBlocks(t *testing.T, b api.Block, want api.Errno, l []blockChange) {
	t.Helper()
	for _, c := range l {
		other := copyOfBlock(b)
		c.change(&other)
		wantErr(t, c.what, types.CheckBlock(other), want)
	}
}

// TestTY3TxsHash: hashes that were made outside Go.
func TestTY3TxsHash(t *testing.T) {
	cases := []struct {
		txs  [][]byte
		want string
	}{
		{nil, "e3b0c44298fc1c149afbf4c8996fb92427ae41e4649b934ca495991b7852b855"},
		{texts(""), "6e340b9cffb37a989ca544e6bb780a2c78901d3fb33738768511a30617afa01d"},
		{texts("a"), "022a6979e6dab7aa5ae4c3e5e45f7e977112a7e63593820dbec1ec738a24f93c"},
		{texts("a", "b"), "b137985ff484fb600db93107c77b0365c80d78f5b429ded0fd97361d077999eb"},
		{texts("b", "a"), "8af01af409f78be71c0de3efd008ef3f00d5415f36c3d7ab59abcc491dc1cf39"},
		{texts("a", "b", "c"), "36642e73c2540ab121e3a6bf9545b0a24982cd830eb13d3cd19de3ce6c021ec1"},
		{texts("ab", "", "c"), "5aa6c503744e3f19343fd00b749baeb484ccedbed6c462dbad752d6e04aba929"},
		{texts("\x00", "\x01", "\x02", "\x03", "\x04"), "b855b42d6c30f5b087e05266783fbd6e394f7b926013ccaa67700a8b0c5a596f"},
		{row(100), "d479cbf0da10adf18dd8aa3f81a4689f25df4e0125834392f8393f52aa4f9adc"},
	}
	for _, c := range cases {
		kept := slices.Clone(c.txs)
		if got := sha.Text(types.TxsHash(c.txs)); got != c.want {
			t.Errorf("%d transactions: %s", len(c.txs), got)
		}
		if !slices.EqualFunc(kept, c.txs, bytes.Equal) {
			t.Error("an argument was changed")
		}
	}
	if types.TxsHash([][]byte{nil}) != types.TxsHash(texts("")) || types.TxsHash([][]byte{}) != types.TxsHash(nil) {
		t.Error("nil and empty differ")
	}
}

// TestTY3HeaderHash: hashes that were made outside Go.
func TestTY3HeaderHash(t *testing.T) {
	cases := []struct {
		h    api.Header
		want string
	}{
		{api.Header{}, "cc8dc11384553118081cb4e8aa615cfe33d03130857feca8889aa9702eaf306a"},
		{firstBlock().Header, "d4482955969e6377b50f561053f4ffa0ca08b779ca26ceb4de16fcd115853633"},
		{header(), "eef0da0d9dcb06e7ddfd2abaed03f891a2da4e1fe2d200ba5cdd7d47d48509a0"},
		{longHeader(), "1ca4eb62c5b09ed1060da6656f7a6830e502933121f06b3b8bfde29f6d03cc4a"},
	}
	for _, c := range cases {
		if got := sha.Text(types.HeaderHash(c.h)); got != c.want {
			t.Errorf("%v: %s", c.h, got)
		}
	}
}

// TestTY3HeaderHashParts: headers that differ in anything have other hashes.
func TestTY3HeaderHashParts(t *testing.T) {
	changes := []func(h *api.Header){
		func(h *api.Header) {},
		func(h *api.Header) { h.Chain = "two" },
		func(h *api.Header) { h.Height++ },
		func(h *api.Header) { h.Time++ },
		func(h *api.Header) { h.Last[0]++ },
		func(h *api.Header) { h.App[1]++ },
		func(h *api.Header) { h.Txs[2]++ },
		func(h *api.Header) { h.Validators[30]++ },
		func(h *api.Header) { h.Next[31]++ },
		func(h *api.Header) { h.Proposer++ },
		func(h *api.Header) { h.Height, h.Time = h.Time, h.Height },
		func(h *api.Header) { h.Last, h.App = h.App, h.Last },
		func(h *api.Header) { h.Txs, h.Validators = h.Validators, h.Txs },
		func(h *api.Header) { h.Validators, h.Next = h.Next, h.Validators },
	}
	seen := map[api.Hash]int{}
	for i, change := range changes {
		h := header()
		change(&h)
		sum := types.HeaderHash(h)
		if other, found := seen[sum]; found {
			t.Errorf("headers %d and %d have one hash", other, i)
		}
		seen[sum] = i
	}
}

func TestTY3CheckBlock(t *testing.T) {
	wantErr(t, "the example", types.CheckBlock(firstBlock()), 0)
	wantErr(t, "a second block", types.CheckBlock(secondBlock()), 0)
	wantErr(t, "nothing", types.CheckBlock(api.Block{}), api.ErrBlock)
	both := []blockChange{
		{"a short Chain", func(b *api.Block) { b.Header.Chain = "~" }},
		{"a long Chain", func(b *api.Block) { b.Header.Chain = strings.Repeat("!", 64) }},
		{"the first Time", func(b *api.Block) { b.Header.Time = 0 }},
		{"the last Time", func(b *api.Block) { b.Header.Time = api.MaxTime }},
		{"the last Proposer", func(b *api.Block) { b.Header.Proposer = math.MaxInt }},
		{"any App", func(b *api.Block) { b.Header.App = hashOf("any") }},
		{"any Validators", func(b *api.Block) { b.Header.Validators = hashOf("any") }},
		{"any Next", func(b *api.Block) { b.Header.Next = hashOf("any") }},
		{"no transactions", func(b *api.Block) { *b = withTxs(*b, nil) }},
		{"an empty list of transactions", func(b *api.Block) { *b = withTxs(*b, [][]byte{}) }},
		{"64 transactions", func(b *api.Block) { *b = withTxs(*b, row(64)) }},
		{"a long transaction", func(b *api.Block) { *b = withTxs(*b, [][]byte{{1}, make([]byte, 1<<16), nil}) }},
		{"64 long transactions", func(b *api.Block) { *b = withTxs(*b, slices.Repeat([][]byte{make([]byte, 1<<16)}, 64)) }},
		{"a transaction twice", func(b *api.Block) { *b = withTxs(*b, texts("a", "a")) }},
		{"an empty list of votes", func(b *api.Block) { b.Last.Votes = []api.Vote{} }},
	}
	wantBlocks(t, firstBlock(), 0, both)
	wantBlocks(t, secondBlock(), 0, both)
}

// TestTY3CheckBlockNot: what is wrong at any height.
func TestTY3CheckBlockNot(t *testing.T) {
	long := make([]byte, 1<<16+1)
	both := []blockChange{
		{"no Chain", func(b *api.Block) { b.Header.Chain = "" }},
		{"a Chain too long", func(b *api.Block) { b.Header.Chain = strings.Repeat("x", 65) }},
		{"a space in the Chain", func(b *api.Block) { b.Header.Chain = "a b" }},
		{"a byte 127 in the Chain", func(b *api.Block) { b.Header.Chain = "a\x7f" }},
		{"a great byte in the Chain", func(b *api.Block) { b.Header.Chain = "\x80" }},
		{"Height 0", func(b *api.Block) { b.Header.Height = 0 }},
		{"Height -1", func(b *api.Block) { b.Header.Height = -1 }},
		{"the least Height", func(b *api.Block) { b.Header.Height = math.MinInt }},
		{"Time -1", func(b *api.Block) { b.Header.Time = -1 }},
		{"Time 2^40 + 1", func(b *api.Block) { b.Header.Time = api.MaxTime + 1 }},
		{"the greatest Time", func(b *api.Block) { b.Header.Time = math.MaxInt }},
		{"Proposer -1", func(b *api.Block) { b.Header.Proposer = -1 }},
		{"the least Proposer", func(b *api.Block) { b.Header.Proposer = math.MinInt }},
		{"65 transactions", func(b *api.Block) { *b = withTxs(*b, row(65)) }},
		{"1000 transactions", func(b *api.Block) { *b = withTxs(*b, make([][]byte, 1000)) }},
		{"a first transaction too long", func(b *api.Block) { *b = withTxs(*b, [][]byte{long, {1}}) }},
		{"a last transaction too long", func(b *api.Block) { *b = withTxs(*b, [][]byte{{1}, {2}, long}) }},
		{"one transaction more", func(b *api.Block) { b.Txs = append(b.Txs, []byte("a")) }},
		{"an empty transaction more", func(b *api.Block) { b.Txs = append(b.Txs, nil) }},
		{"another hash of the transactions", func(b *api.Block) { b.Header.Txs[31] ^= 1 }},
		{"no hash of the transactions", func(b *api.Block) { b.Header.Txs = api.Hash{} }},
	}
	wantBlocks(t, firstBlock(), api.ErrBlock, both)
	wantBlocks(t, secondBlock(), api.ErrBlock, both)
	wantBlocks(t, secondBlock(), api.ErrBlock, []blockChange{
		{"one transaction fewer", func(b *api.Block) { b.Txs = b.Txs[:2] }},
		{"transactions turned round", func(b *api.Block) { slices.Reverse(b.Txs) }},
		{"a transaction changed", func(b *api.Block) { b.Txs[2][2]++ }},
		{"a hash of other parts", func(b *api.Block) { b.Header.Txs = types.TxsHash(texts("ab", "", "c")) }},
	})
}

// TestTY3CheckBlockFirst: there is nothing ahead of the block of Height 1.
func TestTY3CheckBlockFirst(t *testing.T) {
	wantBlocks(t, firstBlock(), api.ErrBlock, []blockChange{
		{"Header.Last", func(b *api.Block) { b.Header.Last[31] = 1 }},
		{"a Height", func(b *api.Block) { b.Last.Height = 1 }},
		{"a Height below 0", func(b *api.Block) { b.Last.Height = -1 }},
		{"a Round", func(b *api.Block) { b.Last.Round = 1 }},
		{"a Round below 0", func(b *api.Block) { b.Last.Round = -1 }},
		{"a Block", func(b *api.Block) { b.Last.Block[0] = 1 }},
		{"a vote", func(b *api.Block) { b.Last.Votes = []api.Vote{{}} }},
		{"a Block that is Header.Last", func(b *api.Block) { b.Header.Last[0], b.Last.Block[0] = 1, 1 }},
		{"the Height of a second block", func(b *api.Block) { b.Header.Height = 2 }},
		{"the Heights of a second block", func(b *api.Block) { b.Header.Height, b.Last.Height = 2, 1 }},
	})
}

// TestTY3CheckBlockLater: what is ahead of any other block; its votes are verified elsewhere.
func TestTY3CheckBlockLater(t *testing.T) {
	wantBlocks(t, secondBlock(), 0, []blockChange{
		{"the last Height", func(b *api.Block) { b.Header.Height, b.Last.Height = api.MaxHeight, api.MaxHeight-1 }},
		{"any Round", func(b *api.Block) { b.Last.Round = -5 }},
		{"no votes", func(b *api.Block) { b.Last.Votes = nil }},
		{"votes that can't be", func(b *api.Block) { b.Last.Votes = make([]api.Vote, 100) }},
		{"another block", func(b *api.Block) { b.Header.Last[0], b.Last.Block[0] = 0, 0 }},
	})
	wantBlocks(t, secondBlock(), api.ErrBlock, []blockChange{
		{"a Height behind the last", func(b *api.Block) { b.Header.Height, b.Last.Height = api.MaxHeight+1, api.MaxHeight }},
		{"the greatest Height", func(b *api.Block) { b.Header.Height, b.Last.Height = math.MaxInt, math.MaxInt-1 }},
		{"a Height ahead of the first", func(b *api.Block) { b.Header.Height, b.Last.Height = 0, -1 }},
		{"a Height below 0", func(b *api.Block) { b.Header.Height, b.Last.Height = -1, -2 }},
		{"the least Height", func(b *api.Block) { b.Header.Height, b.Last.Height = math.MinInt, math.MaxInt }},
		{"no block", func(b *api.Block) { b.Header.Last, b.Last.Block = api.Hash{}, api.Hash{} }},
		{"no Header.Last", func(b *api.Block) { b.Header.Last = api.Hash{} }},
		{"a commit for no block", func(b *api.Block) { b.Last.Block = api.Hash{} }},
		{"another Header.Last", func(b *api.Block) { b.Header.Last[0] ^= 1 }},
		{"a commit for another block", func(b *api.Block) { b.Last.Block[31] ^= 1 }},
		{"no commit", func(b *api.Block) { b.Last = api.Commit{} }},
		{"a commit of the same Height", func(b *api.Block) { b.Last.Height = 2 }},
		{"a commit of Height 0", func(b *api.Block) { b.Last.Height = 0 }},
		{"a commit of Height -1", func(b *api.Block) { b.Last.Height = -1 }},
		{"the first Height", func(b *api.Block) { b.Header.Height = 1 }},
		{"the first Heights", func(b *api.Block) { b.Header.Height, b.Last.Height = 1, 0 }},
		{"the next Height", func(b *api.Block) { b.Header.Height = 3 }},
	})
}

// TestTY3CheckBlockBytes: which bytes and lengths the name of a chain may have.
func TestTY3CheckBlockBytes(t *testing.T) {
	for c := range 256 {
		want := api.Errno(0)
		if c < 33 || c > 126 {
			want = api.ErrBlock
		}
		b := firstBlock()
		b.Header.Chain = "a" + string([]byte{byte(c)}) + "b"
		wantErr(t, "byte "+strconv.Itoa(c), types.CheckBlock(b), want)
	}
}

// TestTY3Memory: a block that is checked is not changed.
func TestTY3Memory(t *testing.T) {
	b := secondBlock()
	kept := copyOfBlock(b)
	wantErr(t, "the block", types.CheckBlock(b), 0)
	if !sameBlock(b, kept) {
		t.Error("an argument was changed")
	}
}
