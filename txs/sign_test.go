package txs_test

import (
	"encoding/hex"
	"math"
	"math/rand"
	"slices"
	"strconv"
	"strings"
	"testing"

	"isthmus/api"
	"isthmus/files"
	"isthmus/keys"
	"isthmus/sha"
	"isthmus/txs"
)

// What was made outside Go: the root of the key of alice with small, and its signatures of send, by leaf 0 for the chain one, and by leaf 1 for two.
const (
	aliceDigits = "906b9ced0ccd70b0d16c19a5155e0a02b328c4918858b8da07feb26ff404faa7"
	forOne      = "00e001572b77afe17eaf6347a62317e8d9ba9d5d6a7ac66078523a162898b0e6f0629246cdb74609bbf7e290971f0f3f7acad75a0f42ddd0644d7823fbd1a9ae94e75087be5a80b562fe615d38287121408c0cb04481e337917cc425e533518c0f1a2a18f5adfd0e5a31646f255d44066c906a5fa4628d1b671c23f3cd2e3d58b57bc0eb3a52fbe93633c15e93132a7ea8dbdc901703177b75977d3267ded9913f5ff3cfaa4cb367f3620d81a586c4b08dc9ae740da7cb6e4c592cd416ea2c98f3c213cb5800335baeffc1a5ec13181f59963a4a0b531b2e8da34f8a2917e0e7be56440113b3efb71c5fc77a41829db5e61d5d9fda13a8269c27b0a8f9d73a40cb394085"
	forTwo      = "01e00168588780e5d669e8cc7114e9bc00bbf55d53078f5829f31f33d8ad444013ea8f0033819c469978a97500c2226050a7c622488c9e4385ef31781dd1da09104378d9458f564f46e9dee4050041416867e127e54405f920f5f20ece4513aaabdc8c5ca352438af34edce64da9d62a1d3900271d76667443df578cd365487dafcbeaf2272071ebdb098271c1d04fb3db039e80abbd032c7a86601e8baeeadef20a9440f8ec3c1f9e86c3359cac3585aa72d23da6373c1056605d5b5707a5005c7965cec13b17d7fe8c658de3caf30f5442e9cc2328c1f97982ad7f192cb2e9a303ca0140eccbf7be334b121aa8be09453d7467451042539133f7c58f5c5f59f04a8b01"
)

var (
	small = api.Params{Digest: 2, Depth: 1}
	sound = api.Params{Digest: 16, Depth: 2} // with which no two texts have the same digest
)

// unhex are the bytes of hexadecimal digits.
func unhex(t *testing.T, s string) []byte {
	t.Helper()
	b, err := hex.DecodeString(s)
	must(t, err)
	return b
}

// signer has the key of that name.
func signer(t *testing.T, name string, p api.Params) *keys.Signer {
	t.Helper()
	s, err := keys.Open(files.New(), "counter", keys.Seed(name), p)
	must(t, err)
	return s
}

// signed is x with a signature for a chain, of the bytes that the chapter says.
func signed(t *testing.T, chain string, s *keys.Signer, x txs.Tx) txs.Tx {
	t.Helper()
	var err error
	x.Sign, err = s.Sign(modelledFor(chain, x))
	must(t, err)
	return x
}

// wantVerify holds that Verify of x is the error want, and that x stays as it is.
func wantVerify(t *testing.T, what, chain string, key api.Hash, p api.Params, x txs.Tx, want api.Errno) {
	t.Helper()
	was := copyOf(x)
	wantErr(t, "Verify: "+what, txs.Verify(chain, key, p, x), want)
	if !same(x, was) {
		t.Errorf("%s: the transaction was changed", what)
	}
}

// TestTX2Verify: signatures that were made outside Go.
func TestTX2Verify(t *testing.T) {
	alice, err := sha.Parse(aliceDigits)
	must(t, err)
	x, y := send(), send()
	x.Sign, y.Sign = unhex(t, forOne), unhex(t, forTwo)
	wantVerify(t, "signed for one", "one", alice, small, x, 0)
	wantVerify(t, "signed for two", "two", alice, small, y, 0)
	wantVerify(t, "signed for one, not for two", "two", alice, small, x, api.ErrSign)
	wantVerify(t, "signed for two, not for one", "one", alice, small, y, api.ErrSign)
	for _, p := range []api.Params{{Digest: 2}, {Digest: 2, Depth: 2}, {Digest: 1, Depth: 1}, {Digest: 3, Depth: 1}, {Digest: 32, Depth: 10}} {
		wantVerify(t, "other Params", "one", alice, p, x, api.ErrSign)
	}
	for _, p := range []api.Params{{}, {Digest: 0, Depth: 1}, {Digest: 33, Depth: 1}, {Digest: -1, Depth: 1}, {Digest: 2, Depth: -1}, {Digest: 2, Depth: 11}, {Digest: math.MaxInt, Depth: math.MinInt}} {
		wantVerify(t, "Params of no key", "one", alice, p, x, api.ErrSign)
	}
}

// TestTX2VerifyAll: transactions of all kinds with keys of many Params, and the keys of others.
func TestTX2VerifyAll(t *testing.T) {
	params := []api.Params{{Digest: 1}, {Digest: 2, Depth: 3}, {Digest: 16, Depth: 1}, {Digest: 32}}
	for i, x := range many() {
		p := params[i%len(params)]
		s := signer(t, "alice", p)
		bob, err := keys.Root(keys.Seed("bob"), p)
		must(t, err)
		x = signed(t, "one", s, x)
		what := "transaction " + strconv.Itoa(i)
		wantVerify(t, what, "one", s.Root(), p, x, 0)
		wantVerify(t, what+" of another key", "one", bob, p, x, api.ErrSign)
		wantVerify(t, what+" of no key", "one", api.Hash{}, p, x, api.ErrSign)
		root := s.Root()
		root[i] ^= 1
		wantVerify(t, what+" of a root with another byte", "one", root, p, x, api.ErrSign)
		x.Sign = nil
		wantVerify(t, what+" without Sign", "one", s.Root(), p, x, api.ErrSign)
	}
}

// TestTX2VerifyChecks: the error of Check comes ahead of that of the signature; the length of the encoding is not looked at.
func TestTX2VerifyChecks(t *testing.T) {
	s := signer(t, "alice", api.Params{Digest: 1, Depth: 4})
	p := api.Params{Digest: 1, Depth: 4}
	for _, f := range faults() {
		x := send()
		f.spoil(&x)
		wantVerify(t, f.what, "one", s.Root(), p, x, f.want)
		wantVerify(t, f.what+" with Params of no key", "one", s.Root(), api.Params{}, x, f.want)
		if len(x.Sign) > maxSign {
			continue
		}
		wantVerify(t, f.what+", signed", "one", s.Root(), p, signed(t, "one", s, x), f.want)
	}
	x := sized(maxTx+1, 100)
	wantNoEncode(t, "too long", x, api.ErrLong)
	wantVerify(t, "too long to be encoded", "one", s.Root(), p, signed(t, "one", s, x), 0)
	wantVerify(t, "too long to be encoded, not signed", "one", s.Root(), p, x, api.ErrSign)
}

// TestTX2VerifySign: signatures that are none.
func TestTX2VerifySign(t *testing.T) {
	alice, err := sha.Parse(aliceDigits)
	must(t, err)
	right := unhex(t, forOne)
	wantSign := func(what string, sign []byte) {
		t.Helper()
		x := send()
		x.Sign = sign
		wantVerify(t, what, "one", alice, small, x, api.ErrSign)
	}
	for n := range right {
		wantSign("cut at "+strconv.Itoa(n), right[:n])
		spoilt := slices.Clone(right)
		spoilt[n] ^= 1 << (n % 8)
		wantSign("a turned bit in byte "+strconv.Itoa(n), spoilt)
	}
	wantSign("a byte more", append(slices.Clone(right), 0))
	wantSign("the longest", make([]byte, maxSign))
	wantSign("for another chain", unhex(t, forTwo))
}

// change is what can be changed in a transaction that was signed.
type change struct {
	what string
	make func(*txs.Tx)
}

// changes are one for each part of the transaction of TestTX3SignedOnce, which has three messages: an Ack and two of one kind.
func changes() []change {
	l := []change{
		{"the account", func(x *txs.Tx) { x.Account = "alicf" }},
		{"a longer account", func(x *txs.Tx) { x.Account += "0" }},
		{"Seq", func(x *txs.Tx) { x.Seq++ }},
		{"the denomination", func(x *txs.Tx) { x.Fee.Denom = "atoms" }},
		{"the amount", func(x *txs.Tx) { x.Fee.Amount++ }},
		{"the kind", func(x *txs.Tx) { x.Msgs[1].Kind = txs.Bond }},
		{"a message less", func(x *txs.Tx) { x.Msgs = x.Msgs[:2] }},
		{"a message more", func(x *txs.Tx) { x.Msgs = append(x.Msgs, x.Msgs[2]) }},
		{"the order of messages", func(x *txs.Tx) { x.Msgs[1], x.Msgs[2] = x.Msgs[2], x.Msgs[1] }},
		{"bytes that move to the next text", func(x *txs.Tx) { x.Msgs[0].Texts[0], x.Msgs[0].Texts[1] = "text17-", "0text17-1" }},
		{"the order of ints", func(x *txs.Tx) { m := x.Msgs[0].Ints; m[0], m[1] = m[1], m[0] }},
	}
	for i := range 4 {
		l = append(l, change{"text " + strconv.Itoa(i), func(x *txs.Tx) { x.Msgs[0].Texts[i] += "x" }})
		l = append(l, change{"no text " + strconv.Itoa(i), func(x *txs.Tx) { x.Msgs[0].Texts[i] = "" }})
		l = append(l, change{"int " + strconv.Itoa(i), func(x *txs.Tx) { x.Msgs[0].Ints[i] = -x.Msgs[0].Ints[i] }})
	}
	for i := range 3 {
		l = append(l, change{"data " + strconv.Itoa(i), func(x *txs.Tx) { x.Msgs[0].Data[i][0]++ }})
		l = append(l, change{"more data " + strconv.Itoa(i), func(x *txs.Tx) { x.Msgs[0].Data[i] = append(x.Msgs[0].Data[i], 0) }})
	}
	return l
}

// TestTX3SignedOnce: what is signed for one chain is not signed for any other one, nor with anything changed.
func TestTX3SignedOnce(t *testing.T) {
	s := signer(t, "alice", sound)
	bond := full(2)
	other := full(2)
	other.Ints[0] = 1
	x := signed(t, "one", s, with(full(16), bond, other))
	wantVerify(t, "as it was signed", "one", s.Root(), sound, x, 0)
	for _, chain := range []string{"", "on", "one0", "two", "One", "one\x00", "tx", "tx\x03one", "one\x05alice", "\x03one"} {
		wantVerify(t, "for "+strconv.Quote(chain), chain, s.Root(), sound, x, api.ErrSign)
	}
	for _, c := range changes() {
		y := copyOf(x)
		c.make(&y)
		wantErr(t, "Check: "+c.what, txs.Check(y), 0)
		wantVerify(t, c.what, "one", s.Root(), sound, y, api.ErrSign)
	}
}

// TestTX3SignedForLast: a chain whose name is empty, or as long as may be, is one as any other.
func TestTX3SignedForLast(t *testing.T) {
	s := signer(t, "alice", sound)
	for _, chain := range []string{"", "\x00", strings.Repeat("x", 1<<16)} {
		x := signed(t, chain, s, send())
		wantVerify(t, "the chain", chain, s.Root(), sound, x, 0)
		wantVerify(t, "a longer chain", chain+"\x00", s.Root(), sound, x, api.ErrSign)
		wantVerify(t, "one", "one", s.Root(), sound, x, api.ErrSign)
	}
}

// random is a transaction that can be.
func random(r *rand.Rand) txs.Tx {
	text := func(most int) string {
		b := make([]byte, r.Intn(most+1))
		r.Read(b)
		return string(b)
	}
	x := txs.Tx{Account: "a" + strconv.Itoa(r.Int()), Seq: r.Intn(maxSeq + 1), Fee: api.Coin{Denom: "atom", Amount: r.Intn(api.MaxAmount + 1)}}
	if r.Intn(2) == 0 {
		x.Fee.Denom = voucher
	}
	for range 1 + r.Intn(api.MaxMsgs) {
		k := kinds[r.Intn(len(kinds))]
		m := blank(k.kind, k.texts, k.ints, k.data)
		for i := range m.Texts {
			m.Texts[i] = text(maxText)
		}
		for i := range m.Ints {
			m.Ints[i] = int(r.Uint64()) >> r.Intn(64)
		}
		for i := range m.Data {
			m.Data[i] = []byte(text(1 << r.Intn(12)))
		}
		x.Msgs = append(x.Msgs, m)
	}
	x.Sign = []byte(text(maxSign))
	return x
}

// TestTX3BackAgain: Decode of Encode is the transaction.
func TestTX3BackAgain(t *testing.T) {
	r := rand.New(rand.NewSource(3))
	for range 2000 {
		x := random(r)
		wantErr(t, "Check", txs.Check(x), 0)
		if len(modelled(x)) > maxTx {
			wantNoEncode(t, "too long", x, api.ErrLong)
			continue
		}
		wantEncode(t, "a random transaction", x, modelled(x))
	}
}

// TestTX3OtherBytes: transactions that differ in anything but Sign have other signed bytes, and so have other chains.
func TestTX3OtherBytes(t *testing.T) {
	r := rand.New(rand.NewSource(4))
	seen := map[string]bool{}
	chains := []string{"", "one", "two", "one\x05alice"}
	l := append(many(), send(), txs.Tx{}, odd(), with(), with(txs.Msg{}), with(txs.Msg{}, txs.Msg{}), with(blank(0, 1, 0, 0)), with(blank(0, 0, 1, 0)), with(blank(0, 0, 0, 1)))
	for range 500 {
		l = append(l, random(r))
	}
	for i, x := range l {
		for _, chain := range chains {
			b := string(txs.Bytes(chain, x))
			if seen[b] {
				t.Errorf("transaction %d for the chain %q has the bytes of another one", i, chain)
			}
			seen[b] = true
		}
	}
}
