package keys_test

import (
	"bytes"
	"encoding/hex"
	"errors"
	"math"
	"slices"
	"strconv"
	"strings"
	"testing"

	"isthmus/api"
	"isthmus/files"
	"isthmus/keys"
	"isthmus/pack"
	"isthmus/sha"
	"isthmus/wots"
)

// small are Params by which much can be signed in little time.
var small = api.Params{Digest: 1, Depth: 3}

// notParams are those of no key.
var notParams = []api.Params{
	{Digest: 0, Depth: 0}, {Digest: 0, Depth: 3}, {Digest: -1, Depth: 3}, {Digest: 33, Depth: 3}, {Digest: 256, Depth: 0},
	{Digest: 1, Depth: -1}, {Digest: 1, Depth: 11}, {Digest: 32, Depth: 64}, {Digest: 0, Depth: 11}, {Digest: 33, Depth: -1},
	{Digest: math.MaxInt, Depth: 1}, {Digest: math.MinInt, Depth: 1}, {Digest: 1, Depth: math.MaxInt}, {Digest: 1, Depth: math.MinInt},
}

// wantErr holds that err is the number want, or nil for 0.
func wantErr(t *testing.T, what string, err error, want api.Errno) {
	t.Helper()
	if want == 0 && err == nil {
		return
	}
	var number api.Errno
	if !errors.As(err, &number) || number != want {
		t.Errorf("%s: %v, want error %d", what, err, want)
	}
}

// must holds that a call of the preparation has no error.
func must(t *testing.T, err error) {
	t.Helper()
	if err != nil {
		t.Fatal(err)
	}
}

// unhex are the bytes of a text of hexadecimal digits.
func unhex(t *testing.T, s string) []byte {
	t.Helper()
	b, err := hex.DecodeString(s)
	must(t, err)
	return b
}

// root is the root of a key that there is.
func root(t *testing.T, name string, p api.Params) api.Hash {
	t.Helper()
	h, err := keys.Root(keys.Seed(name), p)
	must(t, err)
	return h
}

// parts are what a signature consists of.
type parts struct {
	leaf uint64
	once []byte
	path []api.Hash
}

// bytes are the signature as the chapter encodes it.
func (x parts) bytes() []byte {
	w := pack.New().Uint(x.leaf).Bytes(x.once).Uint(uint64(len(x.path)))
	for _, h := range x.path {
		w.Hash(h)
	}
	return w.Done()
}

// partsOf are the parts of a signature of text by a leaf, made without a Signer.
func partsOf(t *testing.T, name string, p api.Params, leaf int, text string) parts {
	t.Helper()
	seed := keys.Seed(name)
	leaves := make([]api.Hash, 1<<p.Depth)
	for i := range leaves {
		public, err := wots.Public(seed, i, p.Digest)
		must(t, err)
		leaves[i] = public
	}
	digest, err := wots.Digest([]byte(text), p.Digest)
	must(t, err)
	once, err := wots.Sign(seed, leaf, digest)
	must(t, err)
	path, err := sha.Path(leaves, leaf)
	must(t, err)
	return parts{uint64(leaf), once, path}
}

func TestKY1Check(t *testing.T) {
	for digest := 1; digest <= 32; digest++ {
		for depth := range 11 {
			if err := keys.Check(api.Params{Digest: digest, Depth: depth}); err != nil {
				t.Errorf("Digest %d, Depth %d: %v", digest, depth, err)
			}
		}
	}
	for _, p := range notParams {
		wantErr(t, "Check", keys.Check(p), api.ErrKey)
	}
}

// TestKY1Seed: seeds that were made outside Go.
func TestKY1Seed(t *testing.T) {
	cases := []struct{ name, want string }{
		{"", "e77b9a9ae9e30b0dbdb6f510a264ef9de781501d7b6b92ae89eb059c5ab743db"},
		{"a", "6d5308ca6b31dda76f21cfaff20e192555943b63743d5e788bbd7372975db902"},
		{"val0", "70f02b77761c8570f2971db9303bd14f45a10619ce7fc07b50341dc36497f839"},
		{"relay", "a0309aa3abda46de2af63e9061846538ac9ef27a7a5726cea5f502ba65c44ff2"},
		{"\x05", "4a35ad75f928b2364bae7003666ba0abff28135cb574fb49eeed9e68a1c418e6"},
		{strings.Repeat("x", 200), "965499b5e5d3e69380f9c538b0cf11cc42485ec6fc538ef4111d14c8420c66f1"},
	}
	for _, c := range cases {
		if got := sha.Text(keys.Seed(c.name)); got != c.want {
			t.Errorf("Seed of %.20q: %s", c.name, got)
		}
	}
}

// TestKY1Root: roots that were made outside Go.
func TestKY1Root(t *testing.T) {
	cases := []struct {
		name string
		p    api.Params
		want string
	}{
		{"a", api.Params{Digest: 2, Depth: 1}, "0cf43be09a201d9c71c01b9301eee7ee44fb513c3e5241ed5b7c335a119a1553"},
		{"a", api.Params{Digest: 1, Depth: 0}, "92d77711fbd19c4e8ff5ccfff29548ebb85e7406038b6d26d85af9d709cb7974"},
		{"a", api.Params{Digest: 32, Depth: 0}, "a67cc0cc68bfd8d76a1b8851ab1d7bf7dbd5395694b8ff69e73620f697f02f19"},
		{"a", api.Params{Digest: 1, Depth: 1}, "063e590c0ba33feea5d336b9bae44f4ea673347dd5311475d3f54fc982f78492"},
		{"val0", api.Params{Digest: 1, Depth: 7}, "352524436663144996a433c1ec238cd59416ca2a325394aa3ebac50a40534e4f"},
		{"val0", api.Params{Digest: 16, Depth: 4}, "0c1a68b3986d48c0d9582994b95af4b02d999750cd50be8e7aa8b8debd61641f"},
		{"", api.Params{Digest: 32, Depth: 3}, "5d0558b0b63859f4971b376231bc795ab9442dbfc0d50c95e91c57cecab84c29"},
		{"a", api.Params{Digest: 1, Depth: 10}, "b5b7cbee6df3a8992ebad2f86331e107c3364c6e0d1682ebd9ae0444305a8179"},
		{"relay", api.Params{Digest: 3, Depth: 8}, "500d806fcdcc47fc8f93ded53271f76d33efd114bd4c5e66f89869eeec2e725e"},
	}
	for _, c := range cases {
		if got := sha.Text(root(t, c.name, c.p)); got != c.want {
			t.Errorf("Root of %q, %v: %s", c.name, c.p, got)
		}
	}
	got, err := keys.Root(api.Hash{}, api.Params{Digest: 2, Depth: 2})
	if want := "038a30f8cced25c92f09cdacf94f1af43dcd0975fd0d01587e20403b81db0019"; err != nil || sha.Text(got) != want {
		t.Errorf("Root of a seed of noughts: %s, %v", sha.Text(got), err)
	}
}

func TestKY1RootWrong(t *testing.T) {
	for _, p := range notParams {
		h, err := keys.Root(keys.Seed("a"), p)
		wantErr(t, "Root", err, api.ErrKey)
		if (h != api.Hash{}) {
			t.Errorf("Root, %v: %s beside the error", p, sha.Text(h))
		}
	}
}

func TestKY1Leaf(t *testing.T) {
	hashes := slices.Repeat([]api.Hash{keys.Seed("h")}, api.MaxDepth)
	for _, x := range []parts{
		{}, {leaf: 1}, {leaf: 127}, {leaf: 128}, {leaf: 200}, {leaf: 1023},
		{leaf: 7, once: make([]byte, 1)}, {leaf: 7, once: make([]byte, 4095)}, {leaf: 7, once: make([]byte, 4096)},
		{leaf: 9, path: hashes[:1]}, {leaf: 9, path: hashes[:9]}, {leaf: 9, path: hashes},
		{leaf: 1023, once: make([]byte, 4096), path: hashes},
	} {
		if n, err := keys.Leaf(x.bytes()); n != int(x.leaf) || err != nil {
			t.Errorf("Leaf of %d, %d bytes, %d hashes: %d, %v", x.leaf, len(x.once), len(x.path), n, err)
		}
	}
	for leaf := range 1 << small.Depth {
		if n, err := keys.Leaf(partsOf(t, "a", small, leaf, "text").bytes()); n != leaf || err != nil {
			t.Errorf("Leaf of a signature by %d: %d, %v", leaf, n, err)
		}
	}
}

// notSignatures are bytes that encode no signature.
func notSignatures() map[string][]byte {
	hash := keys.Seed("h")
	eleven := slices.Repeat([]api.Hash{hash}, api.MaxDepth+1)
	good := parts{leaf: 200, once: make([]byte, 160), path: eleven[:3]}.bytes()
	not := map[string][]byte{
		"nothing":                 nil,
		"no bytes":                {},
		"leaf 1024":               parts{leaf: 1024}.bytes(),
		"leaf 2^63":               parts{leaf: 1 << 63}.bytes(),
		"leaf 2^64 - 1":           parts{leaf: math.MaxUint64}.bytes(),
		"a leaf without an end":   bytes.Repeat([]byte{255}, 300),
		"a leaf of two bytes":     {128, 0, 0, 0},
		"4097 bytes":              parts{once: make([]byte, 4097)}.bytes(),
		"5000 bytes, 11 hashes":   parts{once: make([]byte, 5000), path: eleven}.bytes(),
		"11 hashes":               parts{leaf: 7, once: make([]byte, 160), path: eleven}.bytes(),
		"10 hashes, all missing":  {0, 0, 10},
		"1 hash, a byte missing":  pack.New().Uint(0).Uint(0).Uint(1).Hash(hash).Done()[:34],
		"3 hashes told, 4 behind": pack.New().Uint(0).Uint(0).Uint(3).Hash(hash).Hash(hash).Hash(hash).Hash(hash).Done(),
		"2^64 - 1 hashes told":    pack.New().Uint(0).Uint(0).Uint(math.MaxUint64).Hash(hash).Done(),
		"2^64 - 1 bytes told":     pack.New().Uint(0).Uint(math.MaxUint64).Hash(hash).Done(),
		"a count of two bytes":    {0, 0, 128, 0},
		"a length of two bytes":   {0, 128, 0, 0},
		"a byte behind":           append(bytes.Clone(good), 0),
		"a hash behind":           append(bytes.Clone(good), hash[:]...),
		"two signatures":          append(bytes.Clone(good), good...),
		"a text":                  []byte("text"),
	}
	for n := range good {
		not["the first "+strconv.Itoa(n)+" bytes"] = good[:n]
	}
	return not
}

func TestKY1LeafWrong(t *testing.T) {
	for what, sign := range notSignatures() {
		n, err := keys.Leaf(sign)
		wantErr(t, "Leaf of "+what, err, api.ErrForm)
		if n != 0 {
			t.Errorf("Leaf of %s: %d beside the error", what, n)
		}
	}
}

// TestKY1Verify: signatures whose bytes were made outside Go.
func TestKY1Verify(t *testing.T) {
	cases := []struct {
		name string
		p    api.Params
		leaf int
		text string
		size int
		sum  string
	}{
		{"a", api.Params{Digest: 1, Depth: 0}, 0, "", 164, "5eeac71d04069d8a5394aac06b75423a891d1d982180f7b5b3840543c79a7f26"},
		{"a", api.Params{Digest: 1, Depth: 0}, 0, "text", 164, "1ffd836e71cac914e3b420637c3b12a5b2a86ebbd26351520e42252c4e988308"},
		{"val0", api.Params{Digest: 1, Depth: 3}, 6, strings.Repeat("x", 300), 260, "e6e79d9c244393b738d7673179167b0a28ec938070f0806fdce7aec19e229e40"},
		{"", api.Params{Digest: 32, Depth: 2}, 3, "text", 2212, "2f9e8d4465e5afe6f61f4536a6bff4b17afdacc08d2b064124acaf5cdef6c050"},
		{"a", api.Params{Digest: 1, Depth: 8}, 200, "text", 421, "62c02f9efc9149646f47f760f54b14a088e872fe994509b9169e7750fcd9ba30"},
		{"a", api.Params{Digest: 1, Depth: 10}, 1023, "abc", 485, "33b1cc9991445f16d867e867360eab72ab64b7827ae69543e56ceb9b7e2d181e"},
	}
	for _, c := range cases {
		sign := partsOf(t, c.name, c.p, c.leaf, c.text).bytes()
		if sum := sha.Text(sha.Sum(sign)); len(sign) != c.size || sum != c.sum {
			t.Errorf("%q, %v, leaf %d: %d bytes, %s", c.name, c.p, c.leaf, len(sign), sum)
		}
		if err := keys.Verify(root(t, c.name, c.p), c.p, []byte(c.text), sign); err != nil {
			t.Errorf("Verify, %q, %v, leaf %d: %v", c.name, c.p, c.leaf, err)
		}
	}
}

// TestKY1VerifyBytes: a whole signature that was made outside Go.
func TestKY1VerifyBytes(t *testing.T) {
	p := api.Params{Digest: 1, Depth: 0}
	sign := unhex(t, "00a001"+
		"b6441a48431ca1681048ff1de6ad4eb3099159cd6d65e6cbbead4893c7110bd2"+
		"49cf26c7c879aa341fd9437dd22f90639e6149142944da3cc9e8a14a9809d6bf"+
		"748d9eb6e5ed5ae235ab06262e8cdf5c5b4bae8a4d79cd0cd28335dfa5b8a6a7"+
		"855ed390d9d37ca905117a39f6e8ba1c020d3c2df5ba45f650df6c55c62f740d"+
		"45932f3d68ed2d865928369ec517b8b762b314caa8a7bbaeb817160cc2263b70"+"00")
	if err := keys.Verify(root(t, "a", p), p, []byte("abc"), sign); err != nil {
		t.Errorf("Verify: %v", err)
	}
	wantErr(t, "another text", keys.Verify(root(t, "a", p), p, []byte("abd"), sign), api.ErrSign)
}

func TestKY1VerifyOrder(t *testing.T) {
	good := partsOf(t, "a", small, 2, "text").bytes()
	for _, p := range notParams {
		wantErr(t, "wrong Params", keys.Verify(root(t, "a", small), p, []byte("text"), good), api.ErrKey)
		wantErr(t, "wrong Params and no signature", keys.Verify(api.Hash{}, p, nil, []byte{255}), api.ErrKey)
	}
	for what, sign := range notSignatures() {
		wantErr(t, what, keys.Verify(root(t, "a", small), small, []byte("text"), sign), api.ErrForm)
	}
}

// TestKY1VerifyWrong: what has the form of a signature, but is not one of this text by this key.
func TestKY1VerifyWrong(t *testing.T) {
	good := partsOf(t, "a", small, 2, "text")
	key := root(t, "a", small)
	hold := func(what string, key api.Hash, p api.Params, text string, x parts) {
		t.Helper()
		wantErr(t, what, keys.Verify(key, p, []byte(text), x.bytes()), api.ErrSign)
		wantErr(t, what+", a root of noughts", keys.Verify(api.Hash{}, p, []byte(text), x.bytes()), api.ErrSign)
	}
	hold("another root", root(t, "b", small), small, "text", good)
	hold("another text", key, small, "texts", good)
	hold("no text", key, small, "", good)
	hold("a longer digest", key, api.Params{Digest: 2, Depth: 3}, "text", good)
	hold("a deeper tree", key, api.Params{Digest: 1, Depth: 4}, "text", good)
	hold("a flatter tree", key, api.Params{Digest: 1, Depth: 2}, "text", good)
	hold("no tree", key, api.Params{Digest: 1, Depth: 0}, "text", good)
	for _, leaf := range []uint64{0, 1, 3, 7, 8, 10, 1023} {
		hold("another leaf", key, small, "text", parts{leaf, good.once, good.path})
	}
	for _, n := range []int{0, 1, 159, 161, 192, 4096} {
		hold("another length", key, small, "text", parts{2, append(bytes.Clone(good.once), make([]byte, 4096)...)[:n], good.path})
	}
	for n := range 11 {
		if path := append(slices.Clone(good.path), make([]api.Hash, 8)...)[:n]; n != 3 {
			hold("another path", key, small, "text", parts{2, good.once, path})
		}
	}
	hold("the path of another leaf", key, small, "text", parts{2, good.once, partsOf(t, "a", small, 5, "text").path})
	hold("the path of another key", key, small, "text", parts{2, good.once, partsOf(t, "b", small, 2, "text").path})
	hold("the one-time part of another key", key, small, "text", parts{2, partsOf(t, "b", small, 2, "text").once, good.path})
	// A leaf that the key has not, whose low bits are those of one that it has.
	hold("leaf 8", key, small, "text", partsOf(t, "a", api.Params{Digest: 1, Depth: 4}, 8, "text"))
}

// TestKY1VerifyTurned: with any bit turned, and with any byte taken away, it is no signature any more.
func TestKY1VerifyTurned(t *testing.T) {
	good, key := partsOf(t, "a", small, 5, "text").bytes(), root(t, "a", small)
	if err := keys.Verify(key, small, []byte("text"), good); err != nil {
		t.Fatalf("Verify: %v", err)
	}
	for bit := range 8 * len(good) {
		bad := bytes.Clone(good)
		bad[bit/8] ^= 1 << (bit % 8)
		if keys.Verify(key, small, []byte("text"), bad) == nil {
			t.Errorf("bit %d is turned: verified", bit)
		}
	}
	for i := range good {
		bad := slices.Delete(bytes.Clone(good), i, i+1)
		if keys.Verify(key, small, []byte("text"), bad) == nil {
			t.Errorf("byte %d is gone: verified", i)
		}
	}
}

// TestKY1Memory: arguments stay as they are.
func TestKY1Memory(t *testing.T) {
	text := []byte("text and more")
	sign := append(partsOf(t, "a", small, 5, "text").bytes(), 1, 2, 3)
	keepText, keepSign := bytes.Clone(text), bytes.Clone(sign)
	must(t, keys.Verify(root(t, "a", small), small, text[:4], sign[:len(sign)-3]))
	if _, err := keys.Leaf(sign[:len(sign)-3]); err != nil {
		t.Fatal(err)
	}
	s, err := keys.Open(files.New(), "k", keys.Seed("a"), small)
	must(t, err)
	_, err = s.Sign(text[:4])
	must(t, err)
	if !bytes.Equal(text, keepText) || !bytes.Equal(sign, keepSign) {
		t.Error("an argument was changed")
	}
}
