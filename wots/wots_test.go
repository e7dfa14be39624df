package wots_test

import (
	"bytes"
	"encoding/hex"
	"errors"
	"math"
	"math/rand"
	"slices"
	"strings"
	"testing"

	"isthmus/api"
	"isthmus/sha"
	"isthmus/wots"
)

const leaves = 1 << api.MaxDepth

// seed is the one by which the vectors were made outside Go.
var seed = sha.Sum([]byte("abc"))

// notDigests are of lengths that no digest has.
var notDigests = [][]byte{nil, {}, make([]byte, 33), make([]byte, 64), make([]byte, 5000)}

// notLeaves are numbers of no leaf.
var notLeaves = []int{-1, leaves, leaves + 1, -leaves, math.MaxInt, math.MinInt}

// notLengths are lengths of no digest.
var notLengths = []int{0, -1, 33, 34, 256, math.MaxInt, math.MinInt, math.MinInt/2 + 1}

// wantErr holds that err is the number want, and that nothing is beside it.
func wantErr(t *testing.T, what string, nothing bool, err error, want api.Errno) {
	t.Helper()
	var number api.Errno
	if !errors.As(err, &number) || number != want {
		t.Errorf("%s: error %v, want %v", what, err, want)
	}
	if !nothing {
		t.Errorf("%s: a result beside the error", what)
	}
}

// unhex are the bytes of a text of hexadecimal digits.
func unhex(t *testing.T, s string) []byte {
	t.Helper()
	b, err := hex.DecodeString(s)
	if err != nil {
		t.Fatal(err)
	}
	return b
}

// digest is a digest that must be there.
func digest(t *testing.T, text string, n int) []byte {
	t.Helper()
	d, err := wots.Digest([]byte(text), n)
	if err != nil || len(d) != n {
		t.Fatalf("Digest of %d bytes: %d, %v", n, len(d), err)
	}
	return d
}

// sign is a signature that must be there.
func sign(t *testing.T, leaf int, d []byte) []byte {
	t.Helper()
	s, err := wots.Sign(seed, leaf, d)
	if err != nil || len(s) != 32*wots.Len(len(d)) {
		t.Fatalf("Sign by leaf %d: %d bytes, %v", leaf, len(s), err)
	}
	return s
}

func TestWO1Len(t *testing.T) {
	for n := 1; n <= api.MaxDigest; n++ {
		if got := wots.Len(n); got != 2*n+3 {
			t.Errorf("Len(%d): %d", n, got)
		}
	}
	for _, n := range notLengths {
		if got := wots.Len(n); got != 0 {
			t.Errorf("Len(%d): %d, want 0", n, got)
		}
	}
}

func TestWO1Digest(t *testing.T) {
	cases := []struct{ text, want string }{
		{"", "e52d9c508c502347344d8c07ad91cbd6068afc75ff6292f062a09ca381c89e71"},
		{"abc", "c8961b21b2ee347d6fae91d71653ab8f3a5b53eb9dea9ce2adc724ddb5096ec5"},
		{strings.Repeat("a", 1000), "c912e01a0a0aec4c699ba0870d67e72d402b4b53"},
	}
	for _, c := range cases {
		want := unhex(t, c.want)
		for n := 1; n <= len(want); n++ {
			if got, err := wots.Digest([]byte(c.text), n); err != nil || !bytes.Equal(got, want[:n]) {
				t.Errorf("%d bytes of the digest of %d: %x, %v", n, len(c.text), got, err)
			}
		}
	}
	if a, b := digest(t, "", 32), digest(t, "\x04", 32); bytes.Equal(a, b) {
		t.Error("the mark counts as text")
	}
}

func TestWO1DigestWrong(t *testing.T) {
	for _, n := range notLengths {
		d, err := wots.Digest([]byte("abc"), n)
		wantErr(t, "Digest", d == nil, err, api.ErrArg)
	}
}

func TestWO1Digits(t *testing.T) {
	cases := []struct {
		digest string
		want   []int
	}{
		{"12", []int{1, 2, 0, 1, 11}},
		{"00", []int{0, 0, 0, 1, 14}},
		{"ff", []int{15, 15, 0, 0, 0}},
		{"f00f", []int{15, 0, 0, 15, 0, 1, 14}},
		{strings.Repeat("00", 32), append(make([]int, 64), 3, 12, 0)},
		{strings.Repeat("ff", 32), append(slices.Repeat([]int{15}, 64), 0, 0, 0)},
		{strings.Repeat("00", 17) + "0e", append(make([]int, 35), 14, 2, 0, 14)},
		{"000102030405060708090a0b0c0d0e0f", []int{0, 0, 0, 1, 0, 2, 0, 3, 0, 4, 0, 5, 0, 6, 0, 7,
			0, 8, 0, 9, 0, 10, 0, 11, 0, 12, 0, 13, 0, 14, 0, 15, 1, 6, 8}},
	}
	for _, c := range cases {
		if got := wots.Digits(unhex(t, c.digest)); !slices.Equal(got, c.want) {
			t.Errorf("Digits of %s: %v, want %v", c.digest, got, c.want)
		}
	}
}

// TestWO1DigitsForm: as many digits as chains, and a sum that fits the others, for every length.
func TestWO1DigitsForm(t *testing.T) {
	r := rand.New(rand.NewSource(5))
	for n := 1; n <= api.MaxDigest; n++ {
		d := make([]byte, n)
		r.Read(d)
		got := wots.Digits(d)
		if len(got) != wots.Len(n) {
			t.Fatalf("%d bytes: %d digits", n, len(got))
		}
		sum := 0
		for i, b := range d {
			if got[2*i]*16+got[2*i+1] != int(b) || got[2*i] > 15 || got[2*i+1] > 15 {
				t.Errorf("byte %d: digits %d and %d", b, got[2*i], got[2*i+1])
			}
			sum += 30 - got[2*i] - got[2*i+1]
		}
		if l := got[2*n:]; l[0]*256+l[1]*16+l[2] != sum || max(l[0], l[1], l[2]) > 15 {
			t.Errorf("%d bytes: sum %v, want %d", n, l, sum)
		}
	}
}

func TestWO1DigitsWrong(t *testing.T) {
	for _, d := range notDigests {
		if got := wots.Digits(d); len(got) != 0 {
			t.Errorf("Digits of %d bytes: %v", len(d), got)
		}
	}
}

func TestWO1Step(t *testing.T) {
	cases := []struct {
		leaf, chain, from, to int
		want                  string
	}{
		{0, 0, 0, 1, "945d10cf2c6e6509130c58ad6663473dc69b3596fc6c2b992783abe96d9962bb"},
		{0, 0, 0, 15, "2ef3eaffe94a35e58fcdbbcce9651124bf799a2fe88311ce314a456be1c7b014"},
		{1, 2, 3, 4, "31cea5d8df851ef016838debcbb5b0156d8f12aa622ed069dc67d21b19255afe"},
		{127, 66, 0, 15, "e89d4f84008f2dfdce3bafb742833a7e8b5bb9bb1db2c1782cce093a00221aca"},
		{128, 127, 14, 15, "2a837e3353a0e4ee80e4aa7baaa9a5c77b19ee96f2943ba29115c1f9366c8cbd"},
		{300, 128, 7, 9, "28e53cf395b26ae8f6d3c1a4556ba8359e22a53d7c3ef479e366d15e88932da6"},
		{-1, 0, 0, 2, "8fd8fdcce50bea6c52e94713f5b287562d12938a0d759498a556d6f568eae3ea"},
		{0, -1, 0, 2, "5ec9a6c16748dafe2d2afa8fbb8615f81f0193e41ceee017c9ba435ef63995eb"},
		{-300, math.MinInt, 5, 6, "8151e69fc8bdfbec6201c27f9a607536633721c3ea50473b4b6525fcdab7ea20"},
		{math.MaxInt, math.MaxInt, 0, 1, "ac9fdcc5df5fa671f6dbb4815479efe12a5e54d3639f7ece51a4f75ca32cb28b"},
	}
	for _, c := range cases {
		if got := sha.Text(wots.Step(seed, c.leaf, c.chain, c.from, c.to)); got != c.want {
			t.Errorf("Step %v: %s", c, got)
		}
	}
}

// TestWO1StepEdges: positions outside the chain, and none to go.
func TestWO1StepEdges(t *testing.T) {
	whole, tail := wots.Step(seed, 3, 4, 0, 15), wots.Step(seed, 3, 4, 12, 15)
	cases := []struct {
		from, to int
		want     api.Hash
	}{
		{0, 0, seed}, {7, 7, seed}, {8, 7, seed}, {15, 15, seed}, {15, 0, seed},
		{15, 16, seed}, {16, 17, seed}, {16, 15, seed}, {20, math.MaxInt, seed}, {math.MaxInt, math.MinInt, seed},
		{-5, -3, seed}, {-3, -5, seed}, {-5, 0, seed}, {math.MinInt, math.MinInt + 5, seed}, {math.MinInt, -1, seed},
		{0, 16, whole}, {-1, 15, whole}, {-1, 16, whole}, {math.MinInt, math.MaxInt, whole},
		{12, 16, tail}, {12, 100, tail}, {12, math.MaxInt, tail},
		{-9, 2, wots.Step(seed, 3, 4, 0, 2)},
	}
	for _, c := range cases {
		if got := wots.Step(seed, 3, 4, c.from, c.to); got != c.want {
			t.Errorf("Step from %d to %d: %s", c.from, c.to, sha.Text(got))
		}
	}
}

// TestWO1StepParts: the way to a position, gone in two parts.
func TestWO1StepParts(t *testing.T) {
	for from := range 16 {
		for to := from; to < 16; to++ {
			whole := wots.Step(seed, 9, 1, from, to)
			for between := from; between <= to; between++ {
				if got := wots.Step(wots.Step(seed, 9, 1, from, between), 9, 1, between, to); got != whole {
					t.Errorf("from %d by %d to %d differs", from, between, to)
				}
			}
		}
	}
}

func TestWO2Public(t *testing.T) {
	cases := []struct {
		leaf, n      int
		want, noSeed string
	}{
		{0, 1, "e403e221616858999e1c87c5a0a1ef94ef918b506e7ac703200d9e678de99d71", "864b5c71bec4f37719f27e628cfd8cb998a59df33920c90919dc78a73ea0f374"},
		{0, 32, "b575ad6ca52d9c827cfc987b8e139a4c389b796505c662cbb70f782005e0d442", "b7f6bbd50dc355e4da774e64467e8eb821185c9b9981d7de6a582a34d5c6db1b"},
		{127, 2, "53e0125ab346edf31bda67d82c11e952fd19993b30d34d2e8a8d4eeae2928e8a", "6780675e07d09e299d8ccb0b1ec0a4c6879d500e16e108822825c9546bf85087"},
		{128, 2, "3f9186ee1b879ed6530e1d360a2691d7210941b2cb642f7dcfbe5bca30fda872", "f354d2f0825c320037f27a36276a3547b78675f5940d3b10a90d1fdcd434584d"},
		{300, 16, "282aef4267e611dc33faad728db26aebb36a60e8dcc40fc1c8c92aad4792b6ba", "77b32f9cb83c7d26c0eb6e3146ccb792d7f14c209d38916e78591855ddc0c093"},
		{1023, 1, "7942adeb1c911489a310c72a40846b6ffdcf22a1c09172fad8863e0bf115df49", "5719d86b10cbeab966bcaf867ab499cfb8b0d7eaa8e27b75f8b760ac83835083"},
		{1023, 32, "475664dc0c79a532658ee2b1f2586e4a92694027e3e9109c4761d1dea85c2f8f", "29ebf9a99ff24591199996391b9f7e38d971e62fa7ab8d4b5a78130a20b8cdaa"},
	}
	for _, c := range cases {
		if got, err := wots.Public(seed, c.leaf, c.n); err != nil || sha.Text(got) != c.want {
			t.Errorf("Public of leaf %d and %d bytes: %s, %v", c.leaf, c.n, sha.Text(got), err)
		}
		if got, err := wots.Public(api.Hash{}, c.leaf, c.n); err != nil || sha.Text(got) != c.noSeed {
			t.Errorf("Public without a seed, of leaf %d and %d bytes: %s, %v", c.leaf, c.n, sha.Text(got), err)
		}
	}
}

func TestWO2PublicWrong(t *testing.T) {
	for _, leaf := range notLeaves {
		h, err := wots.Public(seed, leaf, 1)
		wantErr(t, "Public of no leaf", h == api.Hash{}, err, api.ErrArg)
	}
	for _, n := range notLengths {
		h, err := wots.Public(seed, 0, n)
		wantErr(t, "Public of no length", h == api.Hash{}, err, api.ErrArg)
	}
}

// signed are digests by their signatures' sums, and what noughts in place of the signature make.
var signed = []struct {
	leaf                 int
	digest, sum, noughts string
}{
	{0, "12", "d94f9f7598042fc9ca533f8d32b2a2df1243f60635802565cff8ea92c1305f97", "3247ed692cdf03591aaf635e96b93a19ee71ce7615392ca601c237a69357fda8"},
	{0, "00", "68230a730367515e82420d5f3bc55762fb76f8073c523a77a732621ffd41642b", "8c219b60b645efa8049bce2f4cc766f69fed9be7a05cde5b97df330cb7cb481e"},
	{0, "ff", "1297d923ddacead83bc8433467f30e80e893d390d4bf8bc215e92bafa7d36a6e", "d197daf9769566bc1934c24608920cff0e1629012733eed97278e2d18ba32200"},
	{5, "c8961b21b2ee347d6fae91d71653ab8f3a5b53eb9dea9ce2adc724ddb5096ec5", "2be8cb8882bcaed22e468276ce3d0c83f1af1abc2bd7b355355624acab00ed39", "e2951845edbb44e5ca7e9ef06c84c774e8b980477592d3d25d7872699b2c2178"},
	{1023, "c8961b21b2ee347d6fae91d71653ab8f3a5b53eb9dea9ce2adc724ddb5096ec5", "3a58b56d7f99849880c397d3736fadc54d86a636b70e9c4f6e9dfa3c8531ef5c", "aa847e6cce9cc27dd9d39c13c7269b816909ba06b63b49434ddb69d04d855167"},
	{128, "e52d9c508c502347344d8c07ad91cbd6", "8468de7852647de824302f4a676d3d72a603cb3b581ba7632acd80f5e2c80cf4", "e484b4e3b4c989cf349ff4e6c5c720f3a72acbecfbfad6a103e01948bdae3584"},
	{200, strings.Repeat("00", 32), "fa3efae83c85b82a839d485711f17ca852749487fc2e017f3366c60ff26d4c6b", "2c21f1da883bb9803a4bbfa4dee16817d650a41d1fa1cd31df7ed22bc43c945c"},
	{200, strings.Repeat("ff", 32), "0593d4c7e82e23aa4cae6f697120add31b11c3bec56d4b2556ebc13629c475b7", "951a3a88adf1c8426cdeb054fe97c1258ae7b17e608d2c41c5f7fd902a5a6e57"},
}

func TestWO2Sign(t *testing.T) {
	for _, c := range signed {
		if got := sha.Text(sha.Sum(sign(t, c.leaf, unhex(t, c.digest)))); got != c.sum {
			t.Errorf("Sign %s by leaf %d: %s", c.digest, c.leaf, got)
		}
	}
}

// TestWO2SignOrder: the values stand in the order of the chains, each at its digit's position.
func TestWO2SignOrder(t *testing.T) {
	none := sign(t, 7, []byte{0x00}) // digits 0 0 0 1 14
	some := sign(t, 7, []byte{0x12}) // digits 1 2 0 1 11
	for chain, to := range []int{1, 2, 0} {
		want := wots.Step(api.Hash(none[32*chain:]), 7, chain, 0, to)
		if got := api.Hash(some[32*chain:]); got != want {
			t.Errorf("chain %d: %s", chain, sha.Text(got))
		}
	}
	if got := wots.Step(api.Hash(some[32*4:]), 7, 4, 11, 14); got != api.Hash(none[32*4:]) {
		t.Errorf("the last chain: %s", sha.Text(got))
	}
}

func TestWO2SignWrong(t *testing.T) {
	for _, leaf := range notLeaves {
		s, err := wots.Sign(seed, leaf, []byte{18})
		wantErr(t, "Sign by no leaf", s == nil, err, api.ErrArg)
	}
	for _, d := range notDigests {
		s, err := wots.Sign(seed, 0, d)
		wantErr(t, "Sign of no digest", s == nil, err, api.ErrArg)
	}
}

func TestWO2From(t *testing.T) {
	for _, c := range signed {
		d := unhex(t, c.digest)
		got, err := wots.From(make([]byte, 32*wots.Len(len(d))), c.leaf, d)
		if err != nil || sha.Text(got) != c.noughts {
			t.Errorf("From of noughts, %s and leaf %d: %s, %v", c.digest, c.leaf, sha.Text(got), err)
		}
	}
}

func TestWO2FromWrong(t *testing.T) {
	d := []byte{18}
	good := sign(t, 0, d)
	for _, leaf := range notLeaves {
		for _, s := range [][]byte{good, nil} {
			h, err := wots.From(s, leaf, d)
			wantErr(t, "From of no leaf", h == api.Hash{}, err, api.ErrArg)
		}
	}
	for _, no := range notDigests {
		for _, s := range [][]byte{good, nil, make([]byte, 96), make([]byte, 32*(2*len(no)+3))} {
			h, err := wots.From(s, 0, no)
			wantErr(t, "From of no digest", h == api.Hash{}, err, api.ErrArg)
		}
	}
	for _, n := range []int{0, 1, 31, 32, 128, 159, 161, 192, 320, 2144, 100000} {
		h, err := wots.From(make([]byte, n), 0, d)
		wantErr(t, "From of another length", h == api.Hash{}, err, api.ErrLong)
	}
}

// TestWO3FromSign: a signature makes the public sum, by each leaf and for each length.
func TestWO3FromSign(t *testing.T) {
	r := rand.New(rand.NewSource(55))
	hold := func(leaf int, d []byte) {
		want, err := wots.Public(seed, leaf, len(d))
		if err != nil {
			t.Fatal(err)
		}
		if got, err := wots.From(sign(t, leaf, d), leaf, d); err != nil || got != want {
			t.Errorf("leaf %d, digest %x: %s, %v", leaf, d, sha.Text(got), err)
		}
	}
	for n := 1; n <= api.MaxDigest; n++ {
		d := make([]byte, n)
		r.Read(d)
		for _, leaf := range []int{0, 1, r.Intn(leaves), leaves - 1} {
			hold(leaf, d)
		}
	}
	for b := range 256 {
		hold(b*4, []byte{byte(b)})
	}
}

// TestWO3Others: a signature of something else makes another sum.
func TestWO3Others(t *testing.T) {
	d := []byte{0x12, 0x34}
	good := sign(t, 6, d)
	want, err := wots.Public(seed, 6, 2)
	if err != nil {
		t.Fatal(err)
	}
	hold := func(what string, s []byte, leaf int, d []byte) {
		if got, err := wots.From(s, leaf, d); err != nil || got == want {
			t.Errorf("%s: the same sum, or %v", what, err)
		}
	}
	for b := range 256 * 256 {
		if other := []byte{byte(b >> 8), byte(b)}; b%251 == 0 && !bytes.Equal(other, d) {
			hold("another digest", good, 6, other)
		}
	}
	for _, leaf := range []int{0, 5, 7, 134, leaves - 1} {
		hold("another leaf", good, leaf, d)
	}
	for bit := range 8 * len(good) {
		bad := bytes.Clone(good)
		bad[bit/8] ^= 1 << (bit % 8)
		if bit%7 == 0 {
			hold("a turned bit", bad, 6, d)
		}
	}
}

// TestWO3Digits: of two digests, each has a digit that is greater than the other's.
func TestWO3Digits(t *testing.T) {
	greater := func(a, b []int) bool {
		for i := range a {
			if a[i] > b[i] {
				return true
			}
		}
		return false
	}
	for a := range 256 {
		for b := range a {
			x, y := wots.Digits([]byte{byte(a)}), wots.Digits([]byte{byte(b)})
			if !greater(x, y) || !greater(y, x) {
				t.Errorf("%v and %v", x, y)
			}
		}
	}
	r := rand.New(rand.NewSource(3))
	for range 20000 {
		a := make([]byte, 1+r.Intn(api.MaxDigest))
		r.Read(a)
		b := bytes.Clone(a)
		for range 1 + r.Intn(3) {
			b[r.Intn(len(b))] += byte(r.Intn(256))
		}
		x, y := wots.Digits(a), wots.Digits(b)
		if !bytes.Equal(a, b) && (!greater(x, y) || !greater(y, x)) {
			t.Errorf("%x and %x", a, b)
		}
	}
}

// TestWO2Memory: arguments stay as they are, and results are on their own.
func TestWO2Memory(t *testing.T) {
	text := []byte("abcdef")[:3]
	d := append(digest(t, "abc", 2), 1, 2, 3)[:2]
	keep := append(bytes.Clone(text[:6]), d[:5]...)
	first, again := sign(t, 2, d), sign(t, 2, d)
	s := append(bytes.Clone(first), make([]byte, 64)...)[:len(first)]
	if _, err := wots.From(s, 2, d); err != nil {
		t.Fatal(err)
	}
	x, y := digest(t, "abc", 2), wots.Digits(d)
	for i := range cap(x) {
		x[:cap(x)][i] ^= 255
	}
	for i := range cap(y) {
		y[:cap(y)][i] = 99
	}
	for i := range cap(first) {
		first[:cap(first)][i] ^= 255
	}
	if _, err := wots.Digest(text, 32); err != nil {
		t.Fatal(err)
	}
	if !bytes.Equal(keep, append(bytes.Clone(text[:6]), d[:5]...)) {
		t.Error("an argument was changed")
	}
	if !bytes.Equal(s, again) || !bytes.Equal(s[:cap(s)][len(s):len(s)+64], make([]byte, 64)) {
		t.Error("a signature was changed")
	}
	if got := sign(t, 2, d); !bytes.Equal(got, again) {
		t.Error("another signature at the second call")
	}
}
