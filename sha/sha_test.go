package sha_test

import (
	"bytes"
	"errors"
	"slices"
	"strings"
	"testing"

	"isthmus/api"
	"isthmus/sha"
)

// pattern is n bytes that differ from place to place and from length to length.
func pattern(n int) []byte {
	b := make([]byte, n)
	for i := range b {
		b[i] = byte(i*7 + n)
	}
	return b
}

// wantErr holds that err is the number want, and that the other result is zero.
func wantErr(t *testing.T, what string, got api.Hash, err error, want api.Errno) {
	t.Helper()
	var number api.Errno
	if !errors.As(err, &number) || number != want {
		t.Errorf("%s: error %v, want %v", what, err, want)
	}
	if got != (api.Hash{}) {
		t.Errorf("%s: a hash beside the error", what)
	}
}

// written is what a Hash answers when b is written in pieces of so many bytes.
func written(b []byte, piece int) api.Hash {
	h := sha.New()
	for part := range slices.Chunk(b, piece) {
		h.Write(part)
	}
	return h.Sum()
}

// TestSH1SumStandard: the messages of FIPS 180-4's examples.
func TestSH1SumStandard(t *testing.T) {
	cases := []struct{ text, want string }{
		{"", "e3b0c44298fc1c149afbf4c8996fb92427ae41e4649b934ca495991b7852b855"},
		{"abc", "ba7816bf8f01cfea414140de5dae2223b00361a396177a9cb410ff61f20015ad"},
		{"abcdbcdecdefdefgefghfghighijhijkijkljklmklmnlmnomnopnopq", "248d6a61d20638b8e5c026930c3e6039a33ce45964ff2167f6ecedd419db06c1"},
		{"abcdefghbcdefghicdefghijdefghijkefghijklfghijklmghijklmnhijklmnoijklmnopjklmnopqklmnopqrlmnopqrsmnopqrstnopqrstu", "cf5b16a778af8380036ce59e7b0492370b249b11e8f07a51afac45037afee9d1"},
		{strings.Repeat("a", 1000000), "cdc76e5c9914fb9281a1c7e284d73e67f1809a48a497200e046d39ccc7112cd0"},
	}
	for _, c := range cases {
		if got := sha.Text(sha.Sum([]byte(c.text))); got != c.want {
			t.Errorf("%d bytes: %s, want %s", len(c.text), got, c.want)
		}
	}
	if sha.Sum(nil) != sha.Sum([]byte{}) {
		t.Error("no bytes: nil and empty differ")
	}
}

// TestSH1SumLengths: lengths about those at which the padding needs one block more.
func TestSH1SumLengths(t *testing.T) {
	cases := []struct {
		n    int
		want string
	}{
		{1, "4bf5122f344554c53bde2ebb8cd2b7e3d1600ad631c385a5d7cce23c7785459a"},
		{54, "1ad616be707a2b269ecfe28bdea4a4284a4f78a221287d45b98004231f501c77"},
		{55, "81afe5b788dc2ce138ff83d9b20164db75a94d75d2b2432eea4a0ef605088c72"},
		{56, "2aba54f0ac632420a2b502431408866e40e1d5e430df4cd822642c78ab2eb9c1"},
		{63, "733d3d4ee79ee67145bf73da13588f6f235d37414fc64b14a2f00f1762792f5e"},
		{64, "79322907b3e9d013d7dc2c2f256674dbf733045cde01df3539271c6f5605feb8"},
		{65, "d85c007c6eb440f085afa2b84f6f2bce4658b240e9f62cb1364bf0485a57e720"},
		{119, "6c87eedf096b345de205b702e5223b73b447a3207791ded3ea007ba15ed6736e"},
		{120, "42500cf6a1e3936d6b9e0bcfe296d654b63255e525487d3634d0b15fde591c4d"},
		{127, "68f6ff710276900c0ffbbc57426f67e00c2e01f0750c7edc25ac06b8ce7a8095"},
		{128, "489d55fea9a73af36b6dd0be7b4117d8e5683386d39544e8a44c99a87f368707"},
		{1000, "6b0df76627243d095b0c4400cb658b7e804dd03461cc03aee8fc8fe0bcada168"},
	}
	for _, c := range cases {
		if got := sha.Text(sha.Sum(pattern(c.n))); got != c.want {
			t.Errorf("%d bytes: %s, want %s", c.n, got, c.want)
		}
	}
	var all []byte
	for n := range 301 {
		h := sha.Sum(pattern(n))
		all = append(all, h[:]...)
	}
	if got := sha.Text(sha.Sum(all)); got != "60d63ff40b5558727a9b786ac0be9300f7ca58fd9ddd3b2f3681b369018a87dc" {
		t.Errorf("the hashes of 0 to 300 bytes: %s", got)
	}
}

func TestSH1Text(t *testing.T) {
	if got := sha.Text(api.Hash{}); got != strings.Repeat("0", 64) {
		t.Errorf("zeros: %s", got)
	}
	var h api.Hash
	for i := range h {
		h[i] = byte(i*16 + 31 - i)
	}
	if got := sha.Text(h); got != "1f2e3d4c5b6a798897a6b5c4d3e2f1000f1e2d3c4b5a69788796a5b4c3d2e1f0" {
		t.Errorf("all digits: %s", got)
	}
}

func TestSH1Parse(t *testing.T) {
	hashes := []api.Hash{{}, {0: 1}, {31: 255}, sha.Sum(nil), sha.Sum([]byte("abc"))}
	for b := range 256 {
		hashes = append(hashes, api.Hash{0: byte(b), 17: byte(b + 1), 31: byte(b)})
	}
	for _, h := range hashes {
		if got, err := sha.Parse(sha.Text(h)); err != nil || got != h {
			t.Errorf("Parse of %s: %v, %v", sha.Text(h), got, err)
		}
	}
}

func TestSH1ParseWrong(t *testing.T) {
	good := sha.Text(sha.Sum([]byte("abc")))
	wrong := []string{
		"", "0", good[:63], good[:62], good + "0", good + "00", good + good, " " + good, good + " ", good + "\n",
		strings.ToUpper(good), "0x" + good[2:], "-" + good[1:], "+" + good[1:], "_" + good[1:],
		good[:31] + "é" + good[33:], strings.Repeat("é", 32), strings.Repeat("\x00", 64), strings.Repeat("é", 64),
	}
	for b := range 256 {
		if strings.IndexByte("0123456789abcdef", byte(b)) < 0 {
			sign := string([]byte{byte(b)})
			wrong = append(wrong, sign+good[1:], good[:1]+sign+good[2:], good[:62]+sign+good[63:], good[:63]+sign)
		}
	}
	for _, s := range wrong {
		h, err := sha.Parse(s)
		wantErr(t, strings.ToValidUTF8(s, "?"), h, err, api.ErrForm)
	}
}

func TestSH1Hash(t *testing.T) {
	h := sha.New()
	if h.Sum() != sha.Sum(nil) {
		t.Error("nothing written")
	}
	h.Write(nil)
	h.Write([]byte{})
	if h.Sum() != sha.Sum(nil) {
		t.Error("no bytes written")
	}
	var all []byte
	for n := range 150 {
		h.Write(pattern(n))
		all = append(all, pattern(n)...)
		if got := h.Sum(); got != sha.Sum(all) || h.Sum() != got {
			t.Fatalf("after %d calls of Write: the first Sum, or the second one", n+1)
		}
	}
}

func TestSH1Clone(t *testing.T) {
	for n := range 130 {
		h := sha.New()
		h.Write(pattern(n))
		twin := h.Clone()
		if twin == nil || twin == h || twin.Sum() != sha.Sum(pattern(n)) {
			t.Fatalf("%d bytes: no copy", n)
		}
		h.Write([]byte("left"))
		twin.Write([]byte("right hand side"))
		if h.Sum() != sha.Sum(append(pattern(n), "left"...)) {
			t.Errorf("%d bytes: the copy changes the original", n)
		}
		if twin.Sum() != sha.Sum(append(pattern(n), "right hand side"...)) {
			t.Errorf("%d bytes: the original changes the copy", n)
		}
	}
}

func TestSH1NilHash(t *testing.T) {
	var h *sha.Hash
	h.Write(nil)
	h.Write([]byte("abc"))
	if h.Sum() != (api.Hash{}) {
		t.Error("Sum is not zeros")
	}
	if h.Clone() != nil {
		t.Error("Clone is not nil")
	}
}

// TestSH4Pieces: how the bytes are divided makes no difference.
func TestSH4Pieces(t *testing.T) {
	for n := range 200 {
		b := pattern(n)
		want := sha.Sum(b)
		for cut := range n + 1 {
			h := sha.New()
			h.Write(b[:cut])
			h.Write(b[cut:])
			if h.Sum() != want {
				t.Fatalf("%d bytes, cut at %d", n, cut)
			}
		}
	}
	long := pattern(5000)
	for piece := 1; piece < 300; piece++ {
		if written(long, piece) != sha.Sum(long) {
			t.Fatalf("pieces of %d", piece)
		}
	}
}

// TestBytesAreTheCallers: bytes that were written are neither changed nor looked at again.
func TestBytesAreTheCallers(t *testing.T) {
	for _, n := range []int{1, 63, 64, 65, 200} {
		b := pattern(n)
		h := sha.New()
		h.Write(b)
		sha.Sum(b)
		sha.Leaf(b)
		if !bytes.Equal(b, pattern(n)) {
			t.Fatalf("%d bytes: changed", n)
		}
		clear(b)
		if h.Sum() != sha.Sum(pattern(n)) {
			t.Errorf("%d bytes: kept", n)
		}
	}
}
