package txs_test

import (
	"bytes"
	"encoding/binary"
	"encoding/hex"
	"math"
	"math/rand"
	"slices"
	"strconv"
	"strings"
	"testing"

	"isthmus/api"
	"isthmus/sha"
	"isthmus/txs"
)

const maxTx = 1 << 16

// What was made outside Go.
const (
	sendDigits   = "05616c696365000461746f6d0201020203626f620461746f6d010a00047369676e"
	signedDigits = "027478036f6e65" + "05616c696365000461746f6d0201020203626f620461746f6d010a00"
	oddDigits    = "000100ffffffffffffffffff01020000000001020002ff0002feffffffffffffffff01ffffffffffffffffff010100"
)

// vectors are the hashes of the signed bytes for the chain one, and of the encoding of a transaction, and its Hash.
var vectors = []struct{ signed, encoded, hash string }{
	{"08985be16e4b8f5adcce86829483b968436394e444c0630768302e85e6e04802", "01931405f84c770b7178fab9022bde8f8681d46606e5156b48de3c4897b7f85d", "5bd56f59efd247ae2d120d6c4ad5a3429dff39f147535edcbc357b127bac0318"},
	{"ea460fb6272e1b59b71ede5327e52578bbec8393191d2456b59cd4285e61fc41", "a99c973dc95c77f8ed6a2b34c38217656070b6e30dd960b5d85f3927a67ddc38", "9e1d41262d016d4b8ee7002051dc32a6a0cf8495e70bc2bc9861f642a35e31da"},
	{"491c8119bc931fa4f7cde60342a4cacbf3e8c9c8b93f6977ee20322fd1c4ceea", "b254eb127950b98746abfd3efcf1a8fdc84b68987d9e97b15a1fc4efdce9f3eb", "94b3f4f50f473c7768b7d06dccec10ffa6ca6bfadedba809e2034f7b40ecf8b8"},
	{"caabee0d30245b33201770e0d80d6804ef193d4d4c7cc413f8069c608282cd39", "333f8cadce0d979d92679c9b25db5e6900c37f2dfad7c49c18abf117c0abe9f7", "b2d907efdb71734f5918df034a9e924cd16b47c21b15ab67308bf8650f5df198"},
	{"74bff89fcbdd900d8e32f8c05fa6b01c6b3687300211da36e14d9425d7fceca6", "01e2c53d101f2ce56b40d35006d15f59a0cbfdb6acf80c4d771589214f0422cc", "7e89390519c8cabc91385599774facc5cc237aaa0ec17cafdb34d42ae9d1cc23"},
	{"7d912f6c7c55ddf28b4b81b2b2352f35f466c90742b90d97cf166b46cf0970d8", "e6c9a1a0aab8de4936870c2687cf7441fe5f581cd119bd035a6b1b2d73c3184e", "1195138d1e82d836f27ceb55e5341c9acc7db026d41744f6e1524b3730a1524c"},
	{"936640132f1a5ceba0bdbe0166e13b560e21f186954bc13cacf427480a8c8e04", "dc4885b66c63c4ce0fe9a4b8af767a2fb9f9361903346e762de531d2b5d897e5", "a10be515faeef5f4ec7d7d788c6e1681e59fc6a40e51472b33059482bc49e3f0"},
	{"66e7f5729a897562a3403a29127314af0bdb1afbc67519c2a88e6f990ff52435", "744701d3d2130e3bdaaff2b958d9105273acd2a43738baa463ff00e7c0a6b046", "bd70dbc486d10391b0f71a4d80dd03b8df3385c61f7ada32bee1f7bbaf3a602d"},
	{"0086dc47668f3b42f2bebe490ca41dadb9271595e60ec7746e5169dfd7e2bb80", "e5a559a050a9e8c0c1aaf20a8c083591a67f088c6c4c2d8089c9457b92fc8c65", "a85191dfcd2b7fe57826bf342480fc0b0fcd99579419e0e9b47d497dcd7f6667"},
	{"86e4b61170f95217a2ece9d498cb84aea7fcaa404a8e0f26cabc7ee754a9bce7", "7c9ed8fb2a63eadd7b69a1f04170bc88ded1f470a3da983736aa5e0efb8d4cd6", "7137322ce2242d14b19570346191f1dc513e8152098fd409be3fafc57627a468"},
	{"29f80b27173030547966dbe005c1b57ff34f6c70a4aec299a69f04fab1f528e1", "aabdd69025c40bb7d408393df0000ba58953e5cf9344d1273140c08fce214d25", "3b837ab6974b0ea6b8bbfd96a60ac45e36a97afe046d3b839159179855d9b844"},
	{"8096feae536533365f967be5f8808ab19a8c5cc77d0c5663a8f4be21fa562676", "b24d8941702fcde38f533154e07df09375746406de71f9891aa254c0e23dc2b5", "255e144e6edca1322a197fa4acbf0e6fbc5661b9c5ab7abac9bbf1f5b29b6a8f"},
	{"4e1c85650bc5ab91e57280118be595de78894aca9101986a05da5e26c0aaecc4", "22b8b6b15e4be95f7d64af41197bea5226a6c7c5867d9bfc4e6d0ad561fd78fb", "865f9691c770e1d539e779f6dd2d2a6c66e60a39c8ad3e39034c66b85e04f9f9"},
	{"7322010e0dad9de4094ac05b91d947fc494fe86fd9fed4e1ab9cfd2f07c28295", "b36faafab59ac5c32ce6c2fa3b835087475f276a3f18a7c7c3d9d2942dc6cb81", "f35f6fedad6efb3dcdd9482dc7121e0b75cd648e8fc9e423eaa60c5d9eadedeb"},
	{"8d3992bb7594348042724af48b27cc0db12ff1b9f152e980b9f269a188c1b9e5", "51cf38fcb0d95b90215f363997bdea0cd36e2fbcff482ce909464a6ddd9dcad6", "1fec3787b2d07e9498404c797343ce3b160912708faaeeb743af249ba135d1dd"},
	{"60c769148aedd8d887d993a4cf2b7ccc6a1769f0a27a43dda928aa5f5b425740", "b3b178beee361c52d3e30f4f7853f342bbe69ceaf7f03fe7b73888e3e490f669", "f7375a6074471691f906897da1b28a016b29954b84333919ff504bb8b2c32591"},
	{"34d76cecbb863a14178319da358bab9d48b8438b9b49d513eb1a6567df499fa4", "64e936dcad9ef2d1e718119cc3a57a89110dc8ada1c3b2883e408602c2b14630", "672cc8d2bf8de3b0bc13e3d2ab6754f0ba98eceee1bf285ca5a5eb3cedf89042"},
	{"3b6c020810355dc6733cccc48777459a74bf594da2375505d8d3d25c7134d0ad", "5b78b92f30d1c32b747365bc656fe9cd5521e8bc476c892e22ff92e40a862615", "94acc279748bad180af98d47c17f6d6a92a4a1b5b03e69abb25394a98600dd3b"},
	{"05119373cd5a9da8eed9fbfdd95fbfff15b85c2d2c5d12aa0f4300f1392b036a", "73159406d6b6fa7320f121271cca71db8dc93169ba618f6c9185a235615c4e3d", "7e8acca429ed9bc8f7d89b77b6afbbe2522ca92fbb60116a5cc6bf214b11705e"},
	{"fad4041a10cbdb5af89375e758be05ed1a0427a499a80b4fcc8ec31587073aaf", "dfef2319045d3e2a31955bf9c716d71036ec6634feddcb758ac631ea771c9272", "9a521ffd76f813f4648c7f20036111ea63baa7d195f060d70604dd67d511456b"},
	{"1b963ba7225204b70b674b10e201b0b91c8cb890e8bcb3ee6b22d6d933616370", "8419bbb12068fa27f31927f2f55a7cfe55eceae380142416b0e2f26115855c12", "0613ec79bc1544da0150330ec9a81837129b930aca5eca06e2e1041880245988"},
}

// many are the transactions of the vectors: one of each kind, and three with eight messages each.
func many() []txs.Tx {
	var l []txs.Tx
	for i, k := range kinds {
		l = append(l, txs.Tx{
			Account: "k" + strconv.Itoa(k.number), Seq: k.number, Fee: api.Coin{Denom: "fee", Amount: k.number * k.number},
			Msgs: []txs.Msg{full(i)}, Sign: bytes.Repeat([]byte{byte(k.number)}, k.number),
		})
	}
	for _, first := range []int{0, 8, 10} {
		x := txs.Tx{Account: "alice", Seq: maxSeq, Fee: api.Coin{Denom: voucher, Amount: api.MaxAmount}}
		for i := range api.MaxMsgs {
			x.Msgs = append(x.Msgs, full(first+i))
		}
		l = append(l, x)
	}
	return l
}

// odd is a transaction that can't be in any of its parts.
func odd() txs.Tx {
	m := txs.Msg{Kind: -1, Texts: []string{"", "\xff\x00"}, Ints: []int{math.MaxInt, math.MinInt}, Data: [][]byte{{}}}
	return txs.Tx{Seq: -1, Fee: api.Coin{Amount: math.MinInt}, Msgs: []txs.Msg{{}, m}, Sign: make([]byte, 300)}
}

// appendText appends a length and as many bytes.
func appendText(b []byte, s string) []byte {
	return append(binary.AppendUvarint(b, uint64(len(s))), s...)
}

// unsigned is what the chapter says of the encoding but for Sign, whether the transaction can be or not; the varints are those of the library.
func unsigned(x txs.Tx) []byte {
	b := binary.AppendVarint(appendText(nil, x.Account), int64(x.Seq))
	b = binary.AppendVarint(appendText(b, x.Fee.Denom), int64(x.Fee.Amount))
	b = binary.AppendUvarint(b, uint64(len(x.Msgs)))
	for _, m := range x.Msgs {
		b = binary.AppendVarint(b, int64(m.Kind))
		b = binary.AppendUvarint(b, uint64(len(m.Texts)))
		for _, s := range m.Texts {
			b = appendText(b, s)
		}
		b = binary.AppendUvarint(b, uint64(len(m.Ints)))
		for _, n := range m.Ints {
			b = binary.AppendVarint(b, int64(n))
		}
		b = binary.AppendUvarint(b, uint64(len(m.Data)))
		for _, d := range m.Data {
			b = appendText(b, string(d))
		}
	}
	return b
}

// modelled is the encoding.
func modelled(x txs.Tx) []byte { return appendText(unsigned(x), string(x.Sign)) }

// modelledFor is the signed bytes.
func modelledFor(chain string, x txs.Tx) []byte {
	return append(appendText(appendText(nil, "tx"), chain), unsigned(x)...)
}

func wantBytes(t *testing.T, what string, got, want []byte) {
	t.Helper()
	if !bytes.Equal(got, want) {
		t.Errorf("%s: %x, want %x", what, got, want)
	}
}

func wantDigits(t *testing.T, what string, got []byte, want string) {
	t.Helper()
	if hex.EncodeToString(got) != want {
		t.Errorf("%s: %x, want %s", what, got, want)
	}
}

func wantHash(t *testing.T, what string, got api.Hash, want string) {
	t.Helper()
	if sha.Text(got) != want {
		t.Errorf("%s: %s, want %s", what, sha.Text(got), want)
	}
}

// wantEncode holds that x has the encoding want, whose transaction is x, and that x stays as it is.
func wantEncode(t *testing.T, what string, x txs.Tx, want []byte) {
	t.Helper()
	was := copyOf(x)
	b, err := txs.Encode(x)
	wantErr(t, "Encode: "+what, err, 0)
	wantBytes(t, "Encode: "+what, b, want)
	y, err := txs.Decode(want)
	wantErr(t, "Decode: "+what, err, 0)
	if !same(y, was) || !same(x, was) {
		t.Errorf("%s: the transaction comes back as another one, or was changed", what)
	}
}

// wantNoEncode holds that Encode of x is the error want alone.
func wantNoEncode(t *testing.T, what string, x txs.Tx, want api.Errno) {
	t.Helper()
	b, err := txs.Encode(x)
	wantErr(t, "Encode: "+what, err, want)
	if len(b) != 0 {
		t.Errorf("Encode: %s: %d bytes beside the error", what, len(b))
	}
}

// wantNoDecode holds that no transaction has these bytes.
func wantNoDecode(t *testing.T, what string, b []byte) {
	t.Helper()
	x, err := txs.Decode(b)
	wantErr(t, "Decode: "+what, err, api.ErrForm)
	if !same(x, txs.Tx{}) {
		t.Errorf("Decode: %s: a transaction beside the error", what)
	}
}

// TestTX2Bytes: what is signed, against bytes made outside Go.
func TestTX2Bytes(t *testing.T) {
	wantDigits(t, "a Send", txs.Bytes("one", send()), signedDigits)
	wantDigits(t, "a Send for no chain", txs.Bytes("", send()), "02747800"+signedDigits[14:])
	wantDigits(t, "nothing", txs.Bytes("one", txs.Tx{}), "027478036f6e650000000000")
	wantDigits(t, "what can't be", txs.Bytes("one", odd()), "027478036f6e65"+oddDigits)
	wantHash(t, "a long chain", sha.Sum(txs.Bytes(strings.Repeat("x", 1000), send())), "a088ea8a0a36329511d0315dcfd25a205529b57ee3a5a6d19289a520d8e837c6")
	for i, x := range many() {
		wantHash(t, "transaction "+strconv.Itoa(i), sha.Sum(txs.Bytes("one", x)), vectors[i].signed)
	}
}

// TestTX2BytesWithoutSign: Sign is no part of what is signed, and whether a transaction can be makes no difference.
func TestTX2BytesWithoutSign(t *testing.T) {
	l := append(many(), send(), odd(), txs.Tx{}, with(), with(slices.Repeat([]txs.Msg{full(16)}, 300)...), with(long(1<<10, 1<<16)))
	for i, x := range l {
		for _, sign := range [][]byte{nil, {}, {0}, []byte("another one"), make([]byte, maxSign+1)} {
			for _, chain := range []string{"", "one", "two", "tx", "\xff", strings.Repeat("é", 200)} {
				x.Sign = sign
				wantBytes(t, "transaction "+strconv.Itoa(i), txs.Bytes(chain, x), modelledFor(chain, x))
			}
		}
	}
}

// TestTX2Encode: encodings, against bytes made outside Go.
func TestTX2Encode(t *testing.T) {
	b, err := txs.Encode(send())
	must(t, err)
	wantDigits(t, "a Send", b, sendDigits)
	wantEncode(t, "a Send", send(), modelled(send()))
	for i, x := range many() {
		what := "transaction " + strconv.Itoa(i)
		wantEncode(t, what, x, modelled(x))
		wantHash(t, what, sha.Sum(modelled(x)), vectors[i].encoded)
	}
}

// TestTX2EncodeOfNone: what can't be is not encoded: the error is that of Check.
func TestTX2EncodeOfNone(t *testing.T) {
	for _, f := range faults() {
		x := send()
		f.spoil(&x)
		wantNoEncode(t, f.what, x, f.want)
		x.Msgs = append(x.Msgs, slices.Repeat([]txs.Msg{long(maxText, maxData)}, 3)...)
		wantNoEncode(t, f.what+", and too long", x, f.want)
	}
	wantNoEncode(t, "nothing", txs.Tx{}, api.ErrAccount)
	wantNoEncode(t, "what can't be", odd(), api.ErrAccount)
}

// sized is a transaction whose encoding has so many bytes, of which most are data, or some in Sign.
func sized(size, sign int) txs.Tx {
	x := with(long(0, maxData), long(0, 0))
	x.Sign = make([]byte, sign)
	x.Msgs[1].Data[0], x.Msgs[1].Data[1] = make([]byte, 1000), make([]byte, 200)
	x.Msgs[1].Data[1] = make([]byte, size-len(modelled(x))+200)
	x.Msgs[0].Data[2][maxData-1] = 7
	return x
}

// TestTX2Long: an encoding has up to 2^16 bytes.
func TestTX2Long(t *testing.T) {
	for _, sign := range []int{0, 100, maxSign} {
		for _, size := range []int{maxTx - 2, maxTx - 1, maxTx} {
			x := sized(size, sign)
			if len(modelled(x)) != size {
				t.Fatalf("%d bytes, not %d", len(modelled(x)), size)
			}
			wantEncode(t, strconv.Itoa(size)+" bytes", x, modelled(x))
		}
		for _, size := range []int{maxTx + 1, maxTx + 2, maxTx + 100} {
			x := sized(size, sign)
			if len(modelled(x)) != size {
				t.Fatalf("%d bytes, not %d", len(modelled(x)), size)
			}
			wantErr(t, "Check: too long an encoding", txs.Check(x), 0)
			wantNoEncode(t, strconv.Itoa(size)+" bytes", x, api.ErrLong)
			wantNoDecode(t, strconv.Itoa(size)+" bytes", modelled(x))
		}
	}
	greatest := with(slices.Repeat([]txs.Msg{long(maxText, maxData)}, api.MaxMsgs)...)
	wantErr(t, "Check: the greatest", txs.Check(greatest), 0)
	wantNoEncode(t, "the greatest", greatest, api.ErrLong)
	wantNoDecode(t, "the greatest", modelled(greatest))
}

// TestTX2DecodeOfNone: encodings of what can't be are those of no transaction.
func TestTX2DecodeOfNone(t *testing.T) {
	for _, f := range faults() {
		x := send()
		f.spoil(&x)
		wantNoDecode(t, f.what, modelled(x))
	}
	for _, x := range []txs.Tx{{}, odd(), with(), with(txs.Msg{}), with(slices.Repeat([]txs.Msg{full(0)}, 9)...), with(slices.Repeat([]txs.Msg{full(1)}, 5000)...)} {
		wantNoDecode(t, "what can't be", modelled(x))
	}
	for i, k := range kinds {
		for _, m := range []txs.Msg{
			blank(k.kind, k.texts+1, k.ints, k.data), blank(k.kind, k.texts, k.ints+1, k.data), blank(k.kind, k.texts, k.ints, k.data+1),
			blank(k.kind, 6, 6, 6), blank(k.kind, k.texts, k.ints, 10000), blank(k.kind, 0, 0, 0), blank(-k.kind, k.texts, k.ints, k.data),
		} {
			wantNoDecode(t, "kind "+strconv.Itoa(k.number), modelled(with(full(i), m)))
		}
	}
}

// TestTX2DecodeBytes: what only looks like an encoding.
func TestTX2DecodeBytes(t *testing.T) {
	b := modelled(send())
	for _, c := range [][]byte{
		nil, {}, {0}, {255}, []byte("abc"), make([]byte, 6), make([]byte, 100), bytes.Repeat([]byte{255}, 100), bytes.Repeat([]byte{1}, 100), bytes.Repeat([]byte{128}, 100),
		make([]byte, maxTx), make([]byte, maxTx+1), make([]byte, 1<<20), bytes.Repeat([]byte{2}, maxTx),
		txs.Bytes("one", send()), unsigned(send()), b[1:], append([]byte{0}, b...), append(slices.Clone(b), 0), slices.Concat(b, b), append(slices.Clone(b), make([]byte, maxTx)...),
	} {
		wantNoDecode(t, strconv.Itoa(len(c))+" bytes", c)
	}
}

// TestTX2DecodeNumbers: numbers that are written in another way than the one, or are too great, at each place where a number is.
func TestTX2DecodeNumbers(t *testing.T) {
	// The lengths, counts and numbers of a Send, and where they are: the encoding has a single byte for each.
	b := modelled(send())
	for _, at := range []int{0, 6, 7, 12, 13, 14, 15, 16, 20, 25, 26, 27, 28} {
		n := b[at]
		for _, other := range [][]byte{
			{n | 128, 0}, {n | 128, 128, 0}, {n | 128, 128, 128, 128, 128, 128, 128, 128, 128, 0}, {n | 128, 128, 128, 128, 128, 128, 128, 128, 128, 2}, {n | 128, 128, 128, 128, 128, 128, 128, 128, 128, 128, 0},
		} {
			wantNoDecode(t, "another number at "+strconv.Itoa(at), slices.Concat(b[:at], other, b[at+1:]))
		}
		if at == 6 || at == 12 || at == 26 {
			continue // here great numbers are at home
		}
		for _, great := range []uint64{1 << 7, 1 << 14, 1 << 16, 1<<16 + 1, 1 << 31, 1 << 32, 1 << 63, math.MaxUint64} {
			wantNoDecode(t, "a great number at "+strconv.Itoa(at), slices.Concat(b[:at], binary.AppendUvarint(nil, great), b[at+1:]))
		}
	}
}

// TestTX2DecodeCuts: no part of an encoding is one.
func TestTX2DecodeCuts(t *testing.T) {
	for _, x := range append(many(), send()) {
		b := modelled(x)
		for n := range b {
			wantNoDecode(t, "cut at "+strconv.Itoa(n), b[:n])
		}
		wantNoDecode(t, "more behind it", append(b, 0))
	}
}

// wantOneWay holds that b is no encoding, or that of the transaction that Decode returns.
func wantOneWay(t *testing.T, b []byte) bool {
	t.Helper()
	x, err := txs.Decode(b)
	if err != nil {
		wantNoDecode(t, "changed bytes", b)
		return false
	}
	wantEncode(t, "changed bytes", x, b)
	return true
}

// TestTX2DecodeChanges: whatever byte is changed, bytes are those of no transaction, or of another one.
func TestTX2DecodeChanges(t *testing.T) {
	one, none := 0, 0
	for _, x := range []txs.Tx{send(), many()[3], many()[16]} {
		b := modelled(x)
		for i := range b {
			for d := 1; d < 256; d++ {
				changed := slices.Clone(b)
				changed[i] ^= byte(d)
				if wantOneWay(t, changed) {
					one++
				} else {
					none++
				}
			}
		}
	}
	if one < 1000 || none < 1000 {
		t.Errorf("%d are transactions, %d are not", one, none)
	}
}

// TestTX2DecodeRandom: bytes put together of pieces of encodings.
func TestTX2DecodeRandom(t *testing.T) {
	r := rand.New(rand.NewSource(15))
	l := many()
	for range 20000 {
		b, c := modelled(l[r.Intn(len(l))]), modelled(l[r.Intn(len(l))])
		wantOneWay(t, slices.Concat(b[:r.Intn(len(b)+1)], c[r.Intn(len(c)+1):]))
	}
}

// TestTX2Hash: against hashes made outside Go.
func TestTX2Hash(t *testing.T) {
	for i, x := range many() {
		wantHash(t, "transaction "+strconv.Itoa(i), txs.Hash(modelled(x)), vectors[i].hash)
	}
	every := make([]byte, 256)
	for i := range every {
		every[i] = byte(i)
	}
	for _, c := range []struct {
		b    []byte
		want string
	}{
		{nil, "2b4c342f5433ebe591a1da77e013d1b72475562d48578dca8b84bac6651c3cb9"},
		{[]byte{}, "2b4c342f5433ebe591a1da77e013d1b72475562d48578dca8b84bac6651c3cb9"},
		{[]byte{9}, "31609426297325bdb28c86ab3ceeed4a3c438966733fd61b8aea00ee8b23b7bc"},
		{[]byte("abc"), "0feab523d881a68c54faf47f5e89fcdc59df001cc4921196d8a5292def2d7383"},
		{make([]byte, maxTx), "ca76e2193d03564932c77ebe607b377317899d1d72b07d543674df6778713e7f"},
		{bytes.Repeat(every, 400), "fadd180d9cd7faad09ef1dde5a60c3ab8fb34244b499302e7c7eb2824f80e6f6"},
		{modelled(send()), "98723b851db59012c67b8c5a7542725ccb0e094a0ea93b6ddc37ecee21364081"},
	} {
		was := slices.Clone(c.b)
		wantHash(t, strconv.Itoa(len(c.b))+" bytes", txs.Hash(c.b), c.want)
		wantBytes(t, "what was hashed", c.b, was)
	}
	b := append(make([]byte, 0, 100), "abc"...)
	txs.Hash(b)
	wantBytes(t, "what is behind the bytes", b[:100], append([]byte("abc"), make([]byte, 97)...))
}

// TestTX2Memory: what is answered is the caller's: changing it changes neither an argument nor another answer.
func TestTX2Memory(t *testing.T) {
	for i, x := range many() {
		was := copyOf(x)
		b, err := txs.Encode(x)
		must(t, err)
		signed := txs.Bytes("one", x)
		clear(signed[:cap(signed)])
		y, err := txs.Decode(b)
		must(t, err)
		z, err := txs.Decode(b)
		must(t, err)
		clear(b[:cap(b)])
		overwrite(y)
		if !same(x, was) || !same(z, was) {
			t.Errorf("transaction %d was changed", i)
		}
		wantBytes(t, "the signed bytes", txs.Bytes("one", x), modelledFor("one", was))
		wantEncode(t, "transaction "+strconv.Itoa(i), x, modelled(was))
	}
}

// TestTX2OwnParts: no two lists of a decoded transaction share memory, even in their spare capacity.
func TestTX2OwnParts(t *testing.T) {
	for i, x := range many() {
		y, err := txs.Decode(modelled(x))
		must(t, err)
		y.Msgs = append(y.Msgs, txs.Msg{})[:len(y.Msgs)]
		_ = append(y.Sign, 1)
		for j := range y.Msgs {
			m := y.Msgs[j]
			_, _, _ = append(m.Texts, "x"), append(m.Ints, 1), append(m.Data, []byte("x"))
			for _, d := range m.Data {
				_ = append(d, 1)
			}
		}
		if !same(y, x) {
			t.Errorf("transaction %d was changed behind its lists", i)
		}
	}
}

// overwrite changes all memory that a transaction has.
func overwrite(x txs.Tx) {
	clear(x.Sign[:cap(x.Sign)])
	for _, m := range x.Msgs {
		clear(m.Texts[:cap(m.Texts)])
		clear(m.Ints[:cap(m.Ints)])
		for _, d := range m.Data {
			clear(d[:cap(d)])
		}
		clear(m.Data[:cap(m.Data)])
	}
	clear(x.Msgs[:cap(x.Msgs)])
}
