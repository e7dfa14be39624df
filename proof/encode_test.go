package proof_test

import (
	"bytes"
	"math"
	"slices"
	"strconv"
	"strings"
	"testing"

	"isthmus/api"
	"isthmus/avl"
	"isthmus/pack"
	"isthmus/proof"
	"isthmus/sha"
)

const (
	leafC   = "a9fde214fd2c5d693a2f603eee0c0c67368029cda3097a3ebda58f7be514a672" // the hash of the leaf of c
	leafA   = "3fd00bbf90e6e212cb5e32083c5108f81ae69ed154ab17a52b4bb61f9e7a5272" // the hash of the leaf of a
	encodeA = "0161046f662061010002" + leafC
	encodeC = "0163046f662063010102" + leafA
)

// hex is bytes as hexadecimal digits.
func hex(b []byte) string {
	const digits = "0123456789abcdef"
	var s strings.Builder
	for _, c := range b {
		s.WriteByte(digits[c>>4])
		s.WriteByte(digits[c&15])
	}
	return s.String()
}

// noProof holds that b is not a proof.
func noProof(t *testing.T, what string, b []byte) {
	t.Helper()
	p, err := proof.Decode(b)
	wantErr(t, what, err, api.ErrForm)
	if !same(p, proof.Proof{}) {
		t.Errorf("%s: a proof beside the error", what)
	}
}

// noAbsent holds that b is not a proof that a key is not there.
func noAbsent(t *testing.T, what string, b []byte) {
	t.Helper()
	p, err := proof.DecodeNone(b)
	wantErr(t, what, err, api.ErrForm)
	if !sameNone(p, proof.Absent{}) {
		t.Errorf("%s: a proof beside the error", what)
	}
}

// thereAndBack: p is what its Encode is decoded to.
func thereAndBack(t *testing.T, what string, p proof.Proof) {
	t.Helper()
	if got, err := proof.Decode(proof.Encode(p)); err != nil || !same(got, p) {
		t.Errorf("%s: another proof, or %v", what, err)
	}
}

// thereAndBackNone: p is what its EncodeNone is decoded to.
func thereAndBackNone(t *testing.T, what string, p proof.Absent) {
	t.Helper()
	if got, err := proof.DecodeNone(proof.EncodeNone(p)); err != nil || !sameNone(got, p) {
		t.Errorf("%s: another proof, or %v", what, err)
	}
}

// TestPR3Encode: bytes that were made outside Go.
func TestPR3Encode(t *testing.T) {
	x := letters("ac")
	cases := []struct {
		p    proof.Proof
		want string
	}{
		{proof.Proof{}, "000000"},
		{exist(t, letters("a"), "a"), "0161046f66206100"},
		{exist(t, x, "a"), encodeA},
		{exist(t, x, "c"), encodeC},
	}
	for _, c := range cases {
		if got := hex(proof.Encode(c.p)); got != c.want {
			t.Errorf("%v: %s", c.p, got)
		}
	}
}

// TestPR3EncodeNone: bytes that were made outside Go.
func TestPR3EncodeNone(t *testing.T) {
	cases := []struct{ keys, key, want string }{
		{"", "x", "0000"},
		{"a", "b", "01080161046f6620610000"},
		{"a", "A", "0001080161046f66206100"},
		{"ac", "b", "012a" + encodeA + "012a" + encodeC},
		{"ac", "d", "012a" + encodeC + "00"},
		{"ac", "A", "00012a" + encodeA},
	}
	for _, c := range cases {
		p, err := proof.None(letters(c.keys), c.key)
		if err != nil {
			t.Fatal(err)
		}
		if got := hex(proof.EncodeNone(p)); got != c.want {
			t.Errorf("%s in %s: %s", c.key, c.keys, got)
		}
	}
}

// TestPR3Sums: sums, made outside Go, of the proofs for each of the keys 000 to 2n, half of which are there.
func TestPR3Sums(t *testing.T) {
	cases := []struct {
		n    int
		want string
	}{
		{0, "96a296d224f285c67bee93c30f8a309157f0daa35dc5b87e410b78630a09cfc7"},
		{1, "75dddd56452a6ea43fa1cd2eedc20b3ac47121a3eda4e7114175cde249546562"},
		{2, "39ca0ef540a232f5346b812890667ec9dac6a63a2c13ce8b0ee3188866141564"},
		{3, "c06edadaed249182edfa721d3e260e21caffac9fb30ea0a8f4103756ad53ec33"},
		{4, "d0f9451d88d3c0c6c3244f49ef4438c787efada84cd9883145431434a8fb7a2b"},
		{5, "2e7a0c96397064a37744d13c7076ff246752ddf72f9fa501ce039ae89c027e4c"},
		{7, "bfd958fc06cb62decf067d78d0dc1a53c12770b12fcf16e562ca7bb85932f1c3"},
		{33, "c4a54d52638372ab709dbced7c1f06869e588ebbb0836b8b3603a82fe023e937"},
		{100, "7ff09a06fea6bacc4399cb8ab735a4a6dde9f152edd8933fe8377c1a8b184517"},
		{150, "b38eeb51bcf918038057a3014973896e86c72e4103facd8a7a6be05c52072b5c"},
	}
	for _, c := range cases {
		x, all := odd(c.n), sha.New()
		for i := range 2*c.n + 1 {
			if p, err := proof.Exist(x, number(i)); err == nil {
				all.Write(proof.Encode(p))
			}
			if p, err := proof.None(x, number(i)); err == nil {
				all.Write(proof.EncodeNone(p))
			}
		}
		if got := sha.Text(all.Sum()); got != c.want {
			t.Errorf("%d keys: %s", c.n, got)
		}
	}
}

// TestPR3EncodeSteps: each part of a step, of a proof that need not be valid.
func TestPR3EncodeSteps(t *testing.T) {
	h := other(1)
	cases := []struct {
		step avl.Step
		want []byte
	}{
		{avl.Step{}, slices.Concat([]byte{0, 0}, make([]byte, 32))},
		{avl.Step{Second: true, Many: 1, Other: h}, slices.Concat([]byte{1, 2}, h[:])},
		{avl.Step{Many: -1, Other: h}, slices.Concat([]byte{0, 1}, h[:])},
		{avl.Step{Many: 150, Other: h}, slices.Concat([]byte{0, 172, 2}, h[:])},
		{avl.Step{Many: 1 << 32, Other: h}, slices.Concat([]byte{0, 128, 128, 128, 128, 32}, h[:])},
		{avl.Step{Many: math.MaxInt, Other: h}, slices.Concat([]byte{0, 254, 255, 255, 255, 255, 255, 255, 255, 255, 1}, h[:])},
		{avl.Step{Many: math.MinInt, Other: h}, slices.Concat([]byte{0, 255, 255, 255, 255, 255, 255, 255, 255, 255, 1}, h[:])},
	}
	for _, c := range cases {
		p := proof.Proof{Key: "a", Steps: []avl.Step{c.step}}
		if got := proof.Encode(p); !bytes.Equal(got, slices.Concat([]byte{1, 'a', 0, 1}, c.want)) {
			t.Errorf("%v: %v", c.step, got)
		}
		thereAndBack(t, "one step", p)
		thereAndBackNone(t, "one step", proof.Absent{Right: []proof.Proof{p}})
	}
	p := ladder(65, 1, false)
	if got := proof.Encode(p); len(got) != 5+65*34 || got[4] != 65 {
		t.Errorf("65 steps: %d bytes", len(got))
	}
	p = ladder(128, 1, false)
	if got := proof.Encode(p); len(got) != 6+128*34 || got[4] != 128 || got[5] != 1 {
		t.Errorf("128 steps: %d bytes", len(got))
	}
}

// TestPR3EncodeSides: as many proofs as there are on each side.
func TestPR3EncodeSides(t *testing.T) {
	q := []byte{3, 0, 0, 0}
	for left := range 4 {
		for right := range 4 {
			p := proof.Absent{Left: make([]proof.Proof, left), Right: make([]proof.Proof, right)}
			want := slices.Concat([]byte{byte(left)}, bytes.Repeat(q, left), []byte{byte(right)}, bytes.Repeat(q, right))
			got := proof.EncodeNone(p)
			if !bytes.Equal(got, want) {
				t.Errorf("%d and %d: %v", left, right, got)
			}
			if left <= 1 && right <= 1 {
				thereAndBackNone(t, "empty proofs", p)
				continue
			}
			noAbsent(t, "more than one", got)
		}
	}
}

// TestPR3Decode: proofs of all kinds of trees come back as they were.
func TestPR3Decode(t *testing.T) {
	samples(func(x *avl.Tree) {
		for _, key := range asked(x) {
			if p, err := proof.Exist(x, key); err == nil {
				thereAndBack(t, key, p)
				for _, q := range spoilt(p) {
					thereAndBack(t, key+", spoilt", q)
				}
			}
			if p, err := proof.None(x, key); err == nil {
				thereAndBackNone(t, key, p)
			}
		}
	})
	for steps := range 65 {
		thereAndBack(t, strconv.Itoa(steps)+" steps", ladder(steps, steps-3, steps%3 == 0))
	}
}

// TestPR3DecodeForm: bytes that are almost a proof.
func TestPR3DecodeForm(t *testing.T) {
	h := other(2)
	good := slices.Concat([]byte{1, 'k', 1, 'v', 1, 1, 4}, h[:])
	want := proof.Proof{Key: "k", Value: "v", Steps: []avl.Step{{Second: true, Many: 2, Other: h}}}
	if got, err := proof.Decode(good); err != nil || !same(got, want) {
		t.Fatalf("%v, %v", got, err)
	}
	cases := []struct {
		what string
		b    []byte
	}{
		{"nothing", nil},
		{"a key alone", []byte{1, 'k'}},
		{"no number of steps", []byte{1, 'k', 1, 'v'}},
		{"no step", []byte{1, 'k', 1, 'v', 1}},
		{"a byte more", append(slices.Clone(good), 0)},
		{"a step that was not counted", slices.Concat(good, good[5:])},
		{"a step too few", slices.Concat([]byte{1, 'k', 1, 'v', 2}, good[5:])},
		{"a length in two bytes", slices.Concat([]byte{129, 0}, good[1:])},
		{"a second length in two bytes", slices.Concat([]byte{1, 'k', 129, 0}, good[3:])},
		{"a number of steps in two bytes", slices.Concat([]byte{1, 'k', 1, 'v', 129, 0}, good[5:])},
		{"a Bool of 2", slices.Concat([]byte{1, 'k', 1, 'v', 1, 2, 4}, h[:])},
		{"a Bool of 255", slices.Concat([]byte{1, 'k', 1, 'v', 1, 255, 4}, h[:])},
		{"Many in two bytes", slices.Concat([]byte{1, 'k', 1, 'v', 1, 1, 132, 0}, h[:])},
		{"Many of more than 64 bits", slices.Concat([]byte{1, 'k', 1, 'v', 1, 1}, bytes.Repeat([]byte{255}, 9), []byte{3}, h[:])},
		{"a number of steps without end", bytes.Repeat([]byte{255}, 40)},
	}
	for _, c := range cases {
		noProof(t, c.what, c.b)
		inside := pack.New().Uint(1).Bytes(c.b).Uint(0).Done()
		noAbsent(t, c.what+", on the left", inside)
		inside = pack.New().Uint(0).Uint(1).Bytes(c.b).Done()
		noAbsent(t, c.what+", on the right", inside)
	}
	for i := range good {
		noProof(t, "cut at "+strconv.Itoa(i), good[:i])
	}
}

// TestPR3DecodeLimits: texts of MaxBytes bytes and 64 steps are decoded, more are not.
func TestPR3DecodeLimits(t *testing.T) {
	for _, over := range []int{-1, 0, 1} {
		long := strings.Repeat("x", api.MaxBytes+over)
		key, value, both := proof.Proof{Key: long}, proof.Proof{Key: "k", Value: long}, proof.Proof{Key: long, Value: long}
		steps := ladder(64+over, 1, true)
		for _, p := range []proof.Proof{key, value, both, steps} {
			left, right := proof.Absent{Left: []proof.Proof{p}}, proof.Absent{Right: []proof.Proof{p}}
			if over <= 0 {
				thereAndBack(t, "limit", p)
				thereAndBackNone(t, "limit, on the left", left)
				thereAndBackNone(t, "limit, on the right", right)
				thereAndBackNone(t, "limit, on both sides", proof.Absent{Left: []proof.Proof{p}, Right: []proof.Proof{p}})
				continue
			}
			noProof(t, "beyond the limit", proof.Encode(p))
			noAbsent(t, "beyond the limit, on the left", proof.EncodeNone(left))
			noAbsent(t, "beyond the limit, on the right", proof.EncodeNone(right))
		}
	}
	for _, steps := range []int{66, 127, 128, 300} {
		noProof(t, strconv.Itoa(steps)+" steps", proof.Encode(ladder(steps, 1, true)))
	}
}

// TestPR3DecodeNoneForm: bytes that are almost a proof that a key is not there.
func TestPR3DecodeNoneForm(t *testing.T) {
	p, _ := proof.None(letters("ac"), "b")
	a, c := proof.Encode(p.Left[0]), proof.Encode(p.Right[0])
	if got, err := proof.DecodeNone([]byte{0, 0}); err != nil || !sameNone(got, proof.Absent{}) {
		t.Errorf("nothing on both sides: %v, %v", got, err)
	}
	cases := []struct {
		what string
		b    []byte
	}{
		{"nothing", nil},
		{"one side", []byte{0}},
		{"a side more", []byte{0, 0, 0}},
		{"a proof that is missing", []byte{1}},
		{"a proof on the right that is missing", []byte{0, 1}},
		{"a proof without bytes", []byte{1, 0, 0}},
		{"a proof without bytes on the right", []byte{0, 1, 0}},
		{"a proof that is too long", []byte{1, 4, 0, 0, 0, 0}},
		{"a number in two bytes", []byte{128, 0, 0}},
		{"a second number in two bytes", []byte{0, 128, 0}},
		{"two proofs", pack.New().Uint(2).Bytes(a).Bytes(c).Uint(0).Done()},
		{"two proofs on the right", pack.New().Uint(0).Uint(2).Bytes(a).Bytes(c).Done()},
		{"the left side alone", pack.New().Uint(1).Bytes(a).Done()},
		{"a proof that is not counted", pack.New().Uint(0).Bytes(a).Uint(0).Done()},
		{"bytes behind a proof", pack.New().Uint(1).Bytes(append(slices.Clone(a), 0)).Uint(0).Done()},
		{"bytes behind the end", pack.New().Uint(1).Bytes(a).Uint(1).Bytes(c).Uint(0).Done()},
		{"a proof's last byte missing", pack.New().Uint(1).Bytes(a[:len(a)-1]).Uint(1).Bytes(c).Done()},
		{"a proof without its length", slices.Concat([]byte{1}, a, []byte{0})},
		{"a great number", slices.Concat(bytes.Repeat([]byte{255}, 9), []byte{1})},
	}
	for _, k := range cases {
		noAbsent(t, k.what, k.b)
	}
	good := proof.EncodeNone(p)
	for i := range good {
		noAbsent(t, "cut at "+strconv.Itoa(i), good[:i])
	}
}

// TestPR3OneWay: whatever is decoded is encoded to the same bytes, whichever byte of a proof is another one.
func TestPR3OneWay(t *testing.T) {
	x := letters("abcdefg")
	decoded, refused := 0, 0
	count := func(i int, err error, isSame bool) {
		t.Helper()
		if err == nil && !isSame {
			t.Fatalf("byte %d: it is encoded in another way", i)
		}
		if err == nil {
			decoded++
			return
		}
		refused++
		wantErr(t, "byte "+strconv.Itoa(i), err, api.ErrForm)
	}
	b := proof.Encode(exist(t, x, "d"))
	none, err := proof.None(x, "dd")
	if err != nil {
		t.Fatal(err)
	}
	both := proof.EncodeNone(none)
	for c := range 256 {
		for i := range b {
			spoilt := slices.Clone(b)
			spoilt[i] = byte(c)
			p, err := proof.Decode(spoilt)
			count(i, err, bytes.Equal(proof.Encode(p), spoilt))
		}
		for i := range both {
			spoilt := slices.Clone(both)
			spoilt[i] = byte(c)
			p, err := proof.DecodeNone(spoilt)
			count(i, err, bytes.Equal(proof.EncodeNone(p), spoilt))
		}
	}
	if decoded == 0 || refused == 0 {
		t.Errorf("%d decoded, %d refused", decoded, refused)
	}
}

// TestPR3Memory: bytes that were given are neither changed nor kept, and what is answered is the caller's.
func TestPR3Memory(t *testing.T) {
	p := exist(t, odd(30), number(9))
	none, _ := proof.None(odd(30), number(10))
	b, both := proof.Encode(p), proof.EncodeNone(none)
	given, alsoGiven := slices.Clone(b), slices.Clone(both)
	got, err := proof.Decode(given)
	gotNone, errNone := proof.DecodeNone(alsoGiven)
	if err != nil || errNone != nil || !bytes.Equal(given, b) || !bytes.Equal(alsoGiven, both) {
		t.Fatalf("an argument was changed, or %v, %v", err, errNone)
	}
	clear(given)
	clear(alsoGiven)
	if !same(got, p) || !sameNone(gotNone, none) {
		t.Error("an argument was kept")
	}
	wipe(&gotNone.Left[0])
	if !same(gotNone.Right[0], none.Right[0]) {
		t.Error("Left and Right share a list")
	}
	first := proof.Encode(p)
	clear(first[:cap(first)])
	firstNone := proof.EncodeNone(none)
	clear(firstNone[:cap(firstNone)])
	if !same(got, p) || !bytes.Equal(proof.Encode(p), b) || !bytes.Equal(proof.EncodeNone(none), both) {
		t.Error("bytes that were answered are kept")
	}
}
