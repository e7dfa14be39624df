package pack_test

import (
	"bytes"
	"math"
	"slices"
	"strings"
	"testing"

	"isthmus/api"
	"isthmus/pack"
)

// numbers are numbers from 0 on and their varints.
var numbers = []struct {
	n     uint64
	bytes []byte
}{
	{0, []byte{0}},
	{1, []byte{1}},
	{127, []byte{127}},
	{128, []byte{128, 1}},
	{129, []byte{129, 1}},
	{255, []byte{255, 1}},
	{256, []byte{128, 2}},
	{300, []byte{172, 2}},
	{16383, []byte{255, 127}},
	{16384, []byte{128, 128, 1}},
	{2097151, []byte{255, 255, 127}},
	{2097152, []byte{128, 128, 128, 1}},
	{268435455, []byte{255, 255, 255, 127}},
	{268435456, []byte{128, 128, 128, 128, 1}},
	{4294967295, []byte{255, 255, 255, 255, 15}},
	{4294967296, []byte{128, 128, 128, 128, 16}},
	{34359738367, []byte{255, 255, 255, 255, 127}},
	{34359738368, []byte{128, 128, 128, 128, 128, 1}},
	{4398046511103, []byte{255, 255, 255, 255, 255, 127}},
	{4398046511104, []byte{128, 128, 128, 128, 128, 128, 1}},
	{562949953421311, []byte{255, 255, 255, 255, 255, 255, 127}},
	{562949953421312, []byte{128, 128, 128, 128, 128, 128, 128, 1}},
	{72057594037927935, []byte{255, 255, 255, 255, 255, 255, 255, 127}},
	{72057594037927936, []byte{128, 128, 128, 128, 128, 128, 128, 128, 1}},
	{81985529216486895, []byte{239, 155, 175, 205, 248, 172, 209, 145, 1}},
	{9223372036854775807, []byte{255, 255, 255, 255, 255, 255, 255, 255, 127}},
	{9223372036854775808, []byte{128, 128, 128, 128, 128, 128, 128, 128, 128, 1}},
	{18446744073709551615, []byte{255, 255, 255, 255, 255, 255, 255, 255, 255, 1}},
}

// signed are numbers of both signs and what Int makes of them.
var signed = []struct {
	n     int
	bytes []byte
}{
	{0, []byte{0}},
	{-1, []byte{1}},
	{1, []byte{2}},
	{-2, []byte{3}},
	{2, []byte{4}},
	{63, []byte{126}},
	{-64, []byte{127}},
	{64, []byte{128, 1}},
	{-65, []byte{129, 1}},
	{150, []byte{172, 2}},
	{-150, []byte{171, 2}},
	{8191, []byte{254, 127}},
	{-8192, []byte{255, 127}},
	{8192, []byte{128, 128, 1}},
	{-8193, []byte{129, 128, 1}},
	{2147483647, []byte{254, 255, 255, 255, 15}},
	{-2147483648, []byte{255, 255, 255, 255, 15}},
	{1152921504606846976, []byte{128, 128, 128, 128, 128, 128, 128, 128, 32}},
	{-1152921504606846976, []byte{255, 255, 255, 255, 255, 255, 255, 255, 31}},
	{4611686018427387903, []byte{254, 255, 255, 255, 255, 255, 255, 255, 127}},
	{-4611686018427387904, []byte{255, 255, 255, 255, 255, 255, 255, 255, 127}},
	{4611686018427387904, []byte{128, 128, 128, 128, 128, 128, 128, 128, 128, 1}},
	{-4611686018427387905, []byte{129, 128, 128, 128, 128, 128, 128, 128, 128, 1}},
	{math.MaxInt, []byte{254, 255, 255, 255, 255, 255, 255, 255, 255, 1}},
	{math.MinInt, []byte{255, 255, 255, 255, 255, 255, 255, 255, 255, 1}},
}

// lengths are lengths of strings and their varints.
var lengths = []struct {
	n     int
	bytes []byte
}{
	{0, []byte{0}},
	{1, []byte{1}},
	{31, []byte{31}},
	{127, []byte{127}},
	{128, []byte{128, 1}},
	{16383, []byte{255, 127}},
	{16384, []byte{128, 128, 1}},
	{1 << 20, []byte{128, 128, 64}},
}

// pattern is n bytes that differ from place to place.
func pattern(n int) []byte {
	b := make([]byte, n)
	for i := range b {
		b[i] = byte(i*7 + i>>8 + n)
	}
	return b
}

// hash has no two bytes the same.
func hash() api.Hash {
	var h api.Hash
	for i := range h {
		h[i] = byte(200 + 3*i)
	}
	return h
}

// wantBytes holds that got is want.
func wantBytes(t *testing.T, what string, got, want []byte) {
	t.Helper()
	if !bytes.Equal(got, want) {
		t.Errorf("%s: %v, want %v", what, got, want)
	}
}

func TestPK1NewIsEmpty(t *testing.T) {
	w := pack.New()
	if w == nil {
		t.Fatal("no Writer")
	}
	wantBytes(t, "Done", w.Done(), nil)
	pack.New().Uint(5)
	wantBytes(t, "Done behind another Writer's use", pack.New().Done(), nil)
	wantBytes(t, "Done behind another Writer's use", w.Done(), nil)
}

func TestPK1Uint(t *testing.T) {
	for _, c := range numbers {
		wantBytes(t, "Uint", pack.New().Uint(c.n).Done(), c.bytes)
	}
}

func TestPK1Int(t *testing.T) {
	for _, c := range signed {
		wantBytes(t, "Int", pack.New().Int(c.n).Done(), c.bytes)
	}
}

func TestPK1Bool(t *testing.T) {
	wantBytes(t, "false", pack.New().Bool(false).Done(), []byte{0})
	wantBytes(t, "true", pack.New().Bool(true).Done(), []byte{1})
}

func TestPK1TextAndBytes(t *testing.T) {
	for _, c := range lengths {
		b := pattern(c.n)
		want := slices.Concat(c.bytes, b)
		wantBytes(t, "Bytes", pack.New().Bytes(b).Done(), want)
		wantBytes(t, "Text", pack.New().Text(string(b)).Done(), want)
	}
	wantBytes(t, "no bytes", pack.New().Bytes(nil).Done(), []byte{0})
	wantBytes(t, "bytes that are no UTF-8", pack.New().Text("\xff\x00\xc3").Done(), []byte{3, 255, 0, 195})
}

func TestPK1Hash(t *testing.T) {
	h := hash()
	wantBytes(t, "Hash", pack.New().Hash(h).Done(), h[:])
	wantBytes(t, "Hash of noughts", pack.New().Hash(api.Hash{}).Done(), make([]byte, 32))
}

func TestPK1OneBehindTheOther(t *testing.T) {
	wantBytes(t, "the chapter's example", pack.New().Uint(300).Bool(true).Done(), []byte{172, 2, 1})
	h := hash()
	got := pack.New().Bool(true).Int(-150).Text("ab").Bytes([]byte{9}).Hash(h).Uint(128).Bool(false).Done()
	want := slices.Concat([]byte{1, 171, 2, 2, 'a', 'b', 1, 9}, h[:], []byte{128, 1, 0})
	wantBytes(t, "all kinds", got, want)
}

func TestPK1ReturnsTheWriter(t *testing.T) {
	w := pack.New()
	for i, got := range []*pack.Writer{w.Uint(1), w.Int(2), w.Bool(true), w.Text("a"), w.Bytes([]byte{1}), w.Hash(hash())} {
		if got != w {
			t.Errorf("method %d returns another Writer", i)
		}
	}
}

func TestPK1DoneCanBeCalledAgain(t *testing.T) {
	w := pack.New().Uint(300)
	first := w.Done()
	wantBytes(t, "Done again", w.Done(), []byte{172, 2})
	w.Text("abc")
	wantBytes(t, "Done behind more", w.Done(), []byte{172, 2, 3, 'a', 'b', 'c'})
	wantBytes(t, "what the first Done returned", first, []byte{172, 2})
}

func TestPK1DoneIsNewMemory(t *testing.T) {
	w := pack.New().Text(strings.Repeat("a", 100))
	first := w.Done()
	second := w.Done()
	for i := range first[:cap(first)] {
		first[:cap(first)][i] = 'x'
	}
	want := append([]byte{100}, bytes.Repeat([]byte{'a'}, 100)...)
	wantBytes(t, "the second result", second, want)
	wantBytes(t, "the Writer", w.Done(), want)
	w.Text(strings.Repeat("b", 100))
	wantBytes(t, "the spare room of the first result", first[:cap(first)], bytes.Repeat([]byte{'x'}, cap(first)))
}

func TestPK1BytesAreNotKept(t *testing.T) {
	b := pattern(50)
	w := pack.New().Bytes(b)
	b[0]++
	wantBytes(t, "the Writer behind a change of its argument", w.Done(), append([]byte{50}, pattern(50)...))
	wide := append(make([]byte, 0, 100), 1, 2)
	w = pack.New().Bytes(wide).Uint(7)
	w.Bytes(wide).Done()
	wantBytes(t, "the argument's spare room", wide[:100], append([]byte{1, 2}, make([]byte, 98)...))
}

func TestPK3NilWriter(t *testing.T) {
	var w *pack.Writer
	calls := []func() *pack.Writer{
		func() *pack.Writer { return w.Uint(1) },
		func() *pack.Writer { return w.Int(-1) },
		func() *pack.Writer { return w.Bool(true) },
		func() *pack.Writer { return w.Text("a") },
		func() *pack.Writer { return w.Bytes([]byte{1}) },
		func() *pack.Writer { return w.Hash(hash()) },
		func() *pack.Writer { return w.Uint(300).Int(4).Bool(false).Text("").Bytes(nil).Hash(api.Hash{}) },
	}
	for i, call := range calls {
		got := call()
		if got != nil {
			t.Errorf("call %d on a nil Writer returns a Writer", i)
		}
		wantBytes(t, "Done of a nil Writer", got.Done(), nil)
	}
	wantBytes(t, "Done of a nil Writer", w.Done(), nil)
}
