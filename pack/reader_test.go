package pack_test

import (
	"bytes"
	"errors"
	"math"
	"math/big"
	"math/rand"
	"slices"
	"strings"
	"testing"

	"isthmus/api"
	"isthmus/pack"
)

// isErr tells whether err is the number want.
func isErr(err error, want api.Errno) bool {
	var number api.Errno
	return errors.As(err, &number) && number == want
}

// wantAll holds that everything was read, without an error.
func wantAll(t *testing.T, what string, r *pack.Reader) {
	t.Helper()
	if r.Left() != 0 || r.Err() != nil || r.Done() != nil {
		t.Errorf("%s: %d left, Err %v, Done %v", what, r.Left(), r.Err(), r.Done())
	}
}

// zeroed makes a call of each method that reads, and tells whether all of them return zero values.
func zeroed(r *pack.Reader) bool {
	return r.Uint(math.MaxUint64) == 0 && r.Int() == 0 && r.Count(math.MaxInt) == 0 && !r.Bool() &&
		r.Text(math.MaxInt) == "" && len(r.Bytes(math.MaxInt)) == 0 && r.Hash() == api.Hash{} &&
		r.Text(-1) == "" && len(r.Bytes(-1)) == 0 && r.Uint(0) == 0 && r.Count(-1) == 0
}

// wantFailed holds that a Reader has the error want, consumed nothing with it, and keeps to it whatever is called.
func wantFailed(t *testing.T, what string, r *pack.Reader, want api.Errno, left int) {
	t.Helper()
	for range 2 {
		if !isErr(r.Err(), want) || !isErr(r.Done(), want) {
			t.Errorf("%s: Err %v, Done %v, want %v", what, r.Err(), r.Done(), want)
		}
		if r.Left() != left {
			t.Errorf("%s: %d left, want %d", what, r.Left(), left)
		}
		if !zeroed(r) {
			t.Errorf("%s: a value behind the error", what)
		}
	}
}

// reading is a method that reads, with its argument; its function tells whether the call returned a zero value.
type reading struct {
	name string
	call func(r *pack.Reader) bool
}

func uintOf(most uint64) reading {
	return reading{"Uint", func(r *pack.Reader) bool { return r.Uint(most) == 0 }}
}

func intOf() reading {
	return reading{"Int", func(r *pack.Reader) bool { return r.Int() == 0 }}
}

func countOf(most int) reading {
	return reading{"Count", func(r *pack.Reader) bool { return r.Count(most) == 0 }}
}

func boolOf() reading {
	return reading{"Bool", func(r *pack.Reader) bool { return !r.Bool() }}
}

func textOf(most int) reading {
	return reading{"Text", func(r *pack.Reader) bool { return r.Text(most) == "" }}
}

func bytesOf(most int) reading {
	return reading{"Bytes", func(r *pack.Reader) bool { return len(r.Bytes(most)) == 0 }}
}

func hashOf() reading {
	return reading{"Hash", func(r *pack.Reader) bool { return r.Hash() == api.Hash{} }}
}

// wantFailure holds that the reading fails on b, both at once and behind a value that was read.
func wantFailure(t *testing.T, m reading, b []byte, want api.Errno) {
	t.Helper()
	r := pack.Read(b)
	if !m.call(r) {
		t.Errorf("%s of %v: a value beside the error", m.name, b)
	}
	wantFailed(t, m.name, r, want, len(b))
	r = pack.Read(append([]byte{1}, b...))
	if !r.Bool() {
		t.Fatal("the value ahead is lost")
	}
	if !m.call(r) {
		t.Errorf("%s of %v behind a value: a value beside the error", m.name, b)
	}
	wantFailed(t, m.name+" behind a value", r, want, len(b))
}

func TestPK2ReadIsAtTheFirstByte(t *testing.T) {
	r := pack.Read([]byte{7, 8, 9})
	if r.Left() != 3 || r.Err() != nil {
		t.Errorf("%d left, Err %v", r.Left(), r.Err())
	}
	if n := r.Uint(100); n != 7 {
		t.Errorf("the first byte is %d", n)
	}
	for _, b := range [][]byte{nil, {}} {
		wantAll(t, "a Reader of no bytes", pack.Read(b))
	}
}

func TestPK2Uint(t *testing.T) {
	for _, c := range numbers {
		r := pack.Read(c.bytes)
		if n := r.Uint(math.MaxUint64); n != c.n {
			t.Errorf("%v: %d, want %d", c.bytes, n, c.n)
		}
		wantAll(t, "Uint", r)
		r = pack.Read(append(slices.Clone(c.bytes), 128, 128))
		if n := r.Uint(c.n); n != c.n || r.Left() != 2 || r.Err() != nil {
			t.Errorf("%v with more behind: %d, %d left, %v", c.bytes, n, r.Left(), r.Err())
		}
		if c.n > 0 {
			wantFailure(t, uintOf(c.n-1), c.bytes, api.ErrRange)
			wantFailure(t, uintOf(0), c.bytes, api.ErrRange)
		}
	}
}

// badVarints are no varints: what is wrong with them hangs on their first ten bytes.
func badVarints() []struct {
	bytes []byte
	want  api.Errno
} {
	full := bytes.Repeat([]byte{255}, 9)
	marks := bytes.Repeat([]byte{128}, 9)
	return []struct {
		bytes []byte
		want  api.Errno
	}{
		{nil, api.ErrEnd},
		{[]byte{128}, api.ErrEnd},
		{[]byte{255, 255}, api.ErrEnd},
		{marks, api.ErrEnd},
		{full, api.ErrEnd},
		{slices.Concat(marks, []byte{128}), api.ErrForm},
		{slices.Concat(full, []byte{255}), api.ErrForm},
		{slices.Concat(marks, []byte{128, 1}), api.ErrForm},
		{slices.Concat(marks, []byte{129, 0}), api.ErrForm},
		{[]byte{128, 0}, api.ErrForm},
		{[]byte{255, 0, 1}, api.ErrForm},
		{[]byte{129, 128, 0}, api.ErrForm},
		{slices.Concat(marks[:8], []byte{0}), api.ErrForm},
		{slices.Concat(marks, []byte{0}), api.ErrForm},
		{slices.Concat(full, []byte{0}), api.ErrForm},
		{slices.Concat(marks, []byte{2}), api.ErrForm},
		{slices.Concat(marks, []byte{3}), api.ErrForm},
		{slices.Concat(full, []byte{2}), api.ErrForm},
		{slices.Concat(full, []byte{127}), api.ErrForm},
		{slices.Concat(full, []byte{64, 1, 1}), api.ErrForm},
	}
}

func TestPK2UintOfNoVarint(t *testing.T) {
	for _, c := range badVarints() {
		for _, m := range []reading{uintOf(math.MaxUint64), uintOf(0), intOf(), countOf(math.MaxInt), countOf(0), countOf(-1), textOf(math.MaxInt), textOf(0), bytesOf(math.MaxInt), bytesOf(0)} {
			wantFailure(t, m, c.bytes, c.want)
		}
	}
}

// modelled is what chapter 2 says of Uint on b, step by step.
func modelled(b []byte, most uint64) (uint64, int, api.Errno) {
	size := 1 + slices.IndexFunc(b, func(c byte) bool { return c < 128 })
	switch {
	case len(b) >= 10 && (size == 0 || size > 10):
		return 0, 0, api.ErrForm
	case size == 0:
		return 0, 0, api.ErrEnd
	}
	number := new(big.Int)
	for _, c := range slices.Backward(b[:size]) {
		number.Lsh(number, 7).Add(number, big.NewInt(int64(c%128)))
	}
	if !number.IsUint64() || size > 1 && b[size-1] == 0 {
		return 0, 0, api.ErrForm
	}
	if number.Uint64() > most {
		return 0, 0, api.ErrRange
	}
	return number.Uint64(), size, 0
}

// TestPK2UintIsAsModelled: all short sequences of bytes at the edges, alone and behind so many groups that they end at ten.
func TestPK2UintIsAsModelled(t *testing.T) {
	edges := []byte{0, 1, 2, 3, 126, 127, 128, 129, 254, 255}
	ends := [][]byte{nil}
	for at := 0; at < len(ends); at++ {
		if len(ends[at]) == 3 {
			break
		}
		for _, c := range edges {
			ends = append(ends, append(slices.Clone(ends[at]), c))
		}
	}
	for _, begin := range []int{0, 1, 4, 7, 8, 9} {
		for _, end := range ends {
			b := append(bytes.Repeat([]byte{129}, begin), end...)
			for _, most := range []uint64{0, 1, 127, 16384, 1 << 62, 1 << 63, math.MaxUint64} {
				want, size, fault := modelled(b, most)
				r := pack.Read(b)
				got := r.Uint(most)
				if got != want || r.Left() != len(b)-size || (fault == 0) != (r.Err() == nil) || fault != 0 && !isErr(r.Err(), fault) {
					t.Fatalf("%v up to %d: %d, %d left, %v; want %d, %d taken, %v", b, most, got, r.Left(), r.Err(), want, size, fault)
				}
			}
		}
	}
}

func TestPK2Int(t *testing.T) {
	for _, c := range signed {
		r := pack.Read(c.bytes)
		if n := r.Int(); n != c.n {
			t.Errorf("%v: %d, want %d", c.bytes, n, c.n)
		}
		wantAll(t, "Int", r)
	}
}

func TestPK2Count(t *testing.T) {
	for _, n := range []int{0, 1, 2, 127, 128, 300} {
		begin := pack.New().Uint(uint64(n)).Done()
		enough := append(slices.Clone(begin), make([]byte, n)...)
		for _, most := range []int{n, n + 1, math.MaxInt} {
			r := pack.Read(enough)
			if got := r.Count(most); got != n || r.Left() != n || r.Err() != nil {
				t.Errorf("Count(%d) of %d: %d, %d left, %v", most, n, got, r.Left(), r.Err())
			}
		}
		if n > 0 {
			wantFailure(t, countOf(n-1), enough, api.ErrRange)
			wantFailure(t, countOf(n), enough[:len(enough)-1], api.ErrLong)
			wantFailure(t, countOf(math.MaxInt), begin, api.ErrLong)
			wantFailure(t, countOf(n-1), begin, api.ErrRange)
		}
	}
	for _, n := range []uint64{math.MaxInt, math.MaxInt - 1, 1 << 40} {
		wantFailure(t, countOf(math.MaxInt), pack.New().Uint(n).Bool(true).Done(), api.ErrLong)
	}
	for _, n := range []uint64{1 << 63, math.MaxUint64} {
		wantFailure(t, countOf(math.MaxInt), pack.New().Uint(n).Bool(true).Done(), api.ErrRange)
	}
}

func TestPK2CountUpToANegativeNumber(t *testing.T) {
	for _, most := range []int{0, -1, math.MinInt} {
		r := pack.Read([]byte{0, 5})
		if n := r.Count(most); n != 0 || r.Left() != 1 || r.Err() != nil {
			t.Errorf("Count(%d) of 0: %d, %d left, %v", most, n, r.Left(), r.Err())
		}
		wantFailure(t, countOf(most), []byte{1, 5}, api.ErrRange)
	}
}

func TestPK2Bool(t *testing.T) {
	r := pack.Read([]byte{1, 0, 1})
	for i, want := range []bool{true, false, true} {
		if got := r.Bool(); got != want || r.Left() != 2-i {
			t.Errorf("byte %d: %v, %d left", i, got, r.Left())
		}
	}
	wantAll(t, "Bool", r)
	wantFailure(t, boolOf(), nil, api.ErrEnd)
	for n := 2; n < 256; n++ {
		wantFailure(t, boolOf(), []byte{byte(n), 1}, api.ErrForm)
	}
}

func TestPK2TextAndBytes(t *testing.T) {
	for _, c := range lengths {
		want := pattern(c.n)
		b := slices.Concat(c.bytes, want)
		for _, most := range []int{c.n, c.n + 1, math.MaxInt} {
			r := pack.Read(b)
			wantBytes(t, "Bytes", r.Bytes(most), want)
			wantAll(t, "Bytes", r)
			r = pack.Read(append(slices.Clone(b), 3))
			wantBytes(t, "Text", []byte(r.Text(most)), want)
			if r.Left() != 1 || r.Uint(9) != 3 {
				t.Errorf("Text of %d bytes takes what is behind it", c.n)
			}
			wantAll(t, "Text", r)
		}
	}
	if s := pack.Read([]byte{3, 255, 0, 195}).Text(3); s != "\xff\x00\xc3" {
		t.Errorf("bytes that are no UTF-8: %q", s)
	}
}

func TestPK2TextAndBytesThatCannotBe(t *testing.T) {
	huge := pack.New().Uint(math.MaxUint64).Bool(true).Done()
	cases := []struct {
		b    []byte
		most int
		want api.Errno
	}{
		{[]byte{1, 5}, -1, api.ErrArg},
		{[]byte{0}, -1, api.ErrArg},
		{nil, math.MinInt, api.ErrArg},
		{[]byte{128, 0}, -1, api.ErrArg},
		{[]byte{2, 5, 5}, 1, api.ErrLong},
		{[]byte{2, 5}, 1, api.ErrLong},
		{[]byte{1}, 0, api.ErrLong},
		{[]byte{2, 5}, 2, api.ErrEnd},
		{[]byte{1}, 1, api.ErrEnd},
		{[]byte{2, 5}, math.MaxInt, api.ErrEnd},
		{[]byte{128, 1, 5}, 127, api.ErrLong},
		{[]byte{128, 1, 5}, 128, api.ErrEnd},
		{append([]byte{128, 1}, make([]byte, 127)...), 128, api.ErrEnd},
		{huge, math.MaxInt, api.ErrLong},
		{pack.New().Uint(1 << 63).Done(), math.MaxInt, api.ErrLong},
		{pack.New().Uint(math.MaxInt).Done(), math.MaxInt, api.ErrEnd},
		{pack.New().Uint(math.MaxInt).Bool(true).Done(), math.MaxInt - 1, api.ErrLong},
	}
	for _, c := range cases {
		wantFailure(t, textOf(c.most), c.b, c.want)
		wantFailure(t, bytesOf(c.most), c.b, c.want)
	}
}

func TestPK2Hash(t *testing.T) {
	h := hash()
	r := pack.Read(append(h[:], h[:31]...))
	if got := r.Hash(); got != h || r.Left() != 31 || r.Err() != nil {
		t.Errorf("%v, %d left, %v", got, r.Left(), r.Err())
	}
	r = pack.Read(h[:])
	if r.Hash() != h {
		t.Error("another hash")
	}
	wantAll(t, "Hash", r)
	for _, n := range []int{0, 1, 31} {
		wantFailure(t, hashOf(), h[:n], api.ErrEnd)
	}
}

func TestPK3FirstErrorStays(t *testing.T) {
	r := pack.Read([]byte{2, 1})
	if r.Bool() {
		t.Error("2 is true")
	}
	wantFailed(t, "behind ErrForm", r, api.ErrForm, 2)
	r = pack.Read([]byte{1, 1})
	if r.Text(-5) != "" || r.Uint(9) != 0 || r.Bool() {
		t.Error("a value behind ErrArg")
	}
	wantFailed(t, "behind ErrArg", r, api.ErrArg, 2)
	r = pack.Read([]byte{5})
	if r.Uint(4) != 0 || r.Uint(5) != 0 || r.Hash() != (api.Hash{}) {
		t.Error("a value behind ErrRange")
	}
	wantFailed(t, "behind ErrRange", r, api.ErrRange, 1)
	r = pack.Read(nil)
	if r.Bool() || r.Text(-1) != "" {
		t.Error("a value behind ErrEnd")
	}
	wantFailed(t, "behind ErrEnd", r, api.ErrEnd, 0)
}

func TestPK3Left(t *testing.T) {
	h := hash()
	b := pack.New().Uint(300).Int(-1).Bool(true).Text("abc").Bytes([]byte{1, 2}).Hash(h).Uint(1).Bool(false).Done()
	r := pack.Read(b)
	left := len(b)
	step := func(what string, taken int) {
		t.Helper()
		left -= taken
		if r.Left() != left || r.Err() != nil {
			t.Errorf("behind %s: %d left, want %d; Err %v", what, r.Left(), left, r.Err())
		}
	}
	step("Read", 0)
	r.Uint(300)
	step("Uint", 2)
	r.Int()
	step("Int", 1)
	r.Bool()
	step("Bool", 1)
	r.Text(3)
	step("Text", 4)
	r.Bytes(2)
	step("Bytes", 3)
	r.Hash()
	step("Hash", 32)
	r.Count(1)
	step("Count", 1)
	r.Bool()
	step("Bool", 1)
	wantAll(t, "all", r)
}

func TestPK3DoneWithBytesLeft(t *testing.T) {
	r := pack.Read([]byte{5, 6})
	for left := 2; left > 0; left-- {
		if !isErr(r.Done(), api.ErrForm) || !isErr(r.Done(), api.ErrForm) || r.Err() != nil || r.Left() != left {
			t.Errorf("%d left: Done %v, Err %v, %d left", left, r.Done(), r.Err(), r.Left())
		}
		if r.Uint(9) != uint64(7-left) {
			t.Error("what is left is not read behind Done")
		}
	}
	wantAll(t, "behind the last byte", r)
	r = pack.Read([]byte{5, 6})
	r.Hash()
	wantFailed(t, "an error and bytes left", r, api.ErrEnd, 2)
}

func TestPK3NilReader(t *testing.T) {
	var r *pack.Reader
	wantFailed(t, "a nil Reader", r, api.ErrArg, 0)
}

func TestPK2ReaderKeepsNoArgument(t *testing.T) {
	h := hash()
	b := pack.New().Uint(300).Text("abc").Bytes([]byte{1, 2}).Hash(h).Done()
	given := slices.Clone(b)
	r := pack.Read(b)
	for i := range b {
		b[i] = 255
	}
	if r.Uint(300) != 300 || r.Text(3) != "abc" || !bytes.Equal(r.Bytes(2), []byte{1, 2}) || r.Hash() != h {
		t.Error("the Reader hangs on what becomes of its argument")
	}
	wantAll(t, "all", r)
	copy(b, given)
	r = pack.Read(b)
	r.Uint(300)
	r.Text(3)
	got := r.Bytes(2)
	for i := range got[:cap(got)] {
		got[:cap(got)][i] = 77
	}
	if r.Hash() != h || !bytes.Equal(b, given) {
		t.Error("what Bytes returned is memory of the Reader or of its argument")
	}
}

func TestPK2BytesAreNewEachTime(t *testing.T) {
	b := pack.New().Bytes(pattern(40)).Bytes(pattern(50)).Done()
	r := pack.Read(b)
	first := r.Bytes(40)
	second := r.Bytes(50)
	_ = append(first, bytes.Repeat([]byte{9}, 60)...)
	second[0]++
	wantBytes(t, "the first", first, pattern(40))
	wantBytes(t, "the rest of the second", second[1:], pattern(50)[1:])
	wantBytes(t, "read anew", pack.Read(b).Bytes(40), pattern(40))
}

// value is one that is written and read: of a kind, with what the kind has.
type value struct {
	kind   int
	number uint64
	text   string
	hash   api.Hash
}

const kinds = 7

// some is a value of any kind; small and great numbers are as frequent as one another.
func some(random *rand.Rand) value {
	v := value{kind: random.Intn(kinds)}
	v.number = random.Uint64() >> random.Intn(64)
	v.text = strings.Repeat(string(rune(random.Intn(0x800))), random.Intn(90))
	random.Read(v.hash[:])
	return v
}

func (v value) write(w *pack.Writer) {
	switch v.kind {
	case 0:
		w.Uint(v.number)
	case 1:
		w.Int(int(v.number))
	case 2:
		w.Int(-int(v.number))
	case 3:
		w.Bool(v.number%2 == 1)
	case 4:
		w.Text(v.text)
	case 5:
		w.Bytes([]byte(v.text))
	case 6:
		w.Hash(v.hash)
	}
}

// isRead tells whether the next value of r is v.
func (v value) isRead(r *pack.Reader) bool {
	switch v.kind {
	case 0:
		return r.Uint(v.number) == v.number
	case 1:
		return r.Int() == int(v.number)
	case 2:
		return r.Int() == -int(v.number)
	case 3:
		return r.Bool() == (v.number%2 == 1)
	case 4:
		return r.Text(len(v.text)) == v.text
	case 5:
		return string(r.Bytes(len(v.text))) == v.text
	}
	return r.Hash() == v.hash
}

func TestPK4WrittenIsReadBack(t *testing.T) {
	random := rand.New(rand.NewSource(4))
	for range 2000 {
		values := make([]value, random.Intn(12))
		w := pack.New()
		for i := range values {
			values[i] = some(random)
			values[i].write(w)
		}
		r := pack.Read(w.Done())
		for _, v := range values {
			if !v.isRead(r) {
				t.Fatalf("%v is not read back, Err %v", v, r.Err())
			}
		}
		wantAll(t, "written values", r)
	}
}

// rewritten reads b as a value of that kind and writes the value again; ok is false if b is no such value.
func rewritten(kind int, b []byte) (again []byte, ok bool) {
	r := pack.Read(b)
	w := pack.New()
	switch kind {
	case 0:
		w.Uint(r.Uint(math.MaxUint64))
	case 1:
		w.Int(r.Int())
	case 2:
		w.Uint(uint64(r.Count(math.MaxInt)))
	case 3:
		w.Bool(r.Bool())
	case 4:
		w.Text(r.Text(math.MaxInt))
	case 5:
		w.Bytes(r.Bytes(math.MaxInt))
	case 6:
		w.Hash(r.Hash())
	}
	return w.Done(), r.Done() == nil
}

// TestPK4ReadIsWrittenAgain: of all bytes that are read completely, none are another way to tell the same value.
func TestPK4ReadIsWrittenAgain(t *testing.T) {
	var inputs [][]byte
	for a := range 256 {
		inputs = append(inputs, []byte{byte(a)})
		for b := range 256 {
			inputs = append(inputs, []byte{byte(a), byte(b)})
		}
	}
	for _, c := range numbers {
		inputs = append(inputs, c.bytes)
	}
	for _, c := range badVarints() {
		inputs = append(inputs, c.bytes)
	}
	random := rand.New(rand.NewSource(5))
	for range 20000 {
		b := make([]byte, random.Intn(40))
		random.Read(b)
		if len(b) > 0 {
			b[0] = byte(len(b) - random.Intn(3))
		}
		inputs = append(inputs, b)
	}
	read := [kinds]int{}
	for _, b := range inputs {
		for kind := range kinds {
			again, ok := rewritten(kind, b)
			if ok && !bytes.Equal(again, b) {
				t.Fatalf("kind %d: %v is read, and written as %v", kind, b, again)
			}
			if ok {
				read[kind]++
			}
		}
	}
	if slices.Min(read[:]) == 0 {
		t.Errorf("a kind was never read: %v", read)
	}
}
