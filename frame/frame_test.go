package frame_test

import (
	"bytes"
	"errors"
	"math/rand"
	"slices"
	"strings"
	"testing"

	"isthmus/api"
	"isthmus/frame"
)

// isErr tells whether err is the number want.
func isErr(err error, want api.Errno) bool {
	var number api.Errno
	return errors.As(err, &number) && number == want
}

// slowSum follows the words of the chapter, bit by bit.
func slowSum(b []byte) uint32 {
	register := uint32(0xffffffff)
	for _, x := range b {
		register ^= uint32(x)
		for range 8 {
			out := register & 1
			register >>= 1
			if out == 1 {
				register ^= 0xedb88320
			}
		}
	}
	return register ^ 0xffffffff
}

// wordOf is a number as four bytes, the most significant one first.
func wordOf(n uint32) []byte {
	return []byte{byte(n >> 24), byte(n >> 16), byte(n >> 8), byte(n)}
}

// headOf is the beginning of a record with a payload of n bytes.
func headOf(n uint32) []byte {
	return append(wordOf(n), wordOf(slowSum(wordOf(n)))...)
}

// recordOf is the record of p, whatever the length of p.
func recordOf(p []byte) []byte {
	return slices.Concat(headOf(uint32(len(p))), p, wordOf(slowSum(p)))
}

// someBytes are n bytes that differ from call to call.
func someBytes(r *rand.Rand, n int) []byte {
	b := make([]byte, n)
	r.Read(b)
	return b
}

// framed is the record of p, as the package makes it.
func framed(t *testing.T, p []byte) []byte {
	t.Helper()
	b, err := frame.Frame(p)
	if err != nil {
		t.Fatalf("Frame of %d bytes: %v", len(p), err)
	}
	return b
}

// wantOne holds that One returns p and n.
func wantOne(t *testing.T, what string, b, p []byte, n int) {
	t.Helper()
	got, size, err := frame.One(b)
	if err != nil || size != n || !bytes.Equal(got, p) {
		t.Errorf("%s: One returned %d bytes, %d, %v; want %d bytes, %d", what, len(got), size, err, len(p), n)
	}
}

// wantNoOne holds that One returns the error want, and nothing beside it.
func wantNoOne(t *testing.T, what string, b []byte, want api.Errno) {
	t.Helper()
	got, size, err := frame.One(b)
	if len(got) != 0 || size != 0 || !isErr(err, want) {
		t.Errorf("%s: One returned %d bytes, %d, %v; want %v", what, len(got), size, err, want)
	}
}

// wantScan holds that Scan returns the payloads, n, and the error want (nil for 0).
func wantScan(t *testing.T, what string, b []byte, payloads [][]byte, n int, want api.Errno) {
	t.Helper()
	got, size, err := frame.Scan(b)
	if size != n || !slices.EqualFunc(got, payloads, bytes.Equal) {
		t.Errorf("%s: Scan returned %d payloads, %d; want %d, %d", what, len(got), size, len(payloads), n)
	}
	if want == 0 && err != nil || want != 0 && !isErr(err, want) {
		t.Errorf("%s: Scan returned %v, want %v", what, err, want)
	}
}

func TestFR1SumVectors(t *testing.T) {
	all := make([]byte, 256)
	for i := range all {
		all[i] = byte(i)
	}
	long := strings.Repeat("isthmus", 200000)[:1<<20]
	for _, c := range []struct {
		in   string
		want uint32
	}{
		{"", 0x00000000},
		{"a", 0xe8b7be43},
		{"abc", 0x352441c2},
		{"123456789", 0xcbf43926},
		{"\x00", 0xd202ef8d},
		{"\x00\x00\x00\x00", 0x2144df1c},
		{"\xff\xff\xff\xff", 0xffffffff},
		{string(all), 0x29058c73},
		{"The quick brown fox jumps over the lazy dog", 0x414fa339},
		{strings.Repeat("\x00", 32), 0x190a55ad},
		{strings.Repeat("\xff", 32), 0xff6cab0b},
		{long, 0x5d7485d2},
	} {
		if got := frame.Sum([]byte(c.in)); got != c.want {
			t.Errorf("Sum of %d bytes: %08x, want %08x", len(c.in), got, c.want)
		}
	}
	if frame.Sum(nil) != 0 {
		t.Error("Sum of nil is not 0")
	}
}

func TestFR1SumOfEachByte(t *testing.T) {
	for i := range 256 {
		for _, b := range [][]byte{{byte(i)}, {0xa5, byte(i)}, {byte(i), 0x3c, byte(i)}} {
			if got, want := frame.Sum(b), slowSum(b); got != want {
				t.Errorf("Sum of %v: %08x, want %08x", b, got, want)
			}
		}
	}
}

func TestFR1SumOfAnyBytes(t *testing.T) {
	r := rand.New(rand.NewSource(1))
	for range 2000 {
		b := someBytes(r, r.Intn(300))
		before := bytes.Clone(b)
		if got, want := frame.Sum(b), slowSum(b); got != want {
			t.Errorf("Sum of %v: %08x, want %08x", b, got, want)
		}
		if !bytes.Equal(b, before) {
			t.Fatal("Sum changed its argument")
		}
	}
}

func TestFR1FrameVectors(t *testing.T) {
	for _, c := range []struct {
		in, want []byte
	}{
		{[]byte("a"), []byte{0, 0, 0, 1, 86, 67, 239, 138, 97, 232, 183, 190, 67}},
		{[]byte("abc"), []byte{0, 0, 0, 3, 184, 77, 142, 166, 97, 98, 99, 53, 36, 65, 194}},
		{[]byte{0}, []byte{0, 0, 0, 1, 86, 67, 239, 138, 0, 210, 2, 239, 141}},
		{[]byte{0, 1, 2, 3, 4}, []byte{0, 0, 0, 5, 81, 46, 43, 147, 0, 1, 2, 3, 4, 81, 90, 211, 204}},
	} {
		got, err := frame.Frame(c.in)
		if err != nil || !bytes.Equal(got, c.want) {
			t.Errorf("Frame of %v: %v, %v; want %v", c.in, got, err, c.want)
		}
	}
}

func TestFR1FrameHead(t *testing.T) {
	for _, c := range []struct {
		n    int
		want []byte
	}{
		{1, []byte{0, 0, 0, 1, 0x56, 0x43, 0xef, 0x8a}},
		{0x100, []byte{0, 0, 1, 0, 0x38, 0x5f, 0xee, 0x5d}},
		{0x12345, []byte{0, 1, 0x23, 0x45, 0x98, 0x99, 0x77, 0x55}},
		{1<<20 - 1, []byte{0, 0x0f, 0xff, 0xff, 0x94, 0x3e, 0x8a, 0xde}},
		{1 << 20, []byte{0, 0x10, 0, 0, 0x3d, 0x62, 0x7c, 0x6c}},
	} {
		p := bytes.Repeat([]byte{7}, c.n)
		b := framed(t, p)
		if len(b) != c.n+12 || !bytes.Equal(b[:8], c.want) || !bytes.Equal(b[8:8+c.n], p) {
			t.Errorf("Frame of %d bytes: %d bytes that begin with %v", c.n, len(b), b[:8])
		}
		wantOne(t, "a long record", b, p, c.n+12)
	}
}

func TestFR1FrameErrors(t *testing.T) {
	for _, c := range []struct {
		in   []byte
		want api.Errno
	}{
		{nil, api.ErrArg},
		{[]byte{}, api.ErrArg},
		{make([]byte, api.MaxBytes+1), api.ErrLong},
		{make([]byte, 3*api.MaxBytes), api.ErrLong},
	} {
		got, err := frame.Frame(c.in)
		if len(got) != 0 || !isErr(err, c.want) {
			t.Errorf("Frame of %d bytes: %d bytes, %v; want %v", len(c.in), len(got), err, c.want)
		}
	}
}

func TestFR1FrameSharesNothing(t *testing.T) {
	p := append(make([]byte, 0, 64), "payload"...)
	b := framed(t, p)
	want := bytes.Clone(b)
	copy(p, "PAYLOAD")
	if !bytes.Equal(b, want) {
		t.Error("a record changed with its payload")
	}
	whole := b[:cap(b)]
	clear(whole)
	if string(p) != "PAYLOAD" || !bytes.Equal(p[:cap(p)][7:], make([]byte, 57)) {
		t.Error("Frame kept or changed its payload")
	}
	if again := framed(t, []byte("payload")); !bytes.Equal(again, want) {
		t.Error("a record changed with an earlier one")
	}
}

func TestFR2One(t *testing.T) {
	r := rand.New(rand.NewSource(2))
	for _, n := range []int{1, 2, 3, 4, 7, 8, 11, 12, 13, 255, 256, 65535, 65536, api.MaxBytes} {
		p := someBytes(r, n)
		b := recordOf(p)
		wantOne(t, "alone", b, p, n+12)
		wantOne(t, "ahead of a byte", append(b, 0), p, n+12)
		wantOne(t, "ahead of another", slices.Concat(b, recordOf([]byte("x"))), p, n+12)
	}
}

func TestFR2OneErrors(t *testing.T) {
	long := recordOf(make([]byte, api.MaxBytes+1))
	wrong := recordOf([]byte("abc"))
	wrong[4] ^= 1
	for _, c := range []struct {
		name string
		in   []byte
		want api.Errno
	}{
		{"nil", nil, api.ErrNone},
		{"empty", []byte{}, api.ErrNone},
		{"a byte", []byte{0}, api.ErrEnd},
		{"a length alone", []byte{0, 0, 0, 1}, api.ErrEnd},
		{"seven bytes of a head", headOf(1)[:7], api.ErrEnd},
		{"seven bytes that are no head", []byte{9, 9, 9, 9, 9, 9, 9}, api.ErrEnd},
		{"a head", headOf(1), api.ErrEnd},
		{"a head of the greatest length", headOf(api.MaxBytes), api.ErrEnd},
		{"the length 0", headOf(0), api.ErrSum},
		{"the record of nothing", recordOf(nil), api.ErrSum},
		{"the length 0 ahead of more", append(recordOf(nil), recordOf([]byte("a"))...), api.ErrSum},
		{"a length that is too great, cut off", headOf(api.MaxBytes + 1), api.ErrSum},
		{"a length that is too great, whole", long, api.ErrSum},
		{"a length of 2^31", headOf(1 << 31), api.ErrSum},
		{"a length of 2^32 - 1", headOf(1<<32 - 1), api.ErrSum},
		{"a wrong sum of the length", wrong, api.ErrSum},
		{"a wrong sum of the length, cut off", wrong[:8], api.ErrSum},
		{"a wrong sum of a length that is too great", []byte{0, 16, 0, 1, 0, 0, 0, 0}, api.ErrSum},
		{"noughts", make([]byte, 64), api.ErrSum},
		{"bits that are all set", bytes.Repeat([]byte{255}, 64), api.ErrSum},
	} {
		wantNoOne(t, c.name, c.in, c.want)
	}
}

// TestFR2OneCutOff: each shorter part of a record has the error of a record that was cut off, even if its payload is spoilt.
func TestFR2OneCutOff(t *testing.T) {
	b := recordOf([]byte("a payload"))
	spoilt := bytes.Clone(b)
	spoilt[10] ^= 4
	for n := 1; n < len(b); n++ {
		wantNoOne(t, "cut off", b[:n], api.ErrEnd)
		wantNoOne(t, "spoilt and cut off", spoilt[:n], api.ErrEnd)
	}
	wantNoOne(t, "cut off at the beginning", b[:0], api.ErrNone)
	wantNoOne(t, "spoilt", spoilt, api.ErrSum)
}

// TestFR2OneSpoilt: no bit of a record can be turned unseen.
func TestFR2OneSpoilt(t *testing.T) {
	for _, p := range [][]byte{[]byte("a"), []byte("a payload"), make([]byte, 40)} {
		b := recordOf(p)
		for i := range 8 * len(b) {
			b[i/8] ^= 1 << (i % 8)
			wantNoOne(t, "a turned bit", b, api.ErrSum)
			wantNoOne(t, "a turned bit ahead of more", slices.Concat(b, recordOf(p)), api.ErrSum)
			b[i/8] ^= 1 << (i % 8)
		}
		wantOne(t, "turned back", b, p, len(b))
	}
}

func TestFR2OneSharesNothing(t *testing.T) {
	b := append(make([]byte, 0, 256), recordOf([]byte("payload"))...)
	before := bytes.Clone(b[:cap(b)])
	p, _, err := frame.One(b)
	if err != nil || string(p) != "payload" {
		t.Fatal(p, err)
	}
	clear(p[:cap(p)])
	if !bytes.Equal(b[:cap(b)], before) {
		t.Error("One handed out a part of its argument")
	}
	p, _, _ = frame.One(b)
	clear(b)
	if string(p) != "payload" {
		t.Error("a payload changed with its record")
	}
}

func TestFR2Scan(t *testing.T) {
	a, b, c := recordOf([]byte("a")), recordOf([]byte("two")), recordOf(bytes.Repeat([]byte{3}, 1000))
	pa, pb, pc := []byte("a"), []byte("two"), bytes.Repeat([]byte{3}, 1000)
	spoilt := bytes.Clone(b)
	spoilt[9] ^= 128
	wantScan(t, "nil", nil, nil, 0, 0)
	wantScan(t, "empty", []byte{}, nil, 0, 0)
	wantScan(t, "one", a, [][]byte{pa}, 13, 0)
	wantScan(t, "three", slices.Concat(a, b, c), [][]byte{pa, pb, pc}, 13+15+1012, 0)
	wantScan(t, "the same twice", slices.Concat(b, b), [][]byte{pb, pb}, 30, 0)
	wantScan(t, "a byte more", slices.Concat(a, b, []byte{0}), [][]byte{pa, pb}, 28, api.ErrEnd)
	wantScan(t, "eight noughts more", slices.Concat(a, make([]byte, 8)), [][]byte{pa}, 13, api.ErrSum)
	wantScan(t, "spoilt in the middle", slices.Concat(a, spoilt, c), [][]byte{pa}, 13, api.ErrSum)
	wantScan(t, "spoilt at first", slices.Concat(spoilt, a), nil, 0, api.ErrSum)
	wantScan(t, "spoilt at last", slices.Concat(a, c, spoilt), [][]byte{pa, pc}, 13+1012, api.ErrSum)
	wantScan(t, "the record of nothing", slices.Concat(a, recordOf(nil), b), [][]byte{pa}, 13, api.ErrSum)
	wantScan(t, "too long", slices.Concat(a, recordOf(make([]byte, api.MaxBytes+1))), [][]byte{pa}, 13, api.ErrSum)
	wantScan(t, "cut off", c[:500], nil, 0, api.ErrEnd)
}

func TestFR2ScanSharesNothing(t *testing.T) {
	b := slices.Concat(recordOf([]byte("first")), recordOf([]byte("second")), recordOf([]byte("third")))
	before := bytes.Clone(b)
	payloads, _, err := frame.Scan(b)
	if err != nil || len(payloads) != 3 {
		t.Fatal(payloads, err)
	}
	for i, p := range payloads {
		clear(p[:cap(p)])
		for _, later := range payloads[i+1:] {
			if bytes.IndexByte(later, 0) >= 0 {
				t.Error("two payloads share memory")
			}
		}
	}
	if !bytes.Equal(b, before) {
		t.Error("Scan handed out a part of its argument")
	}
	payloads, _, _ = frame.Scan(b)
	clear(b)
	if string(payloads[0])+string(payloads[1])+string(payloads[2]) != "firstsecondthird" {
		t.Error("payloads changed with their records")
	}
}

// wrap is an error that wraps others in a way of its own.
type wrap struct{ inner []error }

func (w wrap) Error() string   { return "wrapped" }
func (w wrap) Unwrap() []error { return w.inner }

// odd is an error that can't be compared, and panics when it is asked what it wraps.
type odd []int

func (o odd) Error() string { return "odd" }
func (o odd) Unwrap() error { panic("odd") }

func TestFR2Torn(t *testing.T) {
	deep := error(api.ErrEnd)
	for range 1000 {
		deep = &api.Fault{Where: "deep", Err: deep}
	}
	for _, c := range []struct {
		name string
		err  error
		want bool
	}{
		{"nil", nil, false},
		{"ErrEnd", api.ErrEnd, true},
		{"ErrSum", api.ErrSum, false},
		{"ErrNone", api.ErrNone, false},
		{"ErrArg", api.ErrArg, false},
		{"number 12", api.Errno(12), true},
		{"number 0", api.Errno(0), false},
		{"a Fault of ErrEnd", &api.Fault{Where: "here", Err: api.ErrEnd}, true},
		{"a Fault of ErrSum", &api.Fault{Where: "here", Err: api.ErrSum}, false},
		{"a Fault of nothing", &api.Fault{}, false},
		{"a nil Fault", (*api.Fault)(nil), false},
		{"a Fault of a nil Fault", &api.Fault{Err: (*api.Fault)(nil)}, false},
		{"deep", deep, true},
		{"several with ErrEnd", errors.Join(api.ErrSum, api.ErrEnd), true},
		{"several without it", errors.Join(api.ErrSum, api.ErrNone), false},
		{"several in a Fault", &api.Fault{Err: wrap{[]error{nil, api.ErrEnd}}}, true},
		{"one with its words", errors.New("error 12"), false},
		{"one that panics", odd{1}, false},
	} {
		if got := frame.Torn(c.err); got != c.want {
			t.Errorf("Torn of %s: %v", c.name, got)
		}
	}
}

func TestFR2TornOfResults(t *testing.T) {
	b := recordOf([]byte("abc"))
	_, _, err := frame.One(b[:14])
	if !frame.Torn(err) {
		t.Error("a record that was cut off is not torn")
	}
	_, _, err = frame.Scan(slices.Concat(b, b[:8]))
	if !frame.Torn(err) {
		t.Error("records that were cut off are not torn")
	}
	b[14]++
	_, _, err = frame.One(b)
	if frame.Torn(err) {
		t.Error("a spoilt record is torn")
	}
	_, _, err = frame.One(nil)
	if frame.Torn(err) {
		t.Error("no record is torn")
	}
}

// TestFR3 cuts records in a row at every place.
func TestFR3(t *testing.T) {
	r := rand.New(rand.NewSource(3))
	for range 60 {
		var payloads [][]byte
		var b []byte
		ends := []int{0}
		for range r.Intn(6) {
			p := someBytes(r, 1+r.Intn(40))
			payloads = append(payloads, p)
			b = append(b, framed(t, p)...)
			ends = append(ends, len(b))
		}
		wantScan(t, "whole", b, payloads, len(b), 0)
		for n := range b {
			whole, between := slices.BinarySearch(ends, n)
			want := api.Errno(0)
			if !between {
				whole--
				want = api.ErrEnd
			}
			wantScan(t, "cut off", b[:n], payloads[:whole], ends[whole], want)
			if _, _, err := frame.Scan(b[:n]); frame.Torn(err) == between {
				t.Errorf("Torn of %v at %d of %v", err, n, ends)
			}
		}
	}
}

// TestFR3Long: the longest records in a row, and many short ones.
func TestFR3Long(t *testing.T) {
	long := bytes.Repeat([]byte("0123456789abcdef"), api.MaxBytes/16)
	b := bytes.Repeat(framed(t, long), 3)
	wantScan(t, "long", b, [][]byte{long, long, long}, 3*(api.MaxBytes+12), 0)
	wantScan(t, "long, cut off", b[:len(b)-1], [][]byte{long, long}, 2*(api.MaxBytes+12), api.ErrEnd)
	b = bytes.Repeat(framed(t, []byte("x")), 50000)
	got, n, err := frame.Scan(b)
	if len(got) != 50000 || n != 13*50000 || err != nil {
		t.Errorf("many: %d, %d, %v", len(got), n, err)
	}
}
