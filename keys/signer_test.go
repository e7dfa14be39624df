package keys_test

import (
	"bytes"
	"encoding/hex"
	"math"
	"slices"
	"strconv"
	"strings"
	"testing"

	"isthmus/api"
	"isthmus/files"
	"isthmus/frame"
	"isthmus/keys"
	"isthmus/pack"
	"isthmus/sha"
)

// The counter's records, made outside Go.
const (
	record1    = "000000015643ef8a01a505df1b"
	record2    = "000000015643ef8a023c0c8ea1"
	record128  = "00000002cf4abe3080010d5dba22"
	record1024 = "00000002cf4abe30800874810286"
)

// open is a Signer that must be there.
func open(t *testing.T, f *files.FS, p api.Params) *keys.Signer {
	t.Helper()
	s, err := keys.Open(f, "k", keys.Seed("a"), p)
	if err != nil || s == nil {
		t.Fatalf("Open: %v, %v", s, err)
	}
	return s
}

// wantNoOpen holds that Open returns the error want, and nothing beside it.
func wantNoOpen(t *testing.T, what string, f *files.FS, name string, p api.Params, want api.Errno) {
	t.Helper()
	s, err := keys.Open(f, name, keys.Seed("a"), p)
	wantErr(t, "Open: "+what, err, want)
	if s != nil {
		t.Errorf("Open: %s: a Signer beside the error", what)
	}
}

// signed is a signature that must be there, of text, by that leaf.
func signed(t *testing.T, s *keys.Signer, text string, leaf int) []byte {
	t.Helper()
	sign, err := s.Sign([]byte(text))
	must(t, err)
	if n, err := keys.Leaf(sign); n != leaf || err != nil {
		t.Fatalf("Sign: leaf %d, %v, want %d", n, err, leaf)
	}
	return sign
}

// wantNoSign holds that Sign returns the error want, and nothing beside it, and that so many leaves are left.
func wantNoSign(t *testing.T, what string, s *keys.Signer, want api.Errno, left int) {
	t.Helper()
	sign, err := s.Sign([]byte("text"))
	wantErr(t, "Sign: "+what, err, want)
	if len(sign) != 0 {
		t.Errorf("Sign: %s: %d bytes beside the error", what, len(sign))
	}
	if s.Left() != left {
		t.Errorf("%s: %d leaves are left, want %d", what, s.Left(), left)
	}
}

// wantCounter holds that the counter's file has these bytes, all of them safe.
func wantCounter(t *testing.T, f *files.FS, want []byte) {
	t.Helper()
	b, err := f.Read("k")
	if err != nil || !bytes.Equal(b, want) {
		t.Errorf("the counter: %x, %v, want %x", b, err, want)
	}
	if n, err := f.Safe("k"); n != len(want) || err != nil {
		t.Errorf("the counter: %d bytes are safe, %v, want %d", n, err, len(want))
	}
}

// record is the record of a payload.
func record(t *testing.T, payload ...byte) []byte {
	t.Helper()
	b, err := frame.Frame(payload)
	must(t, err)
	return b
}

// counter are the records of numbers.
func counter(t *testing.T, numbers ...uint64) []byte {
	t.Helper()
	var b []byte
	for _, n := range numbers {
		b = append(b, record(t, pack.New().Uint(n).Done()...)...)
	}
	return b
}

// holding is a file system in which the counter's file has these bytes, all of them safe.
func holding(t *testing.T, b []byte) *files.FS {
	t.Helper()
	f := files.New()
	must(t, f.Append("k", b))
	must(t, f.Sync("k"))
	return f
}

// TestKY2Sign: the signatures of a key, one after the other, are those that were made outside Go.
func TestKY2Sign(t *testing.T) {
	p := api.Params{Digest: 2, Depth: 1}
	f := files.New()
	s := open(t, f, p)
	cases := []struct{ sum, counter string }{
		{"2dffa64eaf6a611f70bdb7cc697dba4656be377e09ca26a7ad39be439b773fd7", record1},
		{"7443d056d65260a5b64ea41afdcb6e706195070d935455580bd5ef9d71901118", record1 + record2},
	}
	for leaf, c := range cases {
		if s.Left() != 2-leaf || s.Root() != root(t, "a", p) {
			t.Errorf("Left %d, Root %s", s.Left(), sha.Text(s.Root()))
		}
		sign := signed(t, s, "text", leaf)
		if sum := sha.Text(sha.Sum(sign)); len(sign) != 260 || sum != c.sum {
			t.Errorf("leaf %d: %d bytes, %s", leaf, len(sign), sum)
		}
		wantCounter(t, f, unhex(t, c.counter))
	}
	wantNoSign(t, "the third", s, api.ErrSpent, 0)
	wantCounter(t, f, unhex(t, record1+record2))
	if s.Root() != root(t, "a", p) {
		t.Errorf("Root of a spent key: %s", sha.Text(s.Root()))
	}
}

// TestKY2SignTexts: every leaf signs what a signature made without a Signer signs, whatever the text.
func TestKY2SignTexts(t *testing.T) {
	for _, p := range []api.Params{{Digest: 1, Depth: 0}, {Digest: 1, Depth: 4}, {Digest: 5, Depth: 2}, {Digest: 32, Depth: 1}} {
		s := open(t, files.New(), p)
		for leaf := range 1 << p.Depth {
			text := strings.Repeat("x", 37*leaf)
			if got, want := signed(t, s, text, leaf), partsOf(t, "a", p, leaf, text).bytes(); !bytes.Equal(got, want) {
				t.Errorf("%v, leaf %d: %x", p, leaf, got)
			}
		}
		wantNoSign(t, "all are used", s, api.ErrSpent, 0)
	}
}

// TestKY2Open: what a counter tells.
func TestKY2Open(t *testing.T) {
	deep := api.Params{Digest: 1, Depth: 10}
	middle := api.Params{Digest: 1, Depth: 8}
	cases := []struct {
		what    string
		p       api.Params
		counter []byte
		left    int
	}{
		{"no records", small, nil, 8},
		{"1", small, counter(t, 1), 7},
		{"1 2 3", small, counter(t, 1, 2, 3), 5},
		{"5", small, counter(t, 5), 3},
		{"1 5", small, counter(t, 1, 5), 3},
		{"1 to 8", small, counter(t, 1, 2, 3, 4, 5, 6, 7, 8), 0},
		{"8", small, counter(t, 8), 0},
		{"1 of 1", api.Params{Digest: 1, Depth: 0}, counter(t, 1), 0},
		{"127", middle, counter(t, 127), 129},
		{"128", middle, unhex(t, record128), 128},
		{"1 1024", deep, unhex(t, record1+record1024), 0},
	}
	for _, c := range cases {
		f := holding(t, c.counter)
		steps := f.Steps()
		s := open(t, f, c.p)
		if s.Left() != c.left || f.Steps() != steps {
			t.Errorf("%s: Left %d, %d steps", c.what, s.Left(), f.Steps()-steps)
		}
		wantCounter(t, f, c.counter)
		if c.left == 0 {
			wantNoSign(t, c.what, s, api.ErrSpent, 0)
			continue
		}
		used := 1<<c.p.Depth - c.left
		signed(t, s, "text", used)
		wantCounter(t, f, append(bytes.Clone(c.counter), counter(t, uint64(used+1))...))
		if got := open(t, f, c.p).Left(); got != c.left-1 || s.Left() != got {
			t.Errorf("%s: Left %d, and %d when opened again", c.what, s.Left(), got)
		}
	}
}

// TestKY2OpenMissing: a file that does not exist tells that no leaf is used, and is created by Sign alone.
func TestKY2OpenMissing(t *testing.T) {
	f := files.New()
	must(t, f.Append("other", counter(t, 3)))
	s := open(t, f, small)
	if s.Left() != 8 || s.Root() != root(t, "a", small) || f.Steps() != 1 || !slices.Equal(f.List(), []string{"other"}) {
		t.Errorf("Left %d, Root %s, %d steps, files %q", s.Left(), sha.Text(s.Root()), f.Steps(), f.List())
	}
	signed(t, s, "text", 0)
	if f.Steps() != 3 || !slices.Equal(f.List(), []string{"k", "other"}) {
		t.Errorf("after Sign: %d steps, files %q", f.Steps(), f.List())
	}
}

func TestKY2OpenHalt(t *testing.T) {
	spoilt := func(b []byte, at int) []byte {
		b[(at+len(b))%len(b)] ^= 1
		return b
	}
	cases := []struct {
		what    string
		p       api.Params
		counter []byte
	}{
		{"0", small, counter(t, 0)},
		{"0 1", small, counter(t, 0, 1)},
		{"1 1", small, counter(t, 1, 1)},
		{"1 0", small, counter(t, 1, 0)},
		{"1 3 2", small, counter(t, 1, 3, 2)},
		{"1 3 2 4", small, counter(t, 1, 3, 2, 4)},
		{"9 of 8", small, counter(t, 9)},
		{"8 9", small, counter(t, 8, 9)},
		{"2 of 1", api.Params{Digest: 1, Depth: 0}, counter(t, 2)},
		{"1025 of 1024", api.Params{Digest: 1, Depth: 10}, counter(t, 1025)},
		{"2^63", small, counter(t, 1<<63)},
		{"2^64 - 1", small, counter(t, math.MaxUint64)},
		{"2^64 - 1, then 1", small, counter(t, math.MaxUint64, 1)},
		{"a byte behind a number", small, record(t, 1, 0)},
		{"two numbers in a payload", small, record(t, 1, 2)},
		{"half a varint", small, record(t, 129)},
		{"1 in two bytes", small, record(t, 129, 0)},
		{"eleven bytes", small, record(t, bytes.Repeat([]byte{129}, 11)...)},
		{"a text", small, record(t, []byte("text")...)},
		{"a wrong sum of a length", small, spoilt(counter(t, 1), 4)},
		{"a wrong length", small, spoilt(counter(t, 1), 3)},
		{"a wrong number", small, spoilt(counter(t, 1), 8)},
		{"a wrong sum of a number", small, spoilt(counter(t, 1), -1)},
		{"a wrong sum of the second number", small, spoilt(counter(t, 1, 2), -1)},
		{"a wrong sum of the first of two", small, append(spoilt(counter(t, 1), -1), counter(t, 2)...)},
		{"noughts", small, make([]byte, 100)},
		{"text", small, []byte("this is not a record")},
		{"a number that is wrong, and half a record", small, counter(t, 2, 1, 3)[:30]},
		{"half a varint, and half a record", small, append(record(t, 129), counter(t, 2)[:5]...)},
		{"too great a number, and half a record", small, counter(t, 9, 10)[:20]},
	}
	for _, c := range cases {
		f := holding(t, c.counter)
		steps := f.Steps()
		wantNoOpen(t, c.what, f, "k", c.p, api.ErrHalt)
		wantCounter(t, f, c.counter)
		if f.Steps() != steps {
			t.Errorf("%s: %d steps", c.what, f.Steps()-steps)
		}
	}
}

// TestKY2OpenTorn: a torn record is cut off wherever it is torn, and signing goes on.
func TestKY2OpenTorn(t *testing.T) {
	whole := counter(t, 1, 2, 3)
	for n := range whole {
		used := n / len(record(t, 1))
		kept := whole[:used*len(record(t, 1))]
		f := holding(t, whole[:n])
		s := open(t, f, small)
		if s.Left() != 8-used {
			t.Errorf("%d bytes: Left %d", n, s.Left())
		}
		wantCounter(t, f, kept)
		signed(t, s, "text", used)
		wantCounter(t, f, append(bytes.Clone(kept), counter(t, uint64(used+1))...))
		if got := open(t, f, small).Left(); got != 7-used {
			t.Errorf("%d bytes: Left %d when opened again", n, got)
		}
	}
	long, err := frame.Frame(make([]byte, api.MaxBytes))
	must(t, err)
	f := holding(t, append(counter(t, 2), long[:len(long)-1]...))
	if s := open(t, f, small); s.Left() != 6 {
		t.Errorf("a long torn record: Left %d", s.Left())
	}
	wantCounter(t, f, counter(t, 2))
}

// TestKY2OpenCut: Open ends with the error of the Cut, and can be called again.
func TestKY2OpenCut(t *testing.T) {
	f := holding(t, append(counter(t, 1), 0, 0, 0))
	must(t, f.Arm(0))
	wantNoOpen(t, "a crash", f, "k", small, api.ErrDown)
	if !f.Down() {
		t.Error("it is not down: nothing was cut")
	}
	wantNoOpen(t, "down", f, "k", small, api.ErrDown)
	f.Start(nil)
	wantCounter(t, f, append(counter(t, 1), 0, 0, 0))
	if s := open(t, f, small); s.Left() != 7 {
		t.Errorf("Left %d", s.Left())
	}
	must(t, f.Arm(0))
	if s := open(t, f, small); s.Left() != 7 || f.Down() {
		t.Errorf("Left %d, Down %v: a file without a torn record needs no step", s.Left(), f.Down())
	}
}

func TestKY2OpenWrong(t *testing.T) {
	down := holding(t, counter(t, 1, 1))
	must(t, down.Arm(0))
	wantErr(t, "the step that crashes", down.Remove("k"), api.ErrDown)
	for _, p := range notParams {
		wantNoOpen(t, "no Params", files.New(), "k", p, api.ErrKey)
		wantNoOpen(t, "no Params, no files", nil, "k", p, api.ErrKey)
		wantNoOpen(t, "no Params, down", down, "k", p, api.ErrKey)
		wantNoOpen(t, "no Params, no name", files.New(), "", p, api.ErrKey)
		wantNoOpen(t, "no Params, a spoilt counter", holding(t, counter(t, 1, 1)), "k", p, api.ErrKey)
	}
	wantNoOpen(t, "no files", nil, "k", small, api.ErrArg)
	for _, name := range []string{"", "a b", "\n", "\x7f", strings.Repeat("k", 65), strings.Repeat("k", 1000)} {
		wantNoOpen(t, "no name", files.New(), name, small, api.ErrArg)
		wantNoOpen(t, "no name, down", down, name, small, api.ErrArg)
	}
	wantNoOpen(t, "down", down, "k", small, api.ErrDown)
	wantNoOpen(t, "down, and no file", down, "none", small, api.ErrDown)
	if _, err := keys.Open(files.New(), strings.Repeat("k", 64), keys.Seed("a"), small); err != nil {
		t.Errorf("a name of 64 bytes: %v", err)
	}
}

// TestKY2SignCrash: a crash while a leaf is counted leaves no signature, then and later.
func TestKY2SignCrash(t *testing.T) {
	for n := range 2 {
		f := holding(t, counter(t, 1))
		s := open(t, f, small)
		must(t, f.Arm(n))
		for range 2 {
			wantNoSign(t, "a crash", s, api.ErrDown, 7)
		}
		f.Start([]int{100})
		steps := f.Steps()
		for range 2 {
			wantNoSign(t, "after the crash", s, api.ErrDown, 7)
		}
		if f.Steps() != steps {
			t.Errorf("after the crash: %d steps", f.Steps()-steps)
		}
		wantCounter(t, f, counter(t, 1, 2))
		if s.Root() != root(t, "a", small) {
			t.Error("after the crash: another root")
		}
		signed(t, open(t, f, small), "text", 2)
		wantNoSign(t, "after another has signed", s, api.ErrDown, 7)
	}
	f := files.New()
	s := open(t, f, small)
	must(t, f.Arm(2))
	signed(t, s, "text", 0)
	wantNoSign(t, "the second", s, api.ErrDown, 7)
}

// TestKY2SignLast: the last leaf, if it could not be counted, is unused and yet signs nothing.
func TestKY2SignLast(t *testing.T) {
	f := files.New()
	s := open(t, f, api.Params{Digest: 1, Depth: 0})
	must(t, f.Arm(1))
	for range 3 {
		wantNoSign(t, "a crash", s, api.ErrDown, 1)
		f.Start([]int{100})
	}
}

// TestKY2SignDown: that the files were down is remembered too.
func TestKY2SignDown(t *testing.T) {
	f := files.New()
	s := open(t, f, small)
	must(t, f.Append("other", nil))
	must(t, f.Arm(0))
	wantErr(t, "the step that crashes", f.Remove("other"), api.ErrDown)
	wantNoSign(t, "down", s, api.ErrDown, 8)
	f.Start(nil)
	wantNoSign(t, "down before", s, api.ErrDown, 8)
	if slices.Contains(f.List(), "k") {
		t.Error("a counter was written")
	}
	signed(t, open(t, f, small), "text", 0)
}

// TestKY2SignFull: an error that is no crash is remembered as well.
func TestKY2SignFull(t *testing.T) {
	f := files.New()
	for i := range api.MaxFiles {
		must(t, f.Append("f"+strconv.Itoa(i), nil))
	}
	s := open(t, f, small)
	wantNoSign(t, "full", s, api.ErrFull, 8)
	must(t, f.Remove("f0"))
	wantNoSign(t, "full before", s, api.ErrFull, 8)
	signed(t, open(t, f, small), "text", 0)
}

// TestKY2Spent: a spent key needs no files any more.
func TestKY2Spent(t *testing.T) {
	f := holding(t, counter(t, 8))
	s := open(t, f, small)
	steps := f.Steps()
	must(t, f.Arm(0))
	wantNoSign(t, "spent", s, api.ErrSpent, 0)
	if f.Down() || f.Steps() != steps {
		t.Error("a spent key takes a step")
	}
	wantErr(t, "the step that crashes", f.Remove("k"), api.ErrDown)
	wantNoSign(t, "spent, and down", s, api.ErrSpent, 0)
	f.Start(nil)
	must(t, f.Remove("k"))
	wantNoSign(t, "spent, and without a counter", s, api.ErrSpent, 0)
}

func TestKY2Nil(t *testing.T) {
	var s *keys.Signer
	wantNoSign(t, "nil", s, api.ErrKey, 0)
	if (s.Root() != api.Hash{}) {
		t.Errorf("Root of nil: %s", sha.Text(s.Root()))
	}
}

// TestKY2Apart: two keys with their counters beside one another.
func TestKY2Apart(t *testing.T) {
	f := files.New()
	var all []*keys.Signer
	for _, name := range []string{"a", "b"} {
		s, err := keys.Open(f, "counter-"+name, keys.Seed(name), small)
		must(t, err)
		all = append(all, s)
	}
	for leaf := range 8 {
		for i, name := range []string{"a", "b"} {
			sign := signed(t, all[i], "text", leaf)
			if err := keys.Verify(root(t, name, small), small, []byte("text"), sign); err != nil {
				t.Errorf("Verify by %s: %v", name, err)
			}
		}
	}
	for i, s := range all {
		wantNoSign(t, "all are used", s, api.ErrSpent, 0)
		if b, err := f.Read("counter-" + "ab"[i:i+1]); err != nil || !bytes.Equal(b, counter(t, 1, 2, 3, 4, 5, 6, 7, 8)) {
			t.Errorf("the counter: %s, %v", hex.EncodeToString(b), err)
		}
	}
}

// TestKY2Memory: a signature is memory of its own, and the same calls make the same one.
func TestKY2Memory(t *testing.T) {
	one, two := open(t, files.New(), small), open(t, files.New(), small)
	for leaf := range 8 {
		text := []byte("text")
		sign, err := one.Sign(text)
		must(t, err)
		again := signed(t, two, "text", leaf)
		if !bytes.Equal(sign, again) {
			t.Errorf("leaf %d: another signature", leaf)
		}
		text[0] = 'n'
		for i := range cap(sign) {
			sign[:cap(sign)][i] ^= 255
		}
		if one.Root() != root(t, "a", small) {
			t.Fatal("the root has changed")
		}
	}
}
