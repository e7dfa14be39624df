package kv_test

import (
	"bytes"
	"encoding/hex"
	"errors"
	"slices"
	"strconv"
	"strings"
	"testing"

	"isthmus/api"
	"isthmus/files"
	"isthmus/frame"
	"isthmus/kv"
)

// Records of batches, made outside Go.
const (
	setA1    = "00000006c8277a29010001610131c3f2850f"
	setA2B3  = "0000000bb6960694020001610132000162013382303925"
	dropA    = "0000000426291b0501010161bb94b2c1"
	setB3    = "00000006c8277a290100016201332fba5a7a"
	setNone  = "0000000426291b050100000099f8b879" // the empty text to the empty text
	dropNone = "00000003b84d8ea6010100e7988264"
	longHead = "000000cf2a9f003d010002ff00c801" // ff 00 to 200 times x
	longTail = "5dd09cd4"
)

// wantErr holds that err is the number want, or nil for 0.
func wantErr(t *testing.T, what string, err error, want api.Errno) {
	t.Helper()
	if want == 0 && err == nil {
		return
	}
	var number api.Errno
	if !errors.As(err, &number) || number != want {
		t.Errorf("%s: %v, want error %d", what, err, want)
	}
}

// must holds that a call of the preparation has no error.
func must(t *testing.T, err error) {
	t.Helper()
	if err != nil {
		t.Fatal(err)
	}
}

// unhex are the bytes of texts of hexadecimal digits.
func unhex(t *testing.T, l ...string) []byte {
	t.Helper()
	b, err := hex.DecodeString(strings.Join(l, ""))
	must(t, err)
	return b
}

// record is the record of a payload.
func record(t *testing.T, payload ...byte) []byte {
	t.Helper()
	b, err := frame.Frame(payload)
	must(t, err)
	return b
}

// set is the change of a key to a value.
func set(key, value string) kv.Change {
	return kv.Change{Key: key, Value: value}
}

// drop is the change by which a key is gone.
func drop(key string) kv.Change {
	return kv.Change{Key: key, Gone: true}
}

// open is the Store of the file f that must be there.
func open(t *testing.T, f *files.FS) *kv.Store {
	t.Helper()
	s, err := kv.Open(f, "f")
	if err != nil || s == nil {
		t.Fatalf("Open: %v, %v", s, err)
	}
	return s
}

// apply performs a batch that must have no error.
func apply(t *testing.T, s *kv.Store, l ...kv.Change) {
	t.Helper()
	must(t, s.Apply(l))
}

// wantPairs holds that a Store has these keys and values alone, in this order.
func wantPairs(t *testing.T, what string, s *kv.Store, want ...string) {
	t.Helper()
	var got []string
	for _, pair := range s.Range("", "") {
		got = append(got, pair.Key, pair.Value)
		if value, found := s.Get(pair.Key); value != pair.Value || !found {
			t.Errorf("%s: Get(%q): %q, %v, want %q", what, pair.Key, value, found, pair.Value)
		}
	}
	if !slices.Equal(got, want) {
		t.Errorf("%s: %.200q, want %.200q", what, got, want)
	}
	if s.Len() != len(want)/2 {
		t.Errorf("%s: Len %d, want %d", what, s.Len(), len(want)/2)
	}
}

// wantNot holds that a Store does not have these keys.
func wantNot(t *testing.T, s *kv.Store, keys ...string) {
	t.Helper()
	for _, key := range keys {
		if value, found := s.Get(key); value != "" || found {
			t.Errorf("Get(%q): %q, %v", key, value, found)
		}
	}
}

// wantFile holds that a file has these bytes, all of them safe.
func wantFile(t *testing.T, f *files.FS, name string, want []byte) {
	t.Helper()
	b, err := f.Read(name)
	if err != nil || !bytes.Equal(b, want) {
		t.Errorf("%s: %d bytes %.100x, %v, want %d bytes %.100x", name, len(b), b, err, len(want), want)
	}
	if n, err := f.Safe(name); n != len(want) || err != nil {
		t.Errorf("%s: %d bytes are safe, %v, want %d", name, n, err, len(want))
	}
}

// wantStored holds that the file f is the only one, has these bytes, and that the Store knows how many they are.
func wantStored(t *testing.T, f *files.FS, s *kv.Store, want []byte) {
	t.Helper()
	wantFile(t, f, "f", want)
	if s.Size() != len(want) || !slices.Equal(f.List(), []string{"f"}) {
		t.Errorf("Size %d, files %q, want %d bytes", s.Size(), f.List(), len(want))
	}
}

// wantSteps holds that a call took so many steps.
func wantSteps(t *testing.T, what string, f *files.FS, want int, call func()) {
	t.Helper()
	steps := f.Steps()
	call()
	if got := f.Steps() - steps; got != want {
		t.Errorf("%s: %d steps, want %d", what, got, want)
	}
}

// TestKV2Example: the chapter's own, with the bytes that were made outside Go.
func TestKV2Example(t *testing.T) {
	f := files.New()
	s := open(t, f)
	wantPairs(t, "a new one", s)
	wantSteps(t, "Apply", f, 2, func() { apply(t, s, set("a", "1")) })
	wantPairs(t, "one", s, "a", "1")
	wantStored(t, f, s, unhex(t, setA1))
	apply(t, s, set("a", "2"), set("b", "3"))
	wantPairs(t, "two", s, "a", "2", "b", "3")
	wantStored(t, f, s, unhex(t, setA1, setA2B3))
	apply(t, s, drop("a"))
	wantPairs(t, "three", s, "b", "3")
	wantNot(t, s, "a", "", "c", "bb", "b\x00")
	wantStored(t, f, s, unhex(t, setA1, setA2B3, dropA))
	again := open(t, f)
	wantPairs(t, "opened again", again, "b", "3")
	wantStored(t, f, again, unhex(t, setA1, setA2B3, dropA))
	wantSteps(t, "Compact", f, 3, func() { must(t, s.Compact()) })
	wantPairs(t, "compacted", s, "b", "3")
	wantStored(t, f, s, unhex(t, setB3))
	again = open(t, f)
	wantPairs(t, "compacted and opened again", again, "b", "3")
	wantStored(t, f, again, unhex(t, setB3))
}

// TestKV2ApplyInOrder: later changes of a batch go on from the earlier ones.
func TestKV2ApplyInOrder(t *testing.T) {
	cases := []struct {
		l    []kv.Change
		want []string
	}{
		{[]kv.Change{set("a", "1"), set("a", "2")}, []string{"a", "2", "z", "9"}},
		{[]kv.Change{set("a", "2"), set("a", "1")}, []string{"a", "1", "z", "9"}},
		{[]kv.Change{set("a", "1"), drop("a")}, []string{"z", "9"}},
		{[]kv.Change{drop("a"), set("a", "1")}, []string{"a", "1", "z", "9"}},
		{[]kv.Change{drop("z"), set("z", "1")}, []string{"z", "1"}},
		{[]kv.Change{set("z", "1"), drop("z"), set("y", "2"), drop("z")}, []string{"y", "2"}},
		{[]kv.Change{drop("a")}, []string{"z", "9"}},
		{[]kv.Change{drop("z"), drop("z")}, nil},
		{[]kv.Change{set("a", "")}, []string{"a", "", "z", "9"}},
		{[]kv.Change{set("z", "")}, []string{"z", ""}},
		{[]kv.Change{{Key: "z", Value: "1", Gone: true}}, nil},
		{[]kv.Change{{Key: "a", Value: "1", Gone: true}}, []string{"z", "9"}},
		{[]kv.Change{set("", "1"), set("\x00", "2"), set("\xff", "3"), set("ÿ", "4")}, []string{"", "1", "\x00", "2", "z", "9", "ÿ", "4", "\xff", "3"}},
	}
	for i, c := range cases {
		f := files.New()
		s := open(t, f)
		apply(t, s, set("z", "9"))
		apply(t, s, c.l...)
		what := "case " + strconv.Itoa(i)
		wantPairs(t, what, s, c.want...)
		wantPairs(t, what+" opened again", open(t, f), c.want...)
		must(t, s.Compact())
		wantPairs(t, what+" compacted", s, c.want...)
		wantPairs(t, what+" compacted and opened again", open(t, f), c.want...)
	}
}

// TestKV2ApplyBytes: what is appended, for each kind of change.
func TestKV2ApplyBytes(t *testing.T) {
	x := strings.Repeat("x", 200)
	long := unhex(t, longHead, hex.EncodeToString([]byte(x)), longTail)
	cases := []struct {
		l    []kv.Change
		want []byte
	}{
		{[]kv.Change{set("a", "1")}, unhex(t, setA1)},
		{[]kv.Change{set("a", "2"), set("b", "3")}, unhex(t, setA2B3)},
		{[]kv.Change{drop("a")}, unhex(t, dropA)},
		{[]kv.Change{{Key: "a", Value: "not told", Gone: true}}, unhex(t, dropA)},
		{[]kv.Change{{Key: "a", Value: strings.Repeat("x", 2*api.MaxBytes), Gone: true}}, unhex(t, dropA)},
		{[]kv.Change{{}}, unhex(t, setNone)},
		{[]kv.Change{{Gone: true}}, unhex(t, dropNone)},
		{[]kv.Change{set("\xff\x00", x)}, long},
		{slices.Repeat([]kv.Change{{Gone: true}}, 128), record(t, append([]byte{128, 1}, bytes.Repeat([]byte{1, 0}, 128)...)...)},
	}
	f := files.New()
	s := open(t, f)
	var all []byte
	for _, c := range cases {
		wantSteps(t, "Apply", f, 2, func() { apply(t, s, c.l...) })
		all = append(all, c.want...)
		wantStored(t, f, s, all)
	}
	wantPairs(t, "all", open(t, f), "b", "3", "\xff\x00", x)
}

// TestKV2ApplyNothing: a batch without changes leaves no trace.
func TestKV2ApplyNothing(t *testing.T) {
	f := files.New()
	s := open(t, f)
	for _, l := range [][]kv.Change{nil, {}} {
		wantErr(t, "Apply of nothing", s.Apply(l), 0)
		if f.Steps() != 0 || len(f.List()) != 0 || s.Size() != 0 {
			t.Errorf("Apply of nothing: %d steps, files %q, Size %d", f.Steps(), f.List(), s.Size())
		}
	}
	apply(t, s, set("a", "1"))
	must(t, f.Arm(0))
	wantErr(t, "Apply of nothing, where a step would crash", s.Apply(nil), 0)
	wantStored(t, f, s, unhex(t, setA1))
}

// TestKV2ApplyLong: batches whose encodings have exactly MaxBytes bytes, and those with one more.
func TestKV2ApplyLong(t *testing.T) {
	most := strings.Repeat("x", api.MaxBytes)
	cases := []struct {
		what string
		over int // bytes that an encoding has beside the last text
		l    func(text string) []kv.Change
	}{
		{"a value", 7, func(text string) []kv.Change { return []kv.Change{set("k", text)} }},
		{"a key", 6, func(text string) []kv.Change { return []kv.Change{set(text, "")} }},
		{"a key that is gone", 5, func(text string) []kv.Change { return []kv.Change{drop(text)} }},
		{"two values", 6 + 1000 + 5, func(text string) []kv.Change { return []kv.Change{set("k", most[:1000]), set("", text)} }},
		{"many changes", 2 + 2*9999 + 5, func(text string) []kv.Change {
			return append(slices.Repeat([]kv.Change{drop("")}, 9999), set("", text))
		}},
	}
	for _, c := range cases {
		f := files.New()
		s := open(t, f)
		apply(t, s, set("a", "1"))
		size := api.MaxBytes - c.over
		wantSteps(t, c.what, f, 0, func() {
			for more := 1; more < 5; more++ {
				wantErr(t, c.what, s.Apply(c.l(most[:size+more])), api.ErrLong)
			}
			wantErr(t, c.what, s.Apply(c.l(most)), api.ErrLong)
			wantErr(t, c.what, s.Apply(c.l(most+most)), api.ErrLong)
		})
		wantPairs(t, c.what, s, "a", "1")
		wantStored(t, f, s, unhex(t, setA1))
		l := c.l(most[:size])
		apply(t, s, l...)
		if want := len(unhex(t, setA1)) + api.MaxBytes + 12; s.Size() != want {
			t.Errorf("%s: Size %d, want %d", c.what, s.Size(), want)
		}
		last := l[len(l)-1]
		for _, x := range []*kv.Store{s, open(t, f)} {
			value, found := x.Get(last.Key)
			if value != last.Value || found == last.Gone || len(x.Range("a", "b")) != 1 {
				t.Errorf("%s: %d bytes, %v, %d keys", c.what, len(value), found, x.Len())
			}
		}
		must(t, s.Compact())
		if open(t, f).Len() != s.Len() {
			t.Errorf("%s: %d keys, and %d after Compact", c.what, s.Len(), open(t, f).Len())
		}
	}
}

// TestKV2ApplyShared: a great number of changes with the same long text is refused, not built up.
func TestKV2ApplyShared(t *testing.T) {
	s := open(t, files.New())
	text := strings.Repeat("x", api.MaxBytes)
	for _, c := range []kv.Change{set("a", text), set(text, ""), drop(text)} {
		wantErr(t, "shared", s.Apply(slices.Repeat([]kv.Change{c}, 1<<20)), api.ErrLong)
	}
	apply(t, s, set("a", "1"))
	wantPairs(t, "afterwards", s, "a", "1")
}

// TestKV2Range: each pair of bounds, against what the chapter says of them.
func TestKV2Range(t *testing.T) {
	keys := []string{"", "\x00", "A", "a", "a\x00", "aa", "ab", "b", "ba", "z", "é", "\xff", "\xff\xff"}
	bounds := append(slices.Clone(keys), "\x01", "0", "a\x01", "aaa", "c", "zz", "\xfe", "\xff\xff\xff")
	s := open(t, files.New())
	for _, key := range slices.Backward(keys) {
		apply(t, s, set(key, key+"!"))
	}
	slices.Sort(keys)
	for _, from := range bounds {
		for _, to := range bounds {
			var want []api.Pair
			for _, key := range keys {
				if key >= from && (to == "" || key < to) {
					want = append(want, api.Pair{Key: key, Value: key + "!"})
				}
			}
			if got := s.Range(from, to); !slices.Equal(got, want) {
				t.Errorf("Range(%q, %q): %q, want %q", from, to, got, want)
			}
		}
	}
}

// TestKV2Memory: what was handed in or out is the caller's.
func TestKV2Memory(t *testing.T) {
	s := open(t, files.New())
	l := []kv.Change{set("a", "1"), set("b", "2"), drop("c")}
	given := slices.Clone(l)
	apply(t, s, l...)
	if !slices.Equal(l, given) {
		t.Errorf("the argument was changed: %v", l)
	}
	clear(l)
	wantPairs(t, "the argument is changed", s, "a", "1", "b", "2")
	pairs := s.Range("", "")
	pairs[0].Value = "3"
	clear(pairs[1:cap(pairs)])
	wantPairs(t, "the answer is changed", s, "a", "1", "b", "2")
}

// TestKV2Compact: the records of all keys in increasing order, however the file came about.
func TestKV2Compact(t *testing.T) {
	f := files.New()
	s := open(t, f)
	var want []byte
	var pairs []string
	for i := 99; i >= 0; i-- {
		key, value := strconv.Itoa(100+i), strings.Repeat("v", i)
		apply(t, s, set(key, "old"), set("gone", key))
		apply(t, s, drop("gone"), set(key, value))
	}
	for i := range 100 {
		key, value := strconv.Itoa(100+i), strings.Repeat("v", i)
		pairs = append(pairs, key, value)
		payload := slices.Concat([]byte{1, 0, 3}, []byte(key), []byte{byte(i)}, []byte(value))
		want = append(want, record(t, payload...)...)
	}
	for range 3 {
		wantSteps(t, "Compact", f, 3, func() { must(t, s.Compact()) })
		wantStored(t, f, s, want)
		wantPairs(t, "compacted", s, pairs...)
		again := open(t, f)
		wantStored(t, f, again, want)
		wantPairs(t, "opened again", again, pairs...)
	}
	apply(t, s, drop("100"))
	want = append(want, record(t, 1, 1, 3, '1', '0', '0')...)
	wantStored(t, f, s, want)
	wantPairs(t, "applied afterwards", s, pairs[2:]...)
	wantPairs(t, "applied afterwards, opened again", open(t, f), pairs[2:]...)
}

// TestKV2CompactGrows: a record for each key may take more bytes than one for all of them.
func TestKV2CompactGrows(t *testing.T) {
	f := files.New()
	s := open(t, f)
	apply(t, s, set("b", "3"), set("a", "1"))
	must(t, s.Compact())
	wantStored(t, f, s, unhex(t, setA1, setB3))
}

// TestKV2CompactNothing: without keys the file has no bytes, also one that did not exist.
func TestKV2CompactNothing(t *testing.T) {
	f := files.New()
	s := open(t, f)
	for range 2 {
		wantSteps(t, "Compact of nothing", f, 3, func() { must(t, s.Compact()) })
		wantStored(t, f, s, nil)
		wantStored(t, f, open(t, f), nil)
	}
	apply(t, s, set("a", "1"))
	apply(t, s, drop("a"))
	wantStored(t, f, s, unhex(t, setA1, dropA))
	must(t, s.Compact())
	wantStored(t, f, s, nil)
	wantPairs(t, "all are gone", s)
	apply(t, s, set("b", "3"))
	wantStored(t, f, s, unhex(t, setB3))
	wantPairs(t, "opened again", open(t, f), "b", "3")
}

// TestKV2TwoStores: Stores of two files in one file system are nothing to each other.
func TestKV2TwoStores(t *testing.T) {
	f := files.New()
	must(t, f.Append("other", []byte("not a record")))
	s := open(t, f)
	g, err := kv.Open(f, "g")
	must(t, err)
	apply(t, s, set("a", "1"))
	apply(t, g, set("a", "2"), set("b", "3"))
	wantFile(t, f, "f", unhex(t, setA1))
	wantFile(t, f, "g", unhex(t, setA2B3))
	must(t, s.Compact())
	wantPairs(t, "f", s, "a", "1")
	wantPairs(t, "g", g, "a", "2", "b", "3")
	if !slices.Equal(f.List(), []string{"f", "g", "other"}) {
		t.Errorf("files %q", f.List())
	}
}

func TestKV3Nil(t *testing.T) {
	var s *kv.Store
	for _, l := range [][]kv.Change{nil, {set("a", "1")}, {set("a", strings.Repeat("x", api.MaxBytes))}} {
		wantErr(t, "Apply", s.Apply(l), api.ErrArg)
	}
	wantErr(t, "Compact", s.Compact(), api.ErrArg)
	wantPairs(t, "nil", s)
	wantNot(t, s, "", "a")
	if len(s.Range("a", "b")) != 0 || s.Size() != 0 {
		t.Errorf("Range %v, Size %d", s.Range("a", "b"), s.Size())
	}
}
