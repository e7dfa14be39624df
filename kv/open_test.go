package kv_test

import (
	"bytes"
	"slices"
	"strconv"
	"strings"
	"testing"

	"isthmus/api"
	"isthmus/files"
	"isthmus/kv"
)

// holding is a file system in which the file f has these bytes, all of them safe.
func holding(t *testing.T, b []byte) *files.FS {
	t.Helper()
	f := files.New()
	must(t, f.Append("f", b))
	must(t, f.Sync("f"))
	return f
}

// wantNoOpen holds that Open returns the error want, nothing beside it, and does nothing to the files.
func wantNoOpen(t *testing.T, what string, f *files.FS, name string, want api.Errno) {
	t.Helper()
	wantSteps(t, what, f, 0, func() {
		s, err := kv.Open(f, name)
		wantErr(t, "Open: "+what, err, want)
		if s != nil {
			t.Errorf("Open: %s: a Store beside the error", what)
		}
	})
}

// TestKV1OpenMissing: a file that does not exist has no keys, and is created by what is written.
func TestKV1OpenMissing(t *testing.T) {
	f := files.New()
	wantSteps(t, "Open", f, 0, func() {
		s := open(t, f)
		wantPairs(t, "no file", s)
		if s.Size() != 0 || len(f.List()) != 0 {
			t.Errorf("no file: Size %d, files %q", s.Size(), f.List())
		}
	})
	s := open(t, f)
	apply(t, s, set("a", "1"))
	wantStored(t, f, s, unhex(t, setA1))
}

// TestKV1Open: what batches result in.
func TestKV1Open(t *testing.T) {
	x := strings.Repeat("x", 200)
	cases := []struct {
		what  string
		bytes []byte
		want  []string
	}{
		{"no records", nil, nil},
		{"a 1", unhex(t, setA1), []string{"a", "1"}},
		{"a 1, a 2 b 3", unhex(t, setA1, setA2B3), []string{"a", "2", "b", "3"}},
		{"a 2 b 3, a 1", unhex(t, setA2B3, setA1), []string{"a", "1", "b", "3"}},
		{"a 2 b 3, a gone", unhex(t, setA2B3, dropA), []string{"b", "3"}},
		{"a gone, a 1", unhex(t, dropA, setA1), []string{"a", "1"}},
		{"a gone", unhex(t, dropA), nil},
		{"the empty text", unhex(t, setNone), []string{"", ""}},
		{"the empty text, and gone", unhex(t, setNone, setB3, dropNone), []string{"b", "3"}},
		{"a long value", unhex(t, longHead, strings.Repeat("78", 200), longTail), []string{"\xff\x00", x}},
		{"three changes", record(t, 3, 0, 1, 'a', 1, '1', 1, 1, 'a', 0, 1, 'a', 2, '2', '3'), []string{"a", "23"}},
	}
	for _, c := range cases {
		f := holding(t, c.bytes)
		wantSteps(t, c.what, f, 0, func() {
			s := open(t, f)
			wantPairs(t, c.what, s, c.want...)
			wantStored(t, f, s, c.bytes)
		})
		s := open(t, f)
		apply(t, s, drop("a"), set("c", "4"))
		wantNot(t, s, "a")
		if value, _ := open(t, f).Get("c"); value != "4" {
			t.Errorf("%s: what was appended is %q", c.what, value)
		}
	}
}

// TestKV1OpenLong: texts as long as a payload allows.
func TestKV1OpenLong(t *testing.T) {
	long := bytes.Repeat([]byte{'x'}, api.MaxBytes-6)
	key := record(t, slices.Concat([]byte{1, 0, 250, 255, 63}, long, []byte{0})...)
	s := open(t, holding(t, key))
	if l := s.Range("", ""); len(l) != 1 || l[0].Key != string(long) || l[0].Value != "" {
		t.Errorf("a long key: %d keys", len(l))
	}
	value := record(t, slices.Concat([]byte{1, 0, 0, 250, 255, 63}, long)...)
	if got, found := open(t, holding(t, value)).Get(""); got != string(long) || !found {
		t.Errorf("a long value: %d bytes, %v", len(got), found)
	}
	many := bytes.Repeat([]byte{1, 0}, api.MaxBytes/2-2)
	payload := slices.Concat([]byte{254, 255, 31}, many)
	wantPairs(t, "many changes", open(t, holding(t, append(unhex(t, setB3), record(t, payload...)...))), "b", "3")
	payload[0]++
	wantNoOpen(t, "one change fewer than it says", holding(t, record(t, payload...)), "f", api.ErrHalt)
	payload[0] -= 2
	wantNoOpen(t, "one change more than it says", holding(t, record(t, payload...)), "f", api.ErrHalt)
}

// spoilt are bytes of which no torn record can be the cause.
func spoilt(t *testing.T) map[string][]byte {
	m := map[string][]byte{
		"no changes":                      record(t, 0),
		"no changes, and a byte":          record(t, 0, 0),
		"no changes, and a change":        record(t, 0, 0, 1, 'a', 1, '1'),
		"one change of two":               record(t, 2, 0, 1, 'a', 1, '1'),
		"two changes of one":              record(t, 1, 0, 1, 'a', 1, '1', 1, 1, 'a'),
		"a byte behind":                   record(t, 1, 0, 1, 'a', 1, '1', 0),
		"a byte behind a key that's gone": record(t, 1, 1, 1, 'a', 0),
		"a value of a key that is gone":   record(t, 1, 1, 1, 'a', 1, '1'),
		"no change":                       record(t, 1),
		"half a change":                   record(t, 1, 0),
		"no key":                          record(t, 1, 1),
		"half a key":                      record(t, 1, 1, 2, 'a'),
		"no value":                        record(t, 1, 0, 1, 'a'),
		"half a value":                    record(t, 1, 0, 1, 'a', 2, '1'),
		"a Bool of 2":                     record(t, 1, 2, 1, 'a', 1, '1'),
		"a Bool of 255":                   record(t, 1, 255, 1, 'a'),
		"1 in two bytes":                  record(t, 129, 0, 0, 1, 'a', 1, '1'),
		"a length in two bytes":           record(t, 1, 0, 129, 0, 'a', 1, '1'),
		"a great number":                  record(t, 255, 255, 255, 255, 255, 255, 255, 255, 255, 1, 0, 1, 'a', 1, '1'),
		"a number of eleven bytes":        record(t, bytes.Repeat([]byte{129}, 11)...),
		"a great length":                  record(t, 1, 0, 255, 255, 255, 255, 255, 255, 255, 255, 255, 1, 'a'),
		"half a number":                   record(t, 129),
		"text":                            record(t, []byte("this is not a batch")...),
		"noughts":                         make([]byte, 100),
		"no record":                       []byte("this is not a record"),
	}
	whole := unhex(t, setA2B3)
	for at := range whole {
		for _, bit := range []byte{1, 128} {
			b := bytes.Clone(whole)
			b[at] ^= bit
			m["bit "+strconv.Itoa(int(bit))+" of byte "+strconv.Itoa(at)] = b
		}
	}
	return m
}

// TestKV1OpenHalt: spoilt bytes as the whole file, and ahead of, behind and between records, torn ones too. Nothing is
// cut off then, and a second file stays.
func TestKV1OpenHalt(t *testing.T) {
	good := unhex(t, setA1)
	for what, b := range spoilt(t) {
		for _, c := range [][]byte{b, append(bytes.Clone(good), b...), append(bytes.Clone(b), good...), slices.Concat(good, b, good), slices.Concat(b, good[:5]), slices.Concat(b, good[:len(good)-1])} {
			f := holding(t, c)
			must(t, f.Append("f.new", good))
			wantNoOpen(t, what, f, "f", api.ErrHalt)
			wantFile(t, f, "f", c)
			must(t, f.Sync("f.new"))
			wantFile(t, f, "f.new", good)
			must(t, f.Arm(0))
			wantNoOpen(t, what+", where a step would crash", f, "f", api.ErrHalt)
		}
	}
}

// TestKV1OpenTorn: a file that ends anywhere in its last record is truncated at its beginning.
func TestKV1OpenTorn(t *testing.T) {
	records := []string{setA1, setA2B3, dropA}
	states := [][]string{nil, {"a", "1"}, {"a", "2", "b", "3"}}
	for n := range records {
		whole := unhex(t, records[:n]...)
		last := unhex(t, records[n])
		for size := 1; size < len(last); size++ {
			what := strconv.Itoa(n) + " records and " + strconv.Itoa(size) + " bytes"
			f := files.New()
			must(t, f.Append("f", append(bytes.Clone(whole), last[:size]...)))
			wantSteps(t, what, f, 1, func() {
				s := open(t, f)
				wantPairs(t, what, s, states[n]...)
				wantStored(t, f, s, whole)
			})
			s := open(t, f)
			apply(t, s, set("b", "3"))
			wantStored(t, f, s, append(whole, unhex(t, setB3)...))
			wantStored(t, f, open(t, f), append(whole, unhex(t, setB3)...))
		}
	}
}

// TestKV1OpenTornCrash: a crash at the step that truncates the file leaves it as it was.
func TestKV1OpenTornCrash(t *testing.T) {
	torn := append(unhex(t, setA1), unhex(t, setB3)[:10]...)
	f := holding(t, torn)
	must(t, f.Arm(0))
	wantNoOpen(t, "a crash", f, "f", api.ErrDown)
	wantNoOpen(t, "after a crash", f, "f", api.ErrDown)
	f.Start(nil)
	wantFile(t, f, "f", torn)
	s := open(t, f)
	wantPairs(t, "started again", s, "a", "1")
	wantStored(t, f, s, unhex(t, setA1))
}

// TestKV1OpenSecond: a second file is removed, whatever is in it, and whether there is a first one or not.
func TestKV1OpenSecond(t *testing.T) {
	for _, second := range [][]byte{nil, unhex(t, setB3), unhex(t, setB3)[:5], make([]byte, 100), []byte("this is not a record")} {
		for _, first := range [][]byte{nil, unhex(t, setA1)} {
			f := holding(t, first)
			must(t, f.Append("f.new", second))
			wantSteps(t, "a second file", f, 1, func() { wantStored(t, f, open(t, f), first) })
		}
		f := files.New()
		must(t, f.Append("f.new", second))
		must(t, f.Append("f.new.new", second))
		must(t, f.Append("g.new", second))
		wantSteps(t, "a second file alone", f, 1, func() {
			s := open(t, f)
			wantPairs(t, "a second file alone", s)
			if s.Size() != 0 || !slices.Equal(f.List(), []string{"f.new.new", "g.new"}) {
				t.Errorf("a second file alone: Size %d, files %q", s.Size(), f.List())
			}
		})
	}
}

// TestKV1OpenSecondCrash: the file is truncated ahead of the second one's removal, and each of these steps may crash.
func TestKV1OpenSecondCrash(t *testing.T) {
	torn := append(unhex(t, setA1), unhex(t, setB3)[:10]...)
	for allowed, want := range [][]byte{torn, unhex(t, setA1)} {
		f := holding(t, torn)
		must(t, f.Append("f.new", []byte("half")))
		must(t, f.Arm(allowed))
		s, err := kv.Open(f, "f")
		wantErr(t, "a crash", err, api.ErrDown)
		if s != nil {
			t.Error("a Store beside the error")
		}
		f.Start([]int{2})
		wantFile(t, f, "f", want)
		wantFile(t, f, "f.new", []byte("ha"))
		wantStored(t, f, open(t, f), unhex(t, setA1))
	}
}

// TestKV1OpenNames: names of files that there can't be, and files that are down or missing altogether.
func TestKV1OpenNames(t *testing.T) {
	f := holding(t, unhex(t, setA1))
	down := f.Clone()
	must(t, down.Arm(0))
	wantErr(t, "a crash", down.Remove("f"), api.ErrDown)
	for _, name := range []string{"", " ", "a b", "é", "a\x7f", "\n", strings.Repeat("n", 65), strings.Repeat("n", 1000)} {
		wantNoOpen(t, strconv.Quote(name), f, name, api.ErrArg)
		wantNoOpen(t, strconv.Quote(name)+", down", down, name, api.ErrArg)
		wantNoOpen(t, strconv.Quote(name)+", nil", nil, name, api.ErrArg)
	}
	for _, name := range []string{"f", "g"} {
		wantNoOpen(t, name+", down", down, name, api.ErrDown)
		wantNoOpen(t, name+", nil", nil, name, api.ErrArg)
	}
}

// TestKV1OpenLongName: a name that leaves no room for the second file's is a Store's as any other, up to its Compact.
func TestKV1OpenLongName(t *testing.T) {
	for size := 58; size <= api.MaxName; size++ {
		name := strings.Repeat("n", size)
		f := files.New()
		s, err := kv.Open(f, name)
		must(t, err)
		apply(t, s, set("a", "1"))
		want := api.Errno(0)
		if size > 60 {
			want = api.ErrArg
		}
		wantErr(t, "Compact", s.Compact(), want)
		wantErr(t, "Apply afterwards", s.Apply([]kv.Change{drop("b")}), want)
		s, err = kv.Open(f, name)
		must(t, err)
		wantPairs(t, name, s, "a", "1")
		if !slices.Equal(f.List(), []string{name}) {
			t.Errorf("files %q", f.List())
		}
	}
}
