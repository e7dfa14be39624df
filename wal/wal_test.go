package wal_test

import (
	"bytes"
	"encoding/hex"
	"errors"
	"math"
	"slices"
	"strconv"
	"strings"
	"testing"

	"isthmus/api"
	"isthmus/files"
	"isthmus/frame"
	"isthmus/wal"
)

// Records, made outside Go.
const (
	recordA     = "000000015643ef8a61e8b7be43"
	recordB     = "000000015643ef8a6271beeff9"
	recordC     = "000000015643ef8a6306b9df6f"
	recordD     = "000000015643ef8a6498dd4acc"
	recordThree = "00000005512e2b93746872656546c5d8f5" // of three
	recordBytes = "00000002cf4abe3000ff6cdbfd72"       // of 00 ff
)

// wantErr holds that err is the number want, or nil for 0.
func wantErr(t *testing.T, what string, err error, want api.Errno) {
	t.Helper()
	if want == 0 && err == nil {
		return
	}
	var number api.Errno
	if !errors.As(err, &number) || number != want {
		t.Errorf("%s: %v, want error %d", what, err, want)
	}
}

// must holds that a call of the preparation has no error.
func must(t *testing.T, err error) {
	t.Helper()
	if err != nil {
		t.Fatal(err)
	}
}

// unhex are the bytes of texts of hexadecimal digits.
func unhex(t *testing.T, l ...string) []byte {
	t.Helper()
	b, err := hex.DecodeString(strings.Join(l, ""))
	must(t, err)
	return b
}

// record is the record of a text.
func record(t *testing.T, text string) []byte {
	t.Helper()
	b, err := frame.Frame([]byte(text))
	must(t, err)
	return b
}

// open is the Log w that must be there, and its records as texts.
func open(t *testing.T, f *files.FS, limit int) (*wal.Log, []string) {
	t.Helper()
	l, records, err := wal.Open(f, "w", limit)
	if err != nil || l == nil {
		t.Fatalf("Open: %v, %v", l, err)
	}
	return l, texts(records)
}

// texts are records as texts.
func texts(records [][]byte) []string {
	var l []string
	for _, p := range records {
		l = append(l, string(p))
	}
	return l
}

// add appends texts, none of which may have an error.
func add(t *testing.T, l *wal.Log, records ...string) {
	t.Helper()
	for _, p := range records {
		must(t, l.Append([]byte(p)))
	}
}

// wantRecords holds that the Log w, if it is opened, has these records alone, in this order, and leaves the files as they
// are.
func wantRecords(t *testing.T, what string, f *files.FS, want ...string) {
	t.Helper()
	wantSteps(t, what+": Open", f, 0, func() {
		if _, got := open(t, f, 1); !slices.Equal(got, want) {
			t.Errorf("%s: records %.200q, want %.200q", what, got, want)
		}
	})
}

// wantLog holds what a Log tells of itself.
func wantLog(t *testing.T, what string, l *wal.Log, first, next, segments int) {
	t.Helper()
	if l.First() != first || l.Next() != next || l.Segments() != segments {
		t.Errorf("%s: First %d, Next %d, Segments %d, want %d, %d, %d", what, l.First(), l.Next(), l.Segments(), first, next, segments)
	}
}

// stored is a file, by what its name ends with, and its bytes, of which so many are safe.
type stored struct {
	number string
	bytes  []byte
	safe   int
}

// wantFiles holds that these are all the files, in order.
func wantFiles(t *testing.T, what string, f *files.FS, want ...stored) {
	t.Helper()
	var names []string
	for _, x := range want {
		name := "w." + x.number
		names = append(names, name)
		b, err := f.Read(name)
		if err != nil || !bytes.Equal(b, x.bytes) {
			t.Errorf("%s: %s: %d bytes %.60x, %v, want %d bytes %.60x", what, name, len(b), b, err, len(x.bytes), x.bytes)
		}
		if n, err := f.Safe(name); n != x.safe || err != nil {
			t.Errorf("%s: %s: %d bytes are safe, %v, want %d", what, name, n, err, x.safe)
		}
	}
	if got := f.List(); !slices.Equal(got, names) {
		t.Errorf("%s: files %q, want %q", what, got, names)
	}
}

// wantSteps holds that a call took so many steps.
func wantSteps(t *testing.T, what string, f *files.FS, want int, call func()) {
	t.Helper()
	steps := f.Steps()
	call()
	if got := f.Steps() - steps; got != want {
		t.Errorf("%s: %d steps, want %d", what, got, want)
	}
}

// TestWL1Name: numbers of twelve digits, and those that are none.
func TestWL1Name(t *testing.T) {
	cases := []struct {
		name  string
		first int
		want  string
	}{
		{"w", 0, "w.000000000000"},
		{"w", 7, "w.000000000007"},
		{"w", 10, "w.000000000010"},
		{"wal", 1234567, "wal.000001234567"},
		{"w", 99_999_999_999, "w.099999999999"},
		{"w", 100_000_000_000, "w.100000000000"},
		{"w", 999_999_999_999, "w.999999999999"},
		{"w", 1_000_000_000_000, ""},
		{"w", 1_000_000_000_001, ""},
		{"w", math.MaxInt, ""},
		{"w", -1, ""},
		{"w", -10, ""},
		{"w", math.MinInt, ""},
		{"", 1, ".000000000001"},
		{"", -1, ""},
		{"a.b", 2, "a.b.000000000002"},
		{"w.000000000001", 3, "w.000000000001.000000000003"},
		{"a b\n\xff", 4, "a b\n\xff.000000000004"},
		{strings.Repeat("n", 1000), 5, strings.Repeat("n", 1000) + ".000000000005"},
	}
	for _, c := range cases {
		if got := wal.Name(c.name, c.first); got != c.want {
			t.Errorf("Name(%.20q, %d): %q, want %q", c.name, c.first, got, c.want)
		}
	}
}

// TestWL2Example: the chapter's own, with records that were made outside Go.
func TestWL2Example(t *testing.T) {
	f := files.New()
	l, records := open(t, f, 20)
	wantLog(t, "a new one", l, 0, 0, 0)
	wantFiles(t, "a new one", f)
	if len(records) != 0 {
		t.Errorf("a new one: records %q", records)
	}
	a, b, c := unhex(t, recordA), unhex(t, recordB), unhex(t, recordC)
	wantSteps(t, "the first Append", f, 1, func() { add(t, l, "a") })
	wantLog(t, "one", l, 0, 1, 1)
	wantFiles(t, "one", f, stored{"000000000000", a, 0})
	wantSteps(t, "the second Append", f, 2, func() { add(t, l, "b") })
	wantLog(t, "two", l, 0, 2, 2)
	wantFiles(t, "two", f, stored{"000000000000", a, 13}, stored{"000000000001", b, 0})
	wantSteps(t, "the third Append", f, 2, func() { add(t, l, "c") })
	wantLog(t, "three", l, 0, 3, 3)
	wantFiles(t, "three", f, stored{"000000000000", a, 13}, stored{"000000000001", b, 13}, stored{"000000000002", c, 0})
	wantRecords(t, "three", f, "a", "b", "c")
	wantSteps(t, "Sync", f, 1, func() { must(t, l.Sync()) })
	wantFiles(t, "synced", f, stored{"000000000000", a, 13}, stored{"000000000001", b, 13}, stored{"000000000002", c, 13})
	wantSteps(t, "Drop", f, 1, func() { must(t, l.Drop(1)) })
	wantLog(t, "dropped", l, 1, 3, 2)
	wantFiles(t, "dropped", f, stored{"000000000001", b, 13}, stored{"000000000002", c, 13})
	wantRecords(t, "dropped", f, "b", "c")
}

// TestWL2AppendBytes: what is appended, to one segment.
func TestWL2AppendBytes(t *testing.T) {
	f := files.New()
	l, _ := open(t, f, math.MaxInt)
	var all []byte
	for i, c := range []struct{ text, record string }{{"a", recordA}, {"three", recordThree}, {"\x00\xff", recordBytes}, {"a", recordA}, {"b", recordB}} {
		p := []byte(c.text)
		wantSteps(t, "Append", f, 1, func() { must(t, l.Append(p)) })
		clear(p)
		all = append(all, unhex(t, c.record)...)
		wantLog(t, c.text, l, 0, i+1, 1)
		wantFiles(t, c.text, f, stored{"000000000000", all, 0})
	}
	wantRecords(t, "all", f, "a", "three", "\x00\xff", "a", "b")
}

// TestWL2AppendLimit: a segment has up to limit bytes, and one record at least.
func TestWL2AppendLimit(t *testing.T) {
	cases := []struct {
		limit  int
		sizes  []int // of the payloads
		firsts []int // of the segments that must be there then
	}{
		{1, []int{1, 1, 1}, []int{0, 1, 2}},
		{12, []int{1, 1}, []int{0, 1}},
		{13, []int{1, 1}, []int{0, 1}},
		{14, []int{1, 1}, []int{0, 1}},
		{25, []int{1, 1, 1}, []int{0, 1, 2}},
		{26, []int{1, 1, 1}, []int{0, 2}},
		{27, []int{1, 1, 1}, []int{0, 2}},
		{39, []int{1, 1, 1, 1}, []int{0, 3}},
		{26, []int{1, 2, 1}, []int{0, 1, 2}},
		{27, []int{1, 2, 1}, []int{0, 2}},
		{27, []int{1, 3, 1}, []int{0, 1, 2}},
		{28, []int{1, 3, 1}, []int{0, 2}},
		{26, []int{100, 1, 1, 100, 100, 1}, []int{0, 1, 3, 4, 5}},
		{112, []int{100, 1, 100}, []int{0, 1, 2}},
		{125, []int{100, 1, 100}, []int{0, 2}},
		{4096, slices.Repeat([]int{500}, 17), []int{0, 8, 16}},
		{api.MaxBytes, []int{api.MaxBytes, 1, api.MaxBytes}, []int{0, 1, 2}},
		{math.MaxInt, []int{api.MaxBytes, api.MaxBytes, 1}, []int{0}},
	}
	for i, c := range cases {
		what := "case " + strconv.Itoa(i)
		f := files.New()
		l, _ := open(t, f, c.limit)
		again := f.Clone() // to which a new Log appends each record
		var want []string
		for i, n := range c.sizes {
			p := strings.Repeat(string(rune('a'+i)), n)
			want = append(want, p)
			add(t, l, p)
			other, _ := open(t, again, c.limit)
			add(t, other, p)
		}
		wantLog(t, what, l, 0, len(c.sizes), len(c.firsts))
		var names []string
		for _, first := range c.firsts {
			names = append(names, wal.Name("w", first))
		}
		if got := f.List(); !slices.Equal(got, names) {
			t.Errorf("%s: files %q, want %q", what, got, names)
		}
		if got := again.List(); !slices.Equal(got, names) {
			t.Errorf("%s, opened each time: files %q, want %q", what, got, names)
		}
		wantRecords(t, what, f, want...)
		wantRecords(t, what, again, want...)
	}
}

// TestWL2AppendWrong: payloads that have no record leave no trace, and the Log goes on.
func TestWL2AppendWrong(t *testing.T) {
	most := make([]byte, api.MaxBytes+1)
	f := files.New()
	l, _ := open(t, f, 20)
	for i := range 3 {
		wantSteps(t, "Append of what has no record", f, 0, func() {
			wantErr(t, "Append of nil", l.Append(nil), api.ErrArg)
			wantErr(t, "Append of nothing", l.Append([]byte{}), api.ErrArg)
			wantErr(t, "Append of too much", l.Append(most), api.ErrLong)
		})
		wantLog(t, "what has no record", l, 0, i, i)
		add(t, l, "a")
	}
	add(t, l, string(most[1:]))
	wantLog(t, "a great record", l, 0, 4, 4)
	must(t, l.Sync())
	must(t, l.Drop(3))
	wantRecords(t, "a great record", f, string(most[1:]))
}

// TestWL2AppendOwnCount: when a segment is full is told by what it had at Open and by the Log's own calls, whatever else
// happens to its file.
func TestWL2AppendOwnCount(t *testing.T) {
	f := files.New()
	l, _ := open(t, f, 26)
	add(t, l, "a")
	must(t, f.Append("w.000000000000", unhex(t, recordB, recordC)))
	add(t, l, "d")
	wantLog(t, "grown", l, 0, 2, 1)
	wantFiles(t, "grown", f, stored{"000000000000", unhex(t, recordA, recordB, recordC, recordD), 0})
	must(t, f.Cut("w.000000000000", 0))
	add(t, l, "b")
	wantLog(t, "cut", l, 0, 3, 2)
	wantFiles(t, "cut", f, stored{"000000000000", nil, 0}, stored{"000000000002", unhex(t, recordB), 0})
}

// TestWL2AppendEmpty: a segment without bytes is filled, however great the first record is.
func TestWL2AppendEmpty(t *testing.T) {
	for _, number := range []string{"000000000000", "000000000041"} {
		f := files.New()
		must(t, f.Append("w."+number, nil))
		l, records := open(t, f, 1)
		if len(records) != 0 {
			t.Errorf("records %q", records)
		}
		first, _ := strconv.Atoi(number)
		wantLog(t, "empty", l, first, first, 1)
		wantSteps(t, "Append", f, 1, func() { add(t, l, "three") })
		wantLog(t, "filled", l, first, first+1, 1)
		wantFiles(t, "filled", f, stored{number, unhex(t, recordThree), 0})
		add(t, l, "a")
		wantLog(t, "one more", l, first, first+2, 2)
	}
}

// TestWL2Sync: what was appended is safe, in the last segment alone: the others are it already.
func TestWL2Sync(t *testing.T) {
	f := files.New()
	l, _ := open(t, f, 26)
	wantSteps(t, "Sync of nothing", f, 0, func() { must(t, l.Sync()) })
	wantFiles(t, "nothing", f)
	add(t, l, "a", "b", "c")
	wantFiles(t, "three", f, stored{"000000000000", unhex(t, recordA, recordB), 26}, stored{"000000000002", unhex(t, recordC), 0})
	for range 2 {
		wantSteps(t, "Sync", f, 1, func() { must(t, l.Sync()) })
		wantFiles(t, "synced", f, stored{"000000000000", unhex(t, recordA, recordB), 26}, stored{"000000000002", unhex(t, recordC), 13})
	}
	add(t, l, "d")
	wantFiles(t, "one more", f, stored{"000000000000", unhex(t, recordA, recordB), 26}, stored{"000000000002", unhex(t, recordC, recordD), 13})
	again, _ := open(t, f, 26)
	wantSteps(t, "Sync of what was found", f, 1, func() { must(t, again.Sync()) })
	wantFiles(t, "what was found", f, stored{"000000000000", unhex(t, recordA, recordB), 26}, stored{"000000000002", unhex(t, recordC, recordD), 26})
}

// TestWL2Drop: segments are dropped as long as the one behind them begins at n or ahead of it.
func TestWL2Drop(t *testing.T) {
	f := files.New()
	l, _ := open(t, f, 26)
	for _, n := range []int{math.MinInt, -1, 0, 1, math.MaxInt} {
		wantSteps(t, "Drop of nothing", f, 0, func() { must(t, l.Drop(n)) })
		wantLog(t, "Drop of nothing", l, 0, 0, 0)
	}
	records := []string{"a", "b", "c", "d", "e", "f", "g"} // four segments, at 0, 2, 4 and 6
	add(t, l, records...)
	cases := []struct{ n, dropped int }{
		{math.MinInt, 0}, {-1, 0}, {0, 0}, {1, 0}, {2, 1}, {3, 1}, {4, 2}, {5, 2}, {6, 3}, {7, 3}, {8, 3}, {100, 3}, {math.MaxInt, 3},
	}
	for _, c := range cases {
		what := "Drop of " + strconv.Itoa(c.n)
		twin := f.Clone()
		found, _ := open(t, twin, 26)
		wantSteps(t, what, twin, c.dropped, func() { must(t, found.Drop(c.n)) })
		wantSteps(t, what+" again", twin, 0, func() { must(t, found.Drop(c.n)) })
		wantLog(t, what, found, 2*c.dropped, 7, 4-c.dropped)
		wantRecords(t, what, twin, records[2*c.dropped:]...)
		add(t, found, "h", "i")
		wantRecords(t, what, twin, append(slices.Clone(records[2*c.dropped:]), "h", "i")...)
		if again, _ := open(t, twin, 26); again.First() != found.First() || again.Next() != 9 || again.Segments() != found.Segments() {
			t.Errorf("%s: opened again, First %d, Next %d, Segments %d", what, again.First(), again.Next(), again.Segments())
		}
	}
	for n := range 8 {
		must(t, l.Drop(n))
		wantLog(t, "one after the other", l, min(n, 6)/2*2, 7, 4-min(n, 6)/2)
	}
	wantRecords(t, "one after the other", f, "g")
}

// TestWL2DropAppend: dropping and appending by turns, many more segments than there can be files.
func TestWL2DropAppend(t *testing.T) {
	f := files.New()
	l, _ := open(t, f, 1)
	for i := range 300 {
		add(t, l, strconv.Itoa(i))
		must(t, l.Drop(i-2))
		wantLog(t, "by turns", l, max(i-2, 0), i+1, min(i, 2)+1)
	}
	wantRecords(t, "by turns", f, "297", "298", "299")
}

// TestWL2Apart: logs of other names in the same files are others.
func TestWL2Apart(t *testing.T) {
	f := files.New()
	var logs []*wal.Log
	names := []string{"w", "v", "w.", "w.000000000000", "ww", strings.Repeat("w", 48)}
	for _, name := range names {
		l, _, err := wal.Open(f, name, 20)
		must(t, err)
		logs = append(logs, l)
	}
	for i := range 3 {
		for j, l := range logs {
			add(t, l, names[j]+strconv.Itoa(i))
		}
	}
	must(t, logs[0].Drop(2))
	for i, name := range names {
		_, records, err := wal.Open(f, name, 20)
		must(t, err)
		want := []string{name + "0", name + "1", name + "2"}
		if i == 0 {
			want = want[2:]
		}
		if got := texts(records); !slices.Equal(got, want) {
			t.Errorf("%s: %q, want %q", name, got, want)
		}
	}
}

// TestWL2Nil: a nil Log.
func TestWL2Nil(t *testing.T) {
	var l *wal.Log
	wantErr(t, "Append", l.Append([]byte("a")), api.ErrArg)
	wantErr(t, "Append of nothing", l.Append(nil), api.ErrArg)
	wantErr(t, "Append of too much", l.Append(make([]byte, api.MaxBytes+1)), api.ErrArg)
	wantErr(t, "Sync", l.Sync(), api.ErrArg)
	wantErr(t, "Drop", l.Drop(0), api.ErrArg)
	wantErr(t, "Drop", l.Drop(1), api.ErrArg)
	wantLog(t, "nil", l, 0, 0, 0)
}
