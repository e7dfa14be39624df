package wal_test

import (
	"bytes"
	"math"
	"slices"
	"strconv"
	"strings"
	"testing"

	"isthmus/api"
	"isthmus/files"
	"isthmus/wal"
)

// holding is a file system with these files, all bytes of them safe.
func holding(t *testing.T, l ...stored) *files.FS {
	t.Helper()
	f := files.New()
	for _, x := range l {
		must(t, f.Append("w."+x.number, x.bytes))
		must(t, f.Sync("w."+x.number))
	}
	return f
}

// segment is a file of records, all of them safe.
func segment(t *testing.T, number string, records ...string) stored {
	t.Helper()
	b := unhex(t, records...)
	return stored{number, b, len(b)}
}

// wantNoOpen holds that Open returns the error want, nothing beside it, and does nothing to the files.
func wantNoOpen(t *testing.T, what string, f *files.FS, name string, limit int, want api.Errno) {
	t.Helper()
	wantSteps(t, what, f, 0, func() {
		l, records, err := wal.Open(f, name, limit)
		wantErr(t, "Open: "+what, err, want)
		if l != nil || records != nil {
			t.Errorf("Open: %s: a Log or records beside the error", what)
		}
	})
}

// TestWL1OpenArg: limits and names that can't be, whatever is in the files.
func TestWL1OpenArg(t *testing.T) {
	f := holding(t, segment(t, "000000000000", recordA))
	down := f.Clone()
	must(t, down.Arm(0))
	wantErr(t, "a crash", down.Sync("w.000000000000"), api.ErrDown)
	spoilt := holding(t, stored{number: "000000000000", bytes: make([]byte, 100)})
	for what, f := range map[string]*files.FS{"up": f, "down": down, "spoilt": spoilt, "nil": nil} {
		for _, limit := range []int{0, -1, -20, math.MinInt} {
			wantNoOpen(t, what+", limit "+strconv.Itoa(limit), f, "w", limit, api.ErrArg)
		}
		for _, name := range []string{"", " ", "\x00", "\x1f", "\x7f", "\xff", "a b", "w ", " w", "w\n", "é", "w\x80", "\xc3", strings.Repeat("w", 49), strings.Repeat("w", 64), strings.Repeat("w", 1000)} {
			wantNoOpen(t, what+", "+strconv.Quote(name), f, name, 20, api.ErrArg)
		}
	}
}

// TestWL1OpenEdges: each byte that a name can have, the longest name, and the least and the greatest limit.
func TestWL1OpenEdges(t *testing.T) {
	for b := range 256 {
		l, _, err := wal.Open(files.New(), "w"+string([]byte{byte(b)}), 20)
		if good := b >= 33 && b <= 126; good != (err == nil) || good != (l != nil) {
			t.Errorf("a name with byte %d: %v", b, err)
		}
	}
	for _, name := range []string{"!", "~", ".", "-", strings.Repeat("n", 48), strings.Repeat("~", 48)} {
		for _, limit := range []int{1, 4096, math.MaxInt} {
			f := files.New()
			l, _, err := wal.Open(f, name, limit)
			must(t, err)
			add(t, l, "a", "b")
			_, records, err := wal.Open(f, name, limit)
			must(t, err)
			if got := texts(records); !slices.Equal(got, []string{"a", "b"}) || f.List()[0] != name+".000000000000" {
				t.Errorf("%s, limit %d: %q in %q", name, limit, got, f.List())
			}
		}
	}
}

// TestWL1OpenNoFiles: files that are down, or missing altogether, have no segments to be read: only what is done then fails.
func TestWL1OpenNoFiles(t *testing.T) {
	down := files.New()
	must(t, down.Arm(0))
	wantErr(t, "a crash", down.Append("other", nil), api.ErrDown)
	for want, f := range map[api.Errno]*files.FS{api.ErrDown: down, api.ErrArg: nil} {
		l, records := open(t, f, 20)
		wantLog(t, "no files", l, 0, 0, 0)
		if len(records) != 0 {
			t.Errorf("no files: records %q", records)
		}
		must(t, l.Sync())
		must(t, l.Drop(1))
		wantErr(t, "Append", l.Append([]byte("a")), want)
		wantLog(t, "no files, and an Append", l, 0, 0, 1)
		wantErr(t, "Sync", l.Sync(), want)
	}
}

// TestWL1OpenDown: segments that can't be read.
func TestWL1OpenDown(t *testing.T) {
	good := holding(t, segment(t, "000000000000", recordA), segment(t, "000000000001", recordB))
	gap := holding(t, segment(t, "000000000000", recordA), segment(t, "000000000002", recordB))
	spoilt := holding(t, stored{number: "000000000000", bytes: make([]byte, 100)})
	for _, f := range []*files.FS{good, gap, spoilt} {
		must(t, f.Arm(0))
		wantErr(t, "a crash", f.Remove("w.000000000000"), api.ErrDown)
		wantNoOpen(t, "down", f, "w", 20, api.ErrDown)
		wantNoOpen(t, "down", f, "w", 0, api.ErrArg)
	}
}

// TestWL1OpenRecords: all records, in order, and what goes on behind them.
func TestWL1OpenRecords(t *testing.T) {
	cases := []struct {
		what           string
		files          []stored
		want           []string
		first, next, n int
	}{
		{"no segment", nil, nil, 0, 0, 0},
		{"one without records", []stored{segment(t, "000000000000")}, nil, 0, 0, 1},
		{"a later one without records", []stored{segment(t, "000000000009")}, nil, 9, 9, 1},
		{"one", []stored{segment(t, "000000000000", recordA, recordThree)}, []string{"a", "three"}, 0, 2, 1},
		{"a later one", []stored{segment(t, "000000000041", recordB, recordBytes)}, []string{"b", "\x00\xff"}, 41, 43, 1},
		{"two", []stored{segment(t, "000000000000", recordA, recordB), segment(t, "000000000002", recordC)}, []string{"a", "b", "c"}, 0, 3, 2},
		{"two, the last without records", []stored{segment(t, "000000000000", recordA, recordB), segment(t, "000000000002")}, []string{"a", "b"}, 0, 2, 2},
		{"three later ones", []stored{segment(t, "000000000009", recordC), segment(t, "000000000010", recordB), segment(t, "000000000011", recordA, recordA)}, []string{"c", "b", "a", "a"}, 9, 13, 3},
		{"the last one", []stored{segment(t, "999999999998", recordA), segment(t, "999999999999", recordB, recordC)}, []string{"a", "b", "c"}, 999_999_999_998, 1_000_000_000_001, 2},
	}
	for _, c := range cases {
		f := holding(t, c.files...)
		wantSteps(t, c.what, f, 0, func() {
			l, records := open(t, f, 20)
			wantLog(t, c.what, l, c.first, c.next, c.n)
			if !slices.Equal(records, c.want) {
				t.Errorf("%s: %q, want %q", c.what, records, c.want)
			}
			wantFiles(t, c.what, f, c.files...)
		})
		l, _ := open(t, f, 1000)
		add(t, l, "d")
		wantLog(t, c.what+", and one more", l, c.first, c.next+1, max(c.n, 1))
		wantRecords(t, c.what+", and one more", f, append(c.want, "d")...)
	}
}

// TestWL1OpenOthers: files whose names are like those of segments, but are none.
func TestWL1OpenOthers(t *testing.T) {
	f := holding(t, segment(t, "000000000003", recordA))
	others := []string{
		"w", "w.", "w.3", "w.4", "w.00000000004", "w.0000000000004", "w.1000000000000", "w.+00000000004", "w.-00000000004",
		"w.00000000000a", "w.00000000000x", "w.0x0000000004", "w.000_00000004", "w.000000000004.", "w.000000000004.new",
		"w.000000000004.000000000000", "w..000000000004", "w000000000004", "w-000000000004", "000000000004", ".000000000004",
		"v.000000000004", "x.000000000004", "ww.000000000004", "W.000000000004", "w.w.000000000004", "w.00000000000", "w.4e0000000000",
	}
	for _, name := range others {
		must(t, f.Append(name, []byte("this is not a record")))
	}
	l, records := open(t, f, 20)
	wantLog(t, "others", l, 3, 4, 1)
	if !slices.Equal(records, []string{"a"}) {
		t.Errorf("others: %q", records)
	}
	add(t, l, "b")
	must(t, l.Drop(4))
	for _, name := range others {
		if b, err := f.Read(name); string(b) != "this is not a record" || err != nil {
			t.Errorf("%s: %q, %v", name, b, err)
		}
	}
	wantRecords(t, "others", f, "b")
}

// TestWL1OpenHalt: segments that do not follow each other, or are spoilt, or torn ahead of the last one. Nothing is cut
// off then, even if the last one is torn.
func TestWL1OpenHalt(t *testing.T) {
	cases := map[string][]stored{
		"a gap":                        {segment(t, "000000000000", recordA), segment(t, "000000000002", recordB)},
		"a great gap":                  {segment(t, "000000000000", recordA), segment(t, "999999999999", recordB)},
		"an overlap":                   {segment(t, "000000000000", recordA, recordB), segment(t, "000000000001", recordB)},
		"nothing ahead":                {segment(t, "000000000000"), segment(t, "000000000001", recordB)},
		"nothing ahead, later":         {segment(t, "000000000004"), segment(t, "000000000005", recordB)},
		"a gap behind two":             {segment(t, "000000000004", recordA), segment(t, "000000000005", recordB), segment(t, "000000000007", recordC)},
		"a gap ahead of two":           {segment(t, "000000000004", recordA), segment(t, "000000000006", recordB), segment(t, "000000000007", recordC)},
		"a gap, and torn":              {segment(t, "000000000000", recordA), segment(t, "000000000002", recordB[:10])},
		"a gap, and nothing":           {segment(t, "000000000000", recordA), segment(t, "000000000002")},
		"an overlap, and torn":         {segment(t, "000000000000", recordA, recordB), segment(t, "000000000001", recordB[:10])},
		"torn in the first":            {segment(t, "000000000000", recordA, recordB[:10]), segment(t, "000000000001", recordB)},
		"torn in the first, and gap":   {segment(t, "000000000000", recordA, recordB[:10]), segment(t, "000000000002", recordC)},
		"torn in both":                 {segment(t, "000000000000", recordA, recordB[:10]), segment(t, "000000000001", recordB[:10])},
		"torn in the first of nothing": {segment(t, "000000000000", recordA[:10]), segment(t, "000000000001", recordB)},
		"torn in the second":           {segment(t, "000000000000", recordA), segment(t, "000000000001", recordA[:4]), segment(t, "000000000002", recordB)},
		"spoilt, and torn":             {segment(t, "000000000000", recordA, recordB[:24]+"00"), segment(t, "000000000001", recordB[:10])},
		"noughts":                      {{"000000000000", make([]byte, 100), 100}},
		"noughts behind":               {segment(t, "000000000000", recordA, "0000000000000000")},
		"text":                         {{"000000000000", []byte("this is not a record"), 20}},
		"a record of nothing":          {segment(t, "000000000000", "000000002144df1c00000000")},
	}
	for what, l := range cases {
		f := holding(t, l...)
		wantNoOpen(t, what, f, "w", 20, api.ErrHalt)
		wantFiles(t, what, f, l...)
		must(t, f.Arm(0))
		wantNoOpen(t, what+", where a step would crash", f, "w", 20, api.ErrHalt)
	}
}

// TestWL1OpenSpoilt: each byte of a record spoilt, in the last segment and ahead of it, with good records around it.
func TestWL1OpenSpoilt(t *testing.T) {
	good, whole := unhex(t, recordA), unhex(t, recordThree)
	for at := range whole {
		for _, bit := range []byte{1, 128} {
			what := "bit " + strconv.Itoa(int(bit)) + " of byte " + strconv.Itoa(at)
			b := bytes.Clone(whole)
			b[at] ^= bit
			for _, l := range [][]stored{
				{{"000000000000", b, len(b)}},
				{{"000000000000", slices.Concat(good, b), len(good) + len(b)}},
				{{"000000000000", slices.Concat(b, good), len(good) + len(b)}},
				{{"000000000000", slices.Concat(b, good[:5]), 5 + len(b)}},
				{{"000000000000", good, len(good)}, {"000000000001", b, len(b)}},
				{{"000000000000", b, len(b)}, {"000000000001", good, len(good)}},
			} {
				f := holding(t, l...)
				wantNoOpen(t, what, f, "w", 20, api.ErrHalt)
				wantFiles(t, what, f, l...)
			}
		}
	}
}

// TestWL1OpenTorn: a last segment that ends anywhere in a record is truncated at its beginning, in one step, and is filled
// then as if the record had never been there.
func TestWL1OpenTorn(t *testing.T) {
	last := unhex(t, recordThree)
	for n, ahead := range []stored{segment(t, "000000000001"), segment(t, "000000000001", recordB), segment(t, "000000000001", recordB, recordC)} {
		for size := 1; size < len(last); size++ {
			for safe := range 2 {
				what := strconv.Itoa(n) + " records and " + strconv.Itoa(size) + " bytes"
				f := holding(t, segment(t, "000000000000", recordA), ahead)
				must(t, f.Append("w.000000000001", last[:size]))
				if safe == 1 {
					must(t, f.Sync("w.000000000001"))
				}
				limit := max(len(ahead.bytes)+13, 14)
				var l *wal.Log
				wantSteps(t, what, f, 1, func() {
					var records []string
					l, records = open(t, f, limit)
					if !slices.Equal(records, []string{"a", "b", "c"}[:n+1]) {
						t.Errorf("%s: records %q", what, records)
					}
				})
				wantLog(t, what, l, 0, n+1, 2)
				wantFiles(t, what, f, segment(t, "000000000000", recordA), ahead)
				wantSteps(t, what+": Append", f, 1, func() { add(t, l, "d") })
				wantLog(t, what+", and one more", l, 0, n+2, 2)
				wantFiles(t, what+", and one more", f, segment(t, "000000000000", recordA), stored{"000000000001", slices.Concat(ahead.bytes, unhex(t, recordD)), len(ahead.bytes)})
				add(t, l, "z")
				wantLog(t, what+", and two more", l, 0, n+3, 3)
			}
		}
	}
}

// TestWL1OpenTornCrash: a crash at the step that truncates the segment leaves it as it was.
func TestWL1OpenTornCrash(t *testing.T) {
	torn := segment(t, "000000000001", recordB, recordC[:24])
	f := holding(t, segment(t, "000000000000", recordA), torn)
	must(t, f.Arm(0))
	wantNoOpen(t, "a crash", f, "w", 20, api.ErrDown)
	wantNoOpen(t, "after a crash", f, "w", 20, api.ErrDown)
	f.Start(nil)
	wantFiles(t, "started again", f, segment(t, "000000000000", recordA), torn)
	l, records := open(t, f, 20)
	wantLog(t, "started again", l, 0, 2, 2)
	if !slices.Equal(records, []string{"a", "b"}) {
		t.Errorf("started again: records %q", records)
	}
}

// TestWL1OpenFresh: what Open returns shares no memory with the files, nor one record with another.
func TestWL1OpenFresh(t *testing.T) {
	f := holding(t, segment(t, "000000000000", recordA, recordB), segment(t, "000000000002", recordC))
	l, records, err := wal.Open(f, "w", 20)
	must(t, err)
	for i := range records {
		records[i] = append(records[i], "xxxxxxxxxxxxxxxxxxxxxxxx"...)
		records[i][0] = 'y'
	}
	if got := texts(records); !slices.Equal(got, slices.Repeat([]string{"yxxxxxxxxxxxxxxxxxxxxxxxx"}, 3)) {
		t.Errorf("changed: %q", got)
	}
	add(t, l, "d")
	wantRecords(t, "changed", f, "a", "b", "c", "d")
}

// TestWL1OpenMany: as many segments as there can be files, of records up to the longest.
func TestWL1OpenMany(t *testing.T) {
	f := files.New()
	l, _ := open(t, f, 1)
	var want []string
	for i := range api.MaxFiles {
		p := strings.Repeat(string(rune('0'+i)), api.MaxBytes>>(i%21))
		want = append(want, p)
		add(t, l, p)
	}
	wantLog(t, "many", l, 0, api.MaxFiles, api.MaxFiles)
	wantRecords(t, "many", f, want...)
}
