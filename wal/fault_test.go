package wal_test

import (
	"math"
	"strconv"
	"testing"

	"isthmus/api"
	"isthmus/files"
	"isthmus/wal"
)

// wantStuck holds that Append, Sync and Drop return the error want, again and again, do nothing to the files, and leave
// what the Log tells of itself.
func wantStuck(t *testing.T, what string, f *files.FS, l *wal.Log, want api.Errno) {
	t.Helper()
	first, next, segments := l.First(), l.Next(), l.Segments()
	for range 2 {
		wantSteps(t, what, f, 0, func() {
			wantErr(t, what+": Append", l.Append([]byte("x")), want)
			wantErr(t, what+": Append of nothing", l.Append(nil), want)
			wantErr(t, what+": Append of too much", l.Append(make([]byte, api.MaxBytes+1)), want)
			wantErr(t, what+": Sync", l.Sync(), want)
			wantErr(t, what+": Drop", l.Drop(math.MaxInt), want)
			wantErr(t, what+": Drop of nothing", l.Drop(-1), want)
		})
	}
	wantLog(t, what, l, first, next, segments)
}

// three is a Log with the records a, b and c in segments of their own, the last of which is not safe.
func three(t *testing.T) (*files.FS, *wal.Log) {
	t.Helper()
	f := files.New()
	l, _ := open(t, f, 20)
	add(t, l, "a", "b", "c")
	return f, l
}

// crashed holds that a call crashes, and that the Log is stuck from then on, also when the files are up again.
func crashed(t *testing.T, what string, f *files.FS, l *wal.Log, keep []int, call func() error) {
	t.Helper()
	wantErr(t, what, call(), api.ErrDown)
	if !f.Down() {
		t.Errorf("%s: the files are up", what)
	}
	wantErr(t, what+", down: Append of nothing", l.Append(nil), api.ErrDown)
	wantErr(t, what+", down: Drop of nothing", l.Drop(-1), api.ErrDown)
	f.Start(keep)
	wantStuck(t, what+", started again", f, l, api.ErrDown)
}

// TestWL2AppendCrash: a crash while a record is appended to the last segment; its bytes are in the file, but not safe.
func TestWL2AppendCrash(t *testing.T) {
	whole := unhex(t, recordA, recordB)
	for keep := range 14 {
		f := files.New()
		l, _ := open(t, f, 26)
		add(t, l, "a")
		must(t, l.Sync())
		must(t, f.Arm(0))
		crashed(t, "Append", f, l, []int{keep}, func() error { return l.Append([]byte("b")) })
		wantLog(t, "Append", l, 0, 1, 1)
		wantFiles(t, "Append", f, stored{"000000000000", whole[:13+keep], 13 + keep})
		again, records := open(t, f, 26)
		wantLog(t, "opened again", again, 0, len(records), 1)
		if keep < 13 && len(records) != 1 || keep == 13 && len(records) != 2 {
			t.Errorf("%d bytes preserved: records %q", keep, records)
		}
	}
}

// TestWL2BeginCrash: a crash at each step of an Append that begins a segment: the one ahead is synced first, and only then
// is there another one.
func TestWL2BeginCrash(t *testing.T) {
	a, b := segment(t, "000000000000", recordA), segment(t, "000000000001", recordB)
	f, l := three(t)
	must(t, f.Arm(0))
	crashed(t, "Sync", f, l, []int{5}, func() error { return l.Append([]byte("d")) })
	wantLog(t, "Sync", l, 0, 3, 3)
	wantFiles(t, "Sync", f, a, b, segment(t, "000000000002", recordC[:10]))

	f, l = three(t)
	must(t, f.Arm(1))
	crashed(t, "Append", f, l, []int{5}, func() error { return l.Append([]byte("d")) })
	wantLog(t, "Append", l, 0, 3, 4)
	c := segment(t, "000000000002", recordC)
	wantFiles(t, "Append", f, a, b, c, segment(t, "000000000003", recordD[:10]))
	again, _ := open(t, f, 20)
	wantLog(t, "opened again", again, 0, 3, 4)
	add(t, again, "d")
	wantFiles(t, "opened again", f, a, b, c, stored{"000000000003", unhex(t, recordD), 0})
}

// TestWL2FirstCrash: a crash at the first Append of all.
func TestWL2FirstCrash(t *testing.T) {
	f := files.New()
	l, _ := open(t, f, 20)
	must(t, f.Arm(0))
	crashed(t, "the first Append", f, l, nil, func() error { return l.Append([]byte("a")) })
	wantLog(t, "the first Append", l, 0, 0, 1)
	wantFiles(t, "the first Append", f, segment(t, "000000000000"))
}

// TestWL2SyncCrash: a crash at a Sync.
func TestWL2SyncCrash(t *testing.T) {
	f, l := three(t)
	must(t, f.Arm(0))
	crashed(t, "Sync", f, l, nil, l.Sync)
	wantLog(t, "Sync", l, 0, 3, 3)
	wantFiles(t, "Sync", f, segment(t, "000000000000", recordA), segment(t, "000000000001", recordB), segment(t, "000000000002"))
}

// TestWL2DropCrash: a crash at each step of a Drop leaves the segments that it had not come to.
func TestWL2DropCrash(t *testing.T) {
	l3 := []stored{segment(t, "000000000000", recordA), segment(t, "000000000001", recordB), segment(t, "000000000002", recordC)}
	for allowed := range 2 {
		f, l := three(t)
		must(t, f.Arm(allowed))
		crashed(t, "Drop", f, l, []int{13}, func() error { return l.Drop(2) })
		wantLog(t, "Drop", l, allowed, 3, 3-allowed)
		wantFiles(t, "Drop", f, l3[allowed:]...)
		wantRecords(t, "Drop", f, []string{"a", "b", "c"}[allowed:]...)
	}
	f, l := three(t)
	must(t, f.Arm(2))
	must(t, l.Drop(3))
	wantLog(t, "Drop", l, 2, 3, 1)
}

// TestWL2Gone: segments that are gone from the files, so that they can't be synced or removed.
func TestWL2Gone(t *testing.T) {
	f, l := three(t)
	must(t, f.Remove("w.000000000000"))
	wantErr(t, "Drop", l.Drop(2), api.ErrNone)
	wantLog(t, "Drop", l, 0, 3, 3)
	wantStuck(t, "Drop", f, l, api.ErrNone)

	f, l = three(t)
	must(t, f.Remove("w.000000000001"))
	wantErr(t, "Drop", l.Drop(2), api.ErrNone)
	wantLog(t, "Drop of the second", l, 1, 3, 2)
	wantStuck(t, "Drop of the second", f, l, api.ErrNone)

	f, l = three(t)
	must(t, f.Remove("w.000000000002"))
	wantErr(t, "Sync", l.Sync(), api.ErrNone)
	wantStuck(t, "Sync", f, l, api.ErrNone)

	f, l = three(t)
	must(t, f.Remove("w.000000000002"))
	wantErr(t, "Append", l.Append([]byte("d")), api.ErrNone)
	wantLog(t, "Append", l, 0, 3, 3)
	wantStuck(t, "Append", f, l, api.ErrNone)
}

// TestWL2Full: a segment that can't be created counts all the same.
func TestWL2Full(t *testing.T) {
	f := files.New()
	l, _ := open(t, f, 20)
	for i := range api.MaxFiles {
		add(t, l, strconv.Itoa(i%10))
	}
	wantErr(t, "Append", l.Append([]byte("x")), api.ErrFull)
	wantLog(t, "Append", l, 0, api.MaxFiles, api.MaxFiles+1)
	wantStuck(t, "Append", f, l, api.ErrFull)
	must(t, f.Remove("w.000000000000"))
	wantStuck(t, "Append, with room again", f, l, api.ErrFull)
	l, _ = open(t, f, 20)
	add(t, l, "x")
	wantLog(t, "opened again", l, 1, api.MaxFiles+1, api.MaxFiles)
	if n, err := f.Safe(wal.Name("w", api.MaxFiles-1)); n != 13 || err != nil {
		t.Errorf("the segment ahead of a new one: %d bytes are safe, %v", n, err)
	}

	l, _, err := wal.Open(f, "v", 20)
	must(t, err)
	wantErr(t, "the first Append", l.Append([]byte("x")), api.ErrFull)
	wantLog(t, "the first Append", l, 0, 0, 1)
	wantStuck(t, "the first Append", f, l, api.ErrFull)
}

// TestWL2LongFile: a segment that would be longer than a file can be. This ErrLong stays, other than that of a payload.
func TestWL2LongFile(t *testing.T) {
	f := files.New()
	must(t, f.Append("w.000000000000", nil))
	l, _ := open(t, f, math.MaxInt)
	long := make([]byte, api.MaxBytes)
	for range 15 {
		must(t, l.Append(long))
	}
	wantErr(t, "too much", l.Append(append(long, 0)), api.ErrLong)
	must(t, l.Append(long[:api.MaxBytes-16*12]))
	wantLog(t, "a full file", l, 0, 16, 1)
	must(t, l.Sync())
	wantErr(t, "Append", l.Append([]byte("x")), api.ErrLong)
	wantLog(t, "Append", l, 0, 16, 1)
	wantStuck(t, "Append", f, l, api.ErrLong)
	l, records := open(t, f, 16*api.MaxBytes)
	wantLog(t, "opened again", l, 0, 16, 1)
	if len(records) != 16 || len(records[15]) != api.MaxBytes-16*12 {
		t.Errorf("opened again: %d records", len(records))
	}
	add(t, l, "x")
	wantLog(t, "a smaller limit", l, 0, 17, 2)
}

// TestWL2LastNumber: behind the greatest number there is no name for a segment.
func TestWL2LastNumber(t *testing.T) {
	last := 999_999_999_999
	f := holding(t, segment(t, "999999999998", recordA))
	l, _ := open(t, f, 20)
	wantLog(t, "one ahead", l, last-1, last, 1)
	add(t, l, "b")
	wantLog(t, "the last", l, last-1, last+1, 2)
	must(t, l.Drop(last))
	wantErr(t, "Append", l.Append([]byte("c")), api.ErrArg)
	wantLog(t, "Append", l, last, last+1, 2)
	wantStuck(t, "Append", f, l, api.ErrArg)
	wantFiles(t, "Append", f, segment(t, "999999999999", recordB))
	l, _ = open(t, f, 26)
	add(t, l, "c")
	wantLog(t, "a greater limit", l, last, last+2, 1)
	wantRecords(t, "a greater limit", f, "b", "c")
}

// TestWL2Alone: an error stays with the Log that met it alone.
func TestWL2Alone(t *testing.T) {
	f, l := three(t)
	other, _ := open(t, f, 20)
	must(t, f.Arm(0))
	crashed(t, "Sync", f, l, []int{13}, l.Sync)
	add(t, other, "d")
	must(t, other.Sync())
	must(t, other.Drop(2))
	wantStuck(t, "the one", f, l, api.ErrDown)
	wantRecords(t, "the other", f, "c", "d")
}
