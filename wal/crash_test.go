package wal_test

import (
	"math/rand"
	"slices"
	"strconv"
	"strings"
	"testing"

	"isthmus/api"
	"isthmus/files"
	"isthmus/wal"
)

// life is a Log that goes through crashes, and what it must hold.
type life struct {
	t       *testing.T
	f       *files.FS
	limit   int
	records []string // all that were appended, those that are dropped too; those that a crash took are not among them
	synced  int      // how many of them must be there
	gone    int      // how many of them Drop may have removed
}

// open is a Log, or nil after a crash. What it holds goes on from what is known.
func (x *life) open() *wal.Log {
	x.t.Helper()
	l, records, err := wal.Open(x.f, "w", x.limit)
	if err != nil {
		if !x.f.Down() {
			x.t.Fatalf("Open: %v", err)
		}
		wantErr(x.t, "Open", err, api.ErrDown)
		return nil
	}
	x.check(l, texts(records))
	return l
}

// check holds that these are records from the first one on that can't be dropped, or from one ahead of it, up to the last
// one that was synced, or to one behind it. From then on they are what there is.
func (x *life) check(l *wal.Log, records []string) {
	x.t.Helper()
	first, next := l.First(), l.Next()
	if next != first+len(records) || first > x.gone || next < x.synced || next > len(x.records) {
		x.t.Fatalf("First %d, Next %d, %d records; %d of %d were synced, and %d may be gone", first, next, len(records), x.synced, len(x.records), x.gone)
	}
	if !slices.Equal(records, x.records[first:next]) {
		x.t.Fatalf("records %q, want %q", records, x.records[first:next])
	}
	x.records = x.records[:next]
}

// up holds that a call had no error, or crashed, and tells which.
func (x *life) up(what string, err error) bool {
	x.t.Helper()
	if err != nil {
		wantErr(x.t, what, err, api.ErrDown)
	}
	if (err != nil) != x.f.Down() {
		x.t.Fatalf("%s: %v, down %v", what, err, x.f.Down())
	}
	return err == nil
}

// append appends a record, which may be there even after an error.
func (x *life) append(l *wal.Log, p string) bool {
	x.t.Helper()
	if l.Next() != len(x.records) {
		x.t.Fatalf("Next %d, want %d", l.Next(), len(x.records))
	}
	x.records = append(x.records, p)
	return x.up("Append", l.Append([]byte(p)))
}

// sync syncs: what was appended must be there from then on.
func (x *life) sync(l *wal.Log) bool {
	x.t.Helper()
	if !x.up("Sync", l.Sync()) {
		return false
	}
	x.synced = len(x.records)
	return true
}

// drop drops: what is ahead of n may be gone from then on, but not more.
func (x *life) drop(l *wal.Log, n int) bool {
	x.t.Helper()
	x.gone = max(x.gone, min(n, len(x.records)))
	return x.up("Drop", l.Drop(n))
}

// restart is a Start, and a Log that must be there then.
func (x *life) restart(keep ...int) *wal.Log {
	x.t.Helper()
	x.f.Start(keep)
	l := x.open()
	if l == nil {
		x.t.Fatal("Open: down")
	}
	return l
}

// run does some of everything, with records no two of which are the same, until the files crash.
func (x *life) run(l *wal.Log, name string) {
	x.t.Helper()
	for i := range 5 {
		if !x.append(l, name+strconv.Itoa(i)) || i%2 == 1 && !x.sync(l) || i == 3 && !x.drop(l, l.Next()-2) {
			return
		}
	}
}

// TestWL3Crash: a crash at each step, with each number of bytes preserved of the last segment, then another one at each of
// the first steps (that of Open among them), then a third one.
func TestWL3Crash(t *testing.T) {
	for _, limit := range []int{1, 30, 45, 1000} {
		for first := range 14 {
			for second := range 7 {
				for keep := -1; keep < 48; keep++ {
					x := &life{t: t, f: files.New(), limit: limit}
					for i, allowed := range []int{first, second, (keep + 1) % 3} {
						must(t, x.f.Arm(allowed))
						if l := x.open(); l != nil {
							x.run(l, strings.Repeat("r", i+1))
						}
						x.f.Start([]int{keep - i})
					}
					l := x.restart()
					x.run(l, "last")
					if x.restart(); x.synced != len(x.records) {
						t.Fatalf("%d records, and %d are synced", len(x.records), x.synced)
					}
				}
			}
		}
	}
}

// some are bytes that a Start is told to preserve.
func some(r *rand.Rand) []int {
	keep := make([]int, r.Intn(4))
	for i := range keep {
		keep[i] = r.Intn(150) - 10
	}
	return keep
}

// TestWL3Random: many crashes, whatever they preserve, beside other files.
func TestWL3Random(t *testing.T) {
	for seed := range 100 {
		r := rand.New(rand.NewSource(int64(seed)))
		x := &life{t: t, f: files.New(), limit: 1 + r.Intn(120)}
		for range 60 {
			must(t, x.f.Append("a-file-ahead", make([]byte, r.Intn(5))))
			must(t, x.f.Arm(r.Intn(24)))
			for l := x.open(); l != nil; {
				p := strconv.Itoa(r.Int()) + strings.Repeat("p", r.Intn(50))
				if r.Intn(4) == 0 && !x.sync(l) || r.Intn(6) == 0 && !x.drop(l, r.Intn(l.Next()+2)) || !x.append(l, p) {
					break
				}
				// Files that are left over would fill the disk.
				if l.Segments() > 20 && !x.drop(l, l.Next()) {
					break
				}
			}
			x.f.Start(some(r))
		}
		l := x.restart()
		x.append(l, "last")
		x.sync(l)
		x.restart()
		if x.synced != len(x.records) || x.records[len(x.records)-1] != "last" {
			t.Fatalf("%d records, and %d are synced", len(x.records), x.synced)
		}
	}
}

// TestWL3Safe: what Sync returned nil for, and what is ahead of the last segment, is there whatever a Start preserves.
func TestWL3Safe(t *testing.T) {
	for limit := 1; limit < 60; limit += 7 {
		x := &life{t: t, f: files.New(), limit: limit}
		l := x.open()
		begun := 0 // the number with which the last segment begins
		for i := range 30 {
			segments := l.Segments()
			x.append(l, strconv.Itoa(i))
			if l.Segments() > segments {
				begun = i
			}
			x.synced = max(x.synced, begun)
			if i%5 == 4 {
				x.sync(l)
			}
			twin := life{t: t, f: x.f.Clone(), limit: limit, records: slices.Clone(x.records), synced: x.synced}
			twin.restart()
			if len(twin.records) != x.synced {
				t.Fatalf("limit %d: %d of %d records, want %d", limit, len(twin.records), len(x.records), x.synced)
			}
		}
	}
}

// TestWL3Open: records that were not synced, and are there at an Open without a crash, are synced with those behind them.
func TestWL3Open(t *testing.T) {
	f := files.New()
	l, _ := open(t, f, 26)
	add(t, l, "a")
	l, _ = open(t, f, 26)
	add(t, l, "b", "c")
	l, _ = open(t, f, 26)
	must(t, l.Sync())
	f.Start(nil)
	wantRecords(t, "synced", f, "a", "b", "c")
}
