package kv_test

import (
	"bytes"
	"slices"
	"strconv"
	"testing"

	"isthmus/api"
	"isthmus/files"
	"isthmus/kv"
)

// wantStuck holds that Apply and Compact return the error want, again and again, do nothing to the files, and that the
// Store has still the keys and the size that it had.
func wantStuck(t *testing.T, what string, f *files.FS, s *kv.Store, want api.Errno, size int, pairs ...string) {
	t.Helper()
	for range 2 {
		wantSteps(t, what, f, 0, func() {
			wantErr(t, what+": Apply", s.Apply([]kv.Change{set("x", "y"), drop("a")}), want)
			wantErr(t, what+": Apply of nothing", s.Apply(nil), want)
			wantErr(t, what+": Apply of too much", s.Apply([]kv.Change{set("x", string(make([]byte, api.MaxBytes)))}), want)
			wantErr(t, what+": Compact", s.Compact(), want)
		})
	}
	wantPairs(t, what, s, pairs...)
	if s.Size() != size {
		t.Errorf("%s: Size %d, want %d", what, s.Size(), size)
	}
}

// stored is a Store with a 1 in a file of its own.
func stored(t *testing.T) (*files.FS, *kv.Store) {
	t.Helper()
	f := files.New()
	s := open(t, f)
	apply(t, s, set("a", "1"))
	return f, s
}

// TestKV2ApplyCrash: each step of an Apply crashes; the bytes are in the file, but not safe.
func TestKV2ApplyCrash(t *testing.T) {
	for allowed := range 2 {
		for keep := range len(unhex(t, setB3)) + 2 {
			f, s := stored(t)
			must(t, f.Arm(allowed))
			wantErr(t, "Apply", s.Apply([]kv.Change{set("b", "3")}), api.ErrDown)
			wantStuck(t, "crashed", f, s, api.ErrDown, len(unhex(t, setA1)), "a", "1")
			f.Start([]int{keep})
			wantStuck(t, "started again", f, s, api.ErrDown, len(unhex(t, setA1)), "a", "1")
			again := open(t, f)
			if keep < len(unhex(t, setB3)) {
				wantPairs(t, "part of it preserved", again, "a", "1")
				wantStored(t, f, again, unhex(t, setA1))
			} else {
				wantPairs(t, "all of it preserved", again, "a", "1", "b", "3")
				wantStored(t, f, again, unhex(t, setA1, setB3))
			}
		}
	}
}

// TestKV2CompactCrash: each step of a Compact crashes; the file is as it was, and the second file is what was appended to
// it at once.
func TestKV2CompactCrash(t *testing.T) {
	old := unhex(t, setA1, setA2B3, dropA, setA1)
	fresh := unhex(t, setA1, setB3)
	for allowed := range 3 {
		for keep := range len(fresh) + 1 {
			f := holding(t, old)
			s := open(t, f)
			must(t, f.Arm(allowed))
			wantErr(t, "Compact", s.Compact(), api.ErrDown)
			wantStuck(t, "crashed", f, s, api.ErrDown, len(old), "a", "1", "b", "3")
			f.Start([]int{keep})
			wantStuck(t, "started again", f, s, api.ErrDown, len(old), "a", "1", "b", "3")
			wantFile(t, f, "f", old)
			if allowed == 2 {
				keep = len(fresh) // the second file was synced
			}
			wantFile(t, f, "f.new", fresh[:keep])
			again := open(t, f)
			wantStored(t, f, again, old)
			must(t, again.Compact())
			wantStored(t, f, again, fresh)
			wantPairs(t, "compacted", again, "a", "1", "b", "3")
		}
	}
}

// TestKV2Full: a file that can't be created, by Apply and by Compact.
func TestKV2Full(t *testing.T) {
	f, s := stored(t)
	for i := range api.MaxFiles - 1 {
		must(t, f.Append("other"+strconv.Itoa(i), nil))
	}
	apply(t, s, set("b", "3"))
	size := len(unhex(t, setA1, setB3))
	wantErr(t, "Compact", s.Compact(), api.ErrFull)
	wantStuck(t, "Compact", f, s, api.ErrFull, size, "a", "1", "b", "3")
	g, err := kv.Open(f, "g")
	must(t, err)
	wantErr(t, "Apply", g.Apply([]kv.Change{set("a", "1")}), api.ErrFull)
	wantStuck(t, "Apply", f, g, api.ErrFull, 0)
	must(t, f.Remove("other0"))
	wantStuck(t, "Compact, with room again", f, s, api.ErrFull, size, "a", "1", "b", "3")
	wantStuck(t, "Apply, with room again", f, g, api.ErrFull, 0)
	s = open(t, f)
	must(t, s.Compact())
	wantPairs(t, "opened again", s, "a", "1", "b", "3")
}

// TestKV2LongFile: a file that would be too long. This ErrLong stays, other than that of a batch that is too long.
func TestKV2LongFile(t *testing.T) {
	f, s := stored(t)
	value := string(make([]byte, api.MaxBytes-7))
	for range 15 {
		apply(t, s, set("b", value))
	}
	size := len(unhex(t, setA1)) + 15*(api.MaxBytes+12)
	rest := 16*api.MaxBytes - size
	wantErr(t, "too long a batch", s.Apply([]kv.Change{set("c", value+"x")}), api.ErrLong)
	twin := f.Clone()
	other := open(t, twin)
	apply(t, other, set("b", value[:rest-12-7]))
	if other.Size() != 16*api.MaxBytes {
		t.Errorf("Size %d", other.Size())
	}
	wantErr(t, "a full file", other.Apply([]kv.Change{drop("c")}), api.ErrLong)
	wantStuck(t, "a full file", twin, other, api.ErrLong, 16*api.MaxBytes, "a", "1", "b", value[:rest-12-7])
	wantErr(t, "too long a file", s.Apply([]kv.Change{set("b", value[:rest-12-6])}), api.ErrLong)
	wantStuck(t, "too long a file", f, s, api.ErrLong, size, "a", "1", "b", value)
	s = open(t, f)
	must(t, s.Compact())
	if want := len(unhex(t, setA1)) + api.MaxBytes + 12; s.Size() != want {
		t.Errorf("compacted: Size %d, want %d", s.Size(), want)
	}
	apply(t, s, set("b", ""))
	wantPairs(t, "compacted", s, "a", "1", "b", "")
}

// TestKV2LongSecond: a second file that would be too long, since it has bytes already that are not the Store's.
func TestKV2LongSecond(t *testing.T) {
	for _, free := range []int{0, 17, 18} {
		f, s := stored(t)
		must(t, f.Append("f.new", make([]byte, 16*api.MaxBytes-free)))
		if free == 18 {
			must(t, s.Compact())
			if b, err := f.Read("f"); len(b) != 16*api.MaxBytes || !bytes.HasSuffix(b, unhex(t, setA1)) || err != nil {
				t.Errorf("%d bytes, %v", len(b), err)
			}
			if s.Size() != 18 || !slices.Equal(f.List(), []string{"f"}) {
				t.Errorf("Size %d, files %q", s.Size(), f.List())
			}
			continue
		}
		wantErr(t, "Compact", s.Compact(), api.ErrLong)
		wantStuck(t, "Compact", f, s, api.ErrLong, 18, "a", "1")
		s = open(t, f)
		wantStored(t, f, s, unhex(t, setA1))
		must(t, s.Compact())
	}
}

// TestKV2Apart: an error stays with the Store that met it alone.
func TestKV2Apart(t *testing.T) {
	f, s := stored(t)
	other := open(t, f)
	must(t, f.Arm(0))
	wantErr(t, "Apply", s.Apply([]kv.Change{set("b", "3")}), api.ErrDown)
	f.Start(nil)
	wantStuck(t, "the one", f, s, api.ErrDown, 18, "a", "1")
	apply(t, other, set("b", "3"))
	wantStored(t, f, other, unhex(t, setA1, setB3))
}
