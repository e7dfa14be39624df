package files_test

import (
	"math"
	"slices"
	"strconv"
	"testing"

	"isthmus/api"
	"isthmus/files"
)

// steps are the calls that are counted, on the files of three.
func steps(f *files.FS) map[string]func() error {
	return map[string]func() error{
		"Append":           func() error { return f.Append("f", []byte("xy")) },
		"Append of none":   func() error { return f.Append("f", nil) },
		"Append to no one": func() error { return f.Append("new", []byte("xy")) },
		"Sync":             func() error { return f.Sync("f") },
		"Sync of synced":   func() error { return f.Sync("g") },
		"Rename":           func() error { return f.Rename("f", "new") },
		"Rename over":      func() error { return f.Rename("f", "g") },
		"Rename to itself": func() error { return f.Rename("f", "f") },
		"Remove":           func() error { return f.Remove("f") },
		"Cut":              func() error { return f.Cut("f", 1) },
		"Cut of none":      func() error { return f.Cut("f", 6) },
	}
}

// three is a file system with the files f (abcdef, of which abc is safe), g (gh, all safe) and h (ijkl, none safe).
func three(t *testing.T) *files.FS {
	t.Helper()
	f := abcdef(t)
	must(t, f.Append("g", []byte("gh")))
	must(t, f.Sync("g"))
	must(t, f.Append("h", []byte("ijkl")))
	return f
}

// crash lets f crash without effect.
func crash(t *testing.T, f *files.FS) {
	t.Helper()
	must(t, f.Arm(0))
	wantErr(t, "the step that crashes", f.Remove("f"), api.ErrDown)
	if !f.Down() {
		t.Fatal("it is not down")
	}
}

func TestFS2Steps(t *testing.T) {
	for what := range steps(nil) {
		f := three(t)
		was := f.Steps()
		must(t, steps(f)[what]())
		if f.Steps() != was+1 || f.Down() {
			t.Errorf("%s: Steps went from %d to %d", what, was, f.Steps())
		}
	}
	f := three(t)
	was := f.Steps()
	f.Read("f")
	f.Safe("f")
	f.List()
	f.Arm(100)
	f.Down()
	f.Clone()
	f.Start(nil)
	f.Cut("f", 100)
	f.Remove("none")
	f.Append("", nil)
	if f.Steps() != was {
		t.Errorf("calls that are no steps: Steps went from %d to %d", was, f.Steps())
	}
}

// wantThree holds that the files of three are as they were, but for f.
func wantThree(t *testing.T, f *files.FS, text string, names ...string) {
	t.Helper()
	wantFile(t, f, "f", text, len(text))
	wantFile(t, f, "g", "gh", 2)
	wantFile(t, f, "h", "ijkl", 4)
	wantList(t, f, 6, names...)
}

// TestFS2Crash: the step that is not allowed any more crashes; only the bytes of an Append are there then.
func TestFS2Crash(t *testing.T) {
	for what := range steps(nil) {
		f := three(t)
		must(t, f.Arm(0))
		wantErr(t, what, steps(f)[what](), api.ErrDown)
		if !f.Down() || f.Steps() != 6 {
			t.Errorf("%s: Down is %v, Steps %d", what, f.Down(), f.Steps())
		}
		f.Start([]int{100, 100, 100})
		switch what {
		case "Append":
			wantThree(t, f, "abcdefxy", "f", "g", "h")
		case "Append to no one":
			wantThree(t, f, "abcdef", "f", "g", "h", "new")
			wantFile(t, f, "new", "xy", 2)
		default:
			wantThree(t, f, "abcdef", "f", "g", "h")
		}
	}
}

// TestFS2CrashNotSafe: what the step that crashed left is not safe.
func TestFS2CrashNotSafe(t *testing.T) {
	for what := range steps(nil) {
		f := three(t)
		must(t, f.Arm(0))
		wantErr(t, what, steps(f)[what](), api.ErrDown)
		f.Start(nil)
		wantFile(t, f, "f", "abc", 3)
		wantFile(t, f, "g", "gh", 2)
		wantFile(t, f, "h", "", 0)
		if what == "Append to no one" {
			wantFile(t, f, "new", "", 0)
			wantList(t, f, 6, "f", "g", "h", "new")
		} else {
			wantList(t, f, 6, "f", "g", "h")
		}
	}
	f := files.New()
	must(t, f.Arm(0))
	wantErr(t, "Append of nothing to a new file", f.Append("f", nil), api.ErrDown)
	wantList(t, f, 0, "f")
	f.Start([]int{1})
	wantFile(t, f, "f", "", 0)
}

func TestFS2Arm(t *testing.T) {
	for n := range 5 {
		f := files.New()
		must(t, f.Arm(n))
		for i := range n {
			must(t, f.Append("f", []byte{byte('a' + i)}))
		}
		if f.Down() || f.Steps() != n {
			t.Fatalf("Arm(%d): Down is %v, Steps %d", n, f.Down(), f.Steps())
		}
		wantErr(t, "one step more", f.Append("f", []byte("z")), api.ErrDown)
		if !f.Down() || f.Steps() != n {
			t.Errorf("Arm(%d): Down is %v, Steps %d", n, f.Down(), f.Steps())
		}
		f.Start([]int{100})
		wantFile(t, f, "f", "abcd"[:n]+"z", n+1)
	}
}

func TestFS2ArmAgain(t *testing.T) {
	f := files.New()
	must(t, f.Arm(0))
	must(t, f.Arm(2))
	must(t, f.Append("f", []byte("a")))
	must(t, f.Arm(2))
	must(t, f.Append("f", []byte("b")))
	must(t, f.Append("f", []byte("c")))
	must(t, f.Arm(math.MaxInt))
	must(t, f.Append("f", []byte("d")))
	for _, n := range []int{-1, math.MinInt} {
		wantErr(t, "Arm of less than 0", f.Arm(n), api.ErrArg)
	}
	must(t, f.Append("f", []byte("e")))
	must(t, f.Arm(0))
	wantErr(t, "Arm of less than 0", f.Arm(-1), api.ErrArg)
	wantErr(t, "the step behind it", f.Append("f", []byte("f")), api.ErrDown)
	wantErr(t, "Arm of less than 0, when it is down", f.Arm(-1), api.ErrArg)
	for _, n := range []int{0, 1, math.MaxInt} {
		wantErr(t, "Arm when it is down", f.Arm(n), api.ErrDown)
	}
	f.Start([]int{6})
	wantFile(t, f, "f", "abcdef", 6)
}

// TestFS2ArmedErrors: a call that would have an error anyway has that one, and does not crash.
func TestFS2ArmedErrors(t *testing.T) {
	f := three(t)
	for i := range api.MaxFiles - 3 {
		must(t, f.Append("f"+strconv.Itoa(i), nil))
	}
	was := f.Steps()
	must(t, f.Arm(0))
	wantErr(t, "Append to no name", f.Append("", nil), api.ErrArg)
	wantErr(t, "Append to one file more", f.Append("more", nil), api.ErrFull)
	wantErr(t, "Append of too much", f.Append("f", make([]byte, longest-5)), api.ErrLong)
	wantErr(t, "Sync of no file", f.Sync("none"), api.ErrNone)
	wantErr(t, "Rename of no file", f.Rename("none", "f"), api.ErrNone)
	wantErr(t, "Rename to no name", f.Rename("f", " "), api.ErrArg)
	wantErr(t, "Remove of no file", f.Remove("none"), api.ErrNone)
	wantErr(t, "Cut of no file", f.Cut("none", 0), api.ErrNone)
	wantErr(t, "Cut at -1", f.Cut("f", -1), api.ErrArg)
	wantErr(t, "Cut at 7", f.Cut("f", 7), api.ErrArg)
	wantFile(t, f, "f", "abcdef", 3)
	wantNoFile(t, f, "none", api.ErrNone)
	if f.Down() || f.Steps() != was {
		t.Errorf("Down is %v, Steps went from %d to %d", f.Down(), was, f.Steps())
	}
	wantErr(t, "a step", f.Sync("f"), api.ErrDown)
}

func TestFS2Down(t *testing.T) {
	f := three(t)
	crash(t, f)
	for _, name := range []string{"f", "none"} {
		for what, call := range named(f, name, "g") {
			wantErr(t, what, call(), api.ErrDown)
		}
		wantErr(t, "Cut at -1", f.Cut(name, -1), api.ErrDown)
		wantErr(t, "Append of too much", f.Append(name, make([]byte, longest+1)), api.ErrDown)
		wantNoFile(t, f, name, api.ErrDown)
	}
	wantList(t, f, 6, "f", "g", "h")
	twin := f.Clone()
	if !f.Down() || !twin.Down() {
		t.Error("it does not stay down")
	}
	twin.Start([]int{9, 9})
	wantNoFile(t, f, "f", api.ErrDown)
	wantThree(t, twin, "abcdef", "f", "g", "h")
	if !f.Down() || twin.Down() {
		t.Error("starting the clone starts the original, or not the clone")
	}
}

// TestFS2Start: keep is for the files with bytes that are not safe, here f and h.
func TestFS2Start(t *testing.T) {
	for _, c := range []struct {
		keep []int
		f, h string
	}{
		{nil, "abc", ""},
		{[]int{}, "abc", ""},
		{[]int{0}, "abc", ""},
		{[]int{1}, "abcd", ""},
		{[]int{3}, "abcdef", ""},
		{[]int{4}, "abcdef", ""},
		{[]int{-1, -1}, "abc", ""},
		{[]int{2, 1}, "abcde", "i"},
		{[]int{0, 3}, "abc", "ijk"},
		{[]int{-5, 4, 1}, "abc", "ijkl"},
		{[]int{1, 5, 1, 1}, "abcd", "ijkl"},
		{[]int{math.MinInt, math.MaxInt}, "abc", "ijkl"},
		{[]int{math.MaxInt, math.MinInt}, "abcdef", ""},
	} {
		for _, crashed := range []bool{false, true} {
			f := three(t)
			if crashed {
				crash(t, f)
			}
			kept := slices.Clone(c.keep)
			f.Start(c.keep)
			if !slices.Equal(c.keep, kept) {
				t.Error("the argument was changed")
			}
			wantFile(t, f, "f", c.f, len(c.f))
			wantFile(t, f, "g", "gh", 2)
			wantFile(t, f, "h", c.h, len(c.h))
			wantList(t, f, 6, "f", "g", "h")
			if f.Down() {
				t.Error("it is down after Start")
			}
			f.Start(nil)
			wantFile(t, f, "h", c.h, len(c.h))
		}
	}
}

// TestFS2StartOrder: the files are told by the order of their names, whatever was written first.
func TestFS2StartOrder(t *testing.T) {
	f := files.New()
	for _, name := range []string{"c", "a", "e", "d", "b", "aa"} {
		must(t, f.Append(name, []byte("xyz")))
	}
	must(t, f.Append("ab", nil))
	must(t, f.Sync("c"))
	f.Start([]int{0, 1, 2, 3})
	for i, name := range []string{"a", "aa", "b", "d", "e", "ab", "c"} {
		want := "xyz"[:[]int{0, 1, 2, 3, 0, 0, 3}[i]]
		wantFile(t, f, name, want, len(want))
	}
}

func TestFS2StartDisarms(t *testing.T) {
	for n := range 3 {
		f := files.New()
		must(t, f.Arm(n))
		for range n {
			must(t, f.Append("f", []byte("a")))
		}
		f.Start(nil)
		for range 5 {
			must(t, f.Append("f", []byte("b")))
		}
		wantFile(t, f, "f", "bbbbb", 0)
		if f.Steps() != n+5 {
			t.Errorf("Steps: %d, want %d", f.Steps(), n+5)
		}
	}
	f := three(t)
	crash(t, f)
	f.Start(nil)
	must(t, f.Remove("f"))
	must(t, f.Arm(1))
	must(t, f.Remove("g"))
	wantErr(t, "armed after a Start", f.Remove("h"), api.ErrDown)
}

// TestFS2CloneArmed: a clone is armed as the original is, and counts by itself.
func TestFS2CloneArmed(t *testing.T) {
	f := three(t)
	must(t, f.Arm(2))
	must(t, f.Sync("f"))
	twin := f.Clone()
	must(t, f.Sync("g"))
	wantErr(t, "a step of the original", f.Sync("h"), api.ErrDown)
	if twin.Down() {
		t.Error("the clone crashed with the original")
	}
	must(t, twin.Sync("g"))
	wantErr(t, "a step of the clone", twin.Append("h", []byte("m")), api.ErrDown)
	twin.Start([]int{5})
	wantFile(t, twin, "h", "ijklm", 5)
	f.Start([]int{5})
	wantFile(t, f, "h", "ijkl", 4)
}
