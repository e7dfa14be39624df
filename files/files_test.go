package files_test

import (
	"bytes"
	"errors"
	"math"
	"slices"
	"strconv"
	"strings"
	"testing"

	"isthmus/api"
	"isthmus/files"
)

// longest is how many bytes a file can have.
const longest = 16 * api.MaxBytes

// isErr tells whether err is the number want, or nil for 0.
func isErr(err error, want api.Errno) bool {
	if want == 0 {
		return err == nil
	}
	var number api.Errno
	return errors.As(err, &number) && number == want
}

// wantErr holds that err is want.
func wantErr(t *testing.T, what string, err error, want api.Errno) {
	t.Helper()
	if !isErr(err, want) {
		t.Errorf("%s: %v, want error %d", what, err, want)
	}
}

// must holds that a call of the preparation has no error.
func must(t *testing.T, err error) {
	t.Helper()
	if err != nil {
		t.Fatal(err)
	}
}

// wantFile holds that the file has these bytes, of which so many are safe.
func wantFile(t *testing.T, f *files.FS, name, text string, safe int) {
	t.Helper()
	if b, err := f.Read(name); string(b) != text || err != nil {
		t.Errorf("Read of %s: %.80q, %v; want %.80q", name, b, err, text)
	}
	if n, err := f.Safe(name); n != safe || err != nil {
		t.Errorf("Safe of %s: %d, %v; want %d", name, n, err, safe)
	}
}

// wantNoFile holds that Read and Safe return the error want, and nothing beside it.
func wantNoFile(t *testing.T, f *files.FS, name string, want api.Errno) {
	t.Helper()
	if b, err := f.Read(name); len(b) != 0 || !isErr(err, want) {
		t.Errorf("Read of %.80q: %q, %v; want error %d", name, b, err, want)
	}
	if n, err := f.Safe(name); n != 0 || !isErr(err, want) {
		t.Errorf("Safe of %.80q: %d, %v; want error %d", name, n, err, want)
	}
}

// wantList holds that these are the names, and that so many steps were counted.
func wantList(t *testing.T, f *files.FS, steps int, names ...string) {
	t.Helper()
	if got := f.List(); !slices.Equal(got, names) {
		t.Errorf("List: %q, want %q", got, names)
	}
	if f.Steps() != steps {
		t.Errorf("Steps: %d, want %d", f.Steps(), steps)
	}
}

// named are all methods with a name, called with a second one where there are two.
func named(f *files.FS, name, other string) map[string]func() error {
	return map[string]func() error{
		"Append": func() error { return f.Append(name, []byte("x")) },
		"Sync":   func() error { return f.Sync(name) },
		"Read":   func() error { _, err := f.Read(name); return err },
		"Rename": func() error { return f.Rename(name, other) },
		"Remove": func() error { return f.Remove(name) },
		"Cut":    func() error { return f.Cut(name, 0) },
		"Safe":   func() error { _, err := f.Safe(name); return err },
	}
}

// abcdef is a file system with the file f of six bytes, three of them safe.
func abcdef(t *testing.T) *files.FS {
	t.Helper()
	f := files.New()
	must(t, f.Append("f", []byte("abc")))
	must(t, f.Sync("f"))
	must(t, f.Append("f", []byte("def")))
	return f
}

func TestFS1New(t *testing.T) {
	f := files.New()
	wantList(t, f, 0)
	wantNoFile(t, f, "f", api.ErrNone)
	if f.Down() {
		t.Error("it is down")
	}
	must(t, f.Append("f", nil))
	wantList(t, files.New(), 0)
}

func TestFS1Append(t *testing.T) {
	f := files.New()
	must(t, f.Append("f", []byte("abc")))
	wantFile(t, f, "f", "abc", 0)
	must(t, f.Append("f", []byte("d")))
	must(t, f.Append("f", nil))
	must(t, f.Append("f", []byte{}))
	must(t, f.Append("f", []byte{0, 255}))
	wantFile(t, f, "f", "abcd\x00\xff", 0)
	must(t, f.Append("empty", nil))
	wantFile(t, f, "empty", "", 0)
	wantList(t, f, 6, "empty", "f")
}

func TestFS1AppendFull(t *testing.T) {
	f := files.New()
	for i := range api.MaxFiles {
		must(t, f.Append("f"+strconv.Itoa(i), []byte{byte(i)}))
	}
	wantErr(t, "one file more", f.Append("more", nil), api.ErrFull)
	wantErr(t, "one file more, with too many bytes", f.Append("more", make([]byte, longest+1)), api.ErrFull)
	wantErr(t, "a name that is not valid", f.Append("more ", nil), api.ErrArg)
	wantNoFile(t, f, "more", api.ErrNone)
	must(t, f.Append("f7", []byte("x")))
	wantFile(t, f, "f7", "\x07x", 0)
	must(t, f.Rename("f7", "g7"))
	wantErr(t, "after a Rename to a new name", f.Append("f7", nil), api.ErrFull)
	must(t, f.Rename("g7", "f8"))
	must(t, f.Append("more", nil))
	wantErr(t, "in place of a file that was renamed over", f.Append("g7", nil), api.ErrFull)
	must(t, f.Remove("more"))
	must(t, f.Append("g7", nil))
	if len(f.List()) != api.MaxFiles || f.Steps() != api.MaxFiles+6 {
		t.Errorf("%d files, %d steps", len(f.List()), f.Steps())
	}
}

func TestFS1AppendLong(t *testing.T) {
	f := files.New()
	wantErr(t, "a new file", f.Append("f", make([]byte, longest+1)), api.ErrLong)
	wantNoFile(t, f, "f", api.ErrNone)
	must(t, f.Append("f", make([]byte, longest-2)))
	wantErr(t, "three bytes more", f.Append("f", []byte("abc")), api.ErrLong)
	must(t, f.Append("f", []byte("ab")))
	wantErr(t, "a byte more", f.Append("f", []byte("c")), api.ErrLong)
	must(t, f.Append("f", nil))
	if b, err := f.Read("f"); len(b) != longest || err != nil || string(b[longest-3:]) != "\x00ab" {
		t.Errorf("Read: %d bytes, %v", len(b), err)
	}
	must(t, f.Cut("f", longest-1))
	must(t, f.Append("f", []byte("c")))
	wantErr(t, "a byte more, after a Cut", f.Append("f", []byte("c")), api.ErrLong)
	must(t, f.Append("g", make([]byte, longest)))
	wantList(t, f, 6, "f", "g")
}

func TestFS1Sync(t *testing.T) {
	f := abcdef(t)
	must(t, f.Append("g", []byte("gh")))
	wantFile(t, f, "f", "abcdef", 3)
	must(t, f.Sync("f"))
	wantFile(t, f, "f", "abcdef", 6)
	wantFile(t, f, "g", "gh", 0)
	must(t, f.Sync("f"))
	wantFile(t, f, "f", "abcdef", 6)
	wantList(t, f, 6, "f", "g")
}

func TestFS1Rename(t *testing.T) {
	f := abcdef(t)
	must(t, f.Append("g", []byte("gh")))
	must(t, f.Append("h", []byte("ijkl")))
	must(t, f.Rename("f", "new"))
	wantList(t, f, 6, "g", "h", "new")
	wantFile(t, f, "new", "abcdef", 3)
	must(t, f.Rename("new", "g"))
	wantList(t, f, 7, "g", "h")
	wantFile(t, f, "g", "abcdef", 3)
	must(t, f.Rename("g", "g"))
	wantList(t, f, 8, "g", "h")
	wantFile(t, f, "g", "abcdef", 3)
	must(t, f.Append("g", []byte("m")))
	must(t, f.Rename("h", "g"))
	wantFile(t, f, "g", "ijkl", 0)
	wantErr(t, "a file that does not exist any more", f.Rename("h", "g"), api.ErrNone)
	wantErr(t, "a file that does not exist, to its own name", f.Rename("h", "h"), api.ErrNone)
	wantFile(t, f, "g", "ijkl", 0)
	wantList(t, f, 10, "g")
}

func TestFS1Remove(t *testing.T) {
	f := abcdef(t)
	must(t, f.Append("g", []byte("gh")))
	must(t, f.Remove("f"))
	wantNoFile(t, f, "f", api.ErrNone)
	wantFile(t, f, "g", "gh", 0)
	wantErr(t, "a file that does not exist any more", f.Remove("f"), api.ErrNone)
	wantList(t, f, 5, "g")
	must(t, f.Append("f", []byte("x")))
	wantFile(t, f, "f", "x", 0)
}

func TestFS1Cut(t *testing.T) {
	for n := range 7 {
		f := abcdef(t)
		must(t, f.Cut("f", n))
		wantFile(t, f, "f", "abcdef"[:n], n)
		must(t, f.Append("f", []byte("xy")))
		wantFile(t, f, "f", "abcdef"[:n]+"xy", n)
		wantList(t, f, 5, "f")
	}
	f := abcdef(t)
	for _, n := range []int{-1, 7, math.MinInt, math.MaxInt} {
		wantErr(t, "Cut at "+strconv.Itoa(n), f.Cut("f", n), api.ErrArg)
		wantErr(t, "Cut of no file at "+strconv.Itoa(n), f.Cut("g", n), api.ErrNone)
	}
	wantErr(t, "Cut of no file at 0", f.Cut("g", 0), api.ErrNone)
	wantFile(t, f, "f", "abcdef", 3)
	wantList(t, f, 3, "f")
}

func TestFS1List(t *testing.T) {
	f := files.New()
	var want []string
	for _, name := range []string{"b", "~", "a.b", "B", "ab", "a", "!", "a!", "10", "9", "a.new"} {
		must(t, f.Append(name, nil))
		want = append(want, name)
	}
	slices.Sort(want)
	wantList(t, f, len(want), want...)
	if f.List()[0] != "!" || f.List()[1] != "10" || f.List()[10] != "~" {
		t.Errorf("List: %q", f.List())
	}
}

func TestFS1NoFile(t *testing.T) {
	f := files.New()
	for what, call := range named(f, "f", "g") {
		if what != "Append" {
			wantErr(t, what, call(), api.ErrNone)
		}
	}
	must(t, f.Append("g", nil))
	wantErr(t, "Rename to a file that exists", f.Rename("f", "g"), api.ErrNone)
	wantNoFile(t, f, "f", api.ErrNone)
	wantList(t, f, 1, "g")
}

// wrongNames are no names, for their lengths and for each byte at each end.
func wrongNames() []string {
	wrong := []string{"", strings.Repeat("n", api.MaxName+1), strings.Repeat("n", 100000), strings.Repeat(" ", 64)}
	for b := range 256 {
		if b < 33 || b > 126 {
			sign := string([]byte{byte(b)})
			wrong = append(wrong, sign, sign+"name", "na"+sign+"me", "name"+sign, strings.Repeat("n", api.MaxName-1)+sign)
		}
	}
	return wrong
}

func TestFS1WrongNames(t *testing.T) {
	f := abcdef(t)
	crashed := abcdef(t)
	must(t, crashed.Arm(0))
	crashed.Remove("f")
	for _, name := range wrongNames() {
		for _, fs := range []*files.FS{f, crashed} {
			for what, call := range named(fs, name, "g") {
				wantErr(t, what+" of "+strconv.Quote(name), call(), api.ErrArg)
			}
			wantErr(t, "Rename to "+strconv.Quote(name), fs.Rename("f", name), api.ErrArg)
			wantErr(t, "Rename of no file to "+strconv.Quote(name), fs.Rename("g", name), api.ErrArg)
			wantErr(t, "Cut of "+strconv.Quote(name), fs.Cut(name, -1), api.ErrArg)
			wantNoFile(t, fs, name, api.ErrArg)
		}
	}
	wantFile(t, f, "f", "abcdef", 3)
	wantList(t, f, 3, "f")
	wantList(t, crashed, 3, "f")
}

func TestFS1Names(t *testing.T) {
	names := []string{strings.Repeat("n", api.MaxName), "..", "/", "a/b", "-", "\"", "\\"}
	for b := 33; b <= 126; b++ {
		names = append(names, "n"+string(rune(b))+"n")
	}
	for _, name := range names {
		f := files.New()
		must(t, f.Append(name, []byte("abc")))
		wantFile(t, f, name, "abc", 0)
		must(t, f.Rename(name, "f"))
		must(t, f.Rename("f", name))
		wantList(t, f, 3, name)
	}
}

func TestFS3Nil(t *testing.T) {
	var f *files.FS
	for _, name := range []string{"f", "", strings.Repeat("n", 65)} {
		for what, call := range named(f, name, "g") {
			wantErr(t, what, call(), api.ErrArg)
		}
		wantNoFile(t, f, name, api.ErrArg)
	}
	for _, n := range []int{-1, 0, 1} {
		wantErr(t, "Cut", f.Cut("f", n), api.ErrArg)
		wantErr(t, "Arm", f.Arm(n), api.ErrArg)
	}
	f.Start(nil)
	f.Start([]int{1, 2})
	if len(f.List()) != 0 || f.Down() || f.Steps() != 0 || f.Clone() != nil {
		t.Error("a method without an error does not return nothing")
	}
}

// TestFS3Memory: bytes that are handed in or out are the caller's.
func TestFS3Memory(t *testing.T) {
	for size := range 70 {
		f := files.New()
		in := bytes.Repeat([]byte("a"), size)
		must(t, f.Append("f", in))
		want := string(in)
		clear(in)
		wantFile(t, f, "f", want, 0)
		out, _ := f.Read("f")
		clear(out[:cap(out)])
		wantFile(t, f, "f", want, 0)
		more := append(make([]byte, 0, 100), "bcd"...)
		must(t, f.Append("f", more))
		if string(more) != "bcd" || strings.Trim(string(more[3:100]), "\x00") != "" {
			t.Error("the argument was changed")
		}
		clear(more)
		wantFile(t, f, "f", want+"bcd", 0)
	}
	f := files.New()
	must(t, f.Append("f", nil))
	must(t, f.Append("g", nil))
	l := f.List()
	clear(l[:cap(l)])
	wantList(t, f, 2, "f", "g")
}

func TestFS3Clone(t *testing.T) {
	f := abcdef(t)
	must(t, f.Append("g", []byte("gh")))
	twin := f.Clone()
	wantFile(t, twin, "f", "abcdef", 3)
	wantFile(t, twin, "g", "gh", 0)
	wantList(t, twin, 4, "f", "g")
	must(t, f.Remove("g"))
	must(t, f.Rename("f", "h"))
	must(t, f.Sync("h"))
	wantFile(t, twin, "f", "abcdef", 3)
	wantFile(t, twin, "g", "gh", 0)
	wantList(t, twin, 4, "f", "g")
	must(t, twin.Append("h", []byte("i")))
	must(t, twin.Cut("f", 1))
	twin.Start(nil)
	wantFile(t, f, "h", "abcdef", 6)
	wantList(t, f, 7, "h")
	wantFile(t, twin, "h", "", 0)
	wantFile(t, twin, "f", "a", 1)
	wantList(t, twin, 6, "f", "g", "h")
}

// TestFS3CloneBytes: appending on either side, ahead of and behind what was cut, leaves the bytes of the others alone.
func TestFS3CloneBytes(t *testing.T) {
	for size := range 40 {
		base := strings.Repeat("b", size)
		for n := range size + 1 {
			f := files.New()
			for range size {
				must(t, f.Append("f", []byte("b")))
			}
			left, right := f.Clone(), f.Clone()
			must(t, left.Append("f", []byte("left")))
			must(t, f.Append("f", []byte("one")))
			third := f.Clone()
			must(t, f.Cut("f", n))
			must(t, f.Append("f", []byte("two")))
			must(t, right.Append("f", []byte("RIGHT")))
			must(t, third.Append("f", []byte("3")))
			right.Start([]int{n})
			must(t, right.Append("f", []byte("R")))
			wantFile(t, f, "f", base[:n]+"two", n)
			wantFile(t, left, "f", base+"left", 0)
			wantFile(t, right, "f", base[:n]+"R", n)
			wantFile(t, third, "f", base+"one3", 0)
		}
	}
}
