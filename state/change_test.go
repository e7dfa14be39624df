package state_test

import (
	"bytes"
	"math"
	"slices"
	"strconv"
	"strings"
	"testing"

	"isthmus/api"
	"isthmus/avl"
	"isthmus/files"
	"isthmus/kv"
	"isthmus/state"
)

// wantRefused holds that do returns the error want, and changes neither the files nor the versions.
func wantRefused(t *testing.T, what string, f *files.FS, s *state.Store, l []entry, want api.Errno, do func() error) {
	t.Helper()
	wantUnchanged(t, what, f, func() { wantErr(t, what, do(), want) })
	wantVersions(t, what, s, l)
}

// TestST2CommitFirst: the heights that a first version can have.
func TestST2CommitFirst(t *testing.T) {
	for height, want := range map[int]api.Errno{
		math.MinInt: api.ErrHeight, -1: api.ErrHeight, 0: api.ErrHeight, 1: 0, 2: 0, 1000: 0, 1 << 32: 0,
		api.MaxHeight - 1: 0, api.MaxHeight: 0, api.MaxHeight + 1: api.ErrHeight, math.MaxInt: api.ErrHeight,
	} {
		what := "height " + strconv.Itoa(height)
		f := files.New()
		s := open(t, f, 3)
		e := at(max(height, 1))
		do := func() error { return s.Commit(height, e.tree, e.note) }
		if want != 0 {
			wantRefused(t, what, f, s, nil, want, do)
			continue
		}
		must(t, do())
		wantVersions(t, what, s, []entry{e})
		wantVersions(t, what+", opened again", open(t, f, 3), []entry{e})
	}
}

// TestST2CommitNext: behind a version only the next height can come, and none behind the greatest one.
func TestST2CommitNext(t *testing.T) {
	for _, top := range []int{1, 6, 1000, api.MaxHeight - 1, api.MaxHeight, 1e13, math.MaxInt} {
		f := file(t, pairsOf(at(top)))
		s := open(t, f, 3)
		for _, height := range []int{top - 1, top, top + 2, top + 1000, 1, 0, -1, -top, math.MinInt, math.MaxInt} {
			if height == top+1 {
				continue
			}
			wantRefused(t, "not the next height", f, s, []entry{at(top)}, api.ErrHeight, func() error {
				return s.Commit(height, at(1).tree, "")
			})
		}
		next := func() error { return s.Commit(top+1, at(1).tree, "next") }
		if top >= api.MaxHeight {
			wantRefused(t, "behind the greatest height", f, s, []entry{at(top)}, api.ErrHeight, next)
			continue
		}
		must(t, next())
		l := []entry{at(top), {top + 1, at(1).tree, "next"}}
		wantVersions(t, "next", s, l)
		wantVersions(t, "next, opened again", open(t, f, 3), l)
	}
}

// TestST2CommitKeep: as many versions are retained as Open says, from any first height on.
func TestST2CommitKeep(t *testing.T) {
	for keep := 1; keep < 7; keep++ {
		for _, first := range []int{1, 2, keep, keep + 1, 50} {
			f := files.New()
			s := open(t, f, keep)
			for height := first; height < first+15; height++ {
				commit(t, s, run(height, height))
				l := run(max(first, height-keep+1), height)
				what := "keep " + strconv.Itoa(keep) + ", height " + strconv.Itoa(height)
				wantVersions(t, what, s, l)
				again := open(t, f, keep)
				wantVersions(t, what+", opened again", again, l)
				if height%4 == 0 {
					s = again
				}
			}
		}
	}
	f := files.New()
	s := open(t, f, 1000)
	for height := 1; height < 1003; height++ {
		commit(t, s, []entry{bare(height)})
	}
	if _, _, err := s.Version(2); err == nil || s.Height() != 1002 {
		t.Errorf("keep 1000: version 2 of %d exists", s.Height())
	}
	_, _, err := open(t, f, 1000).Version(3)
	must(t, err)
}

// TestST2CommitOtherKeep: whatever Open said when versions were stored, a Commit removes the version of height - keep alone.
func TestST2CommitOtherKeep(t *testing.T) {
	f, _ := holding(t, run(1, 5))
	s := open(t, f, 2)
	wantVersions(t, "fewer are retained", s, run(1, 5))
	commit(t, s, run(6, 6))
	wantVersions(t, "fewer are retained, one more", s, append(run(1, 3), run(5, 6)...))

	f = files.New()
	commit(t, open(t, f, 2), run(1, 5))
	s = open(t, f, 4)
	for height := 6; height < 10; height++ {
		commit(t, s, run(height, height))
		wantVersions(t, "more are retained", s, run(max(4, height-3), height))
	}
	wantVersions(t, "opened again", open(t, f, 4), run(6, 9))
}

// TestST2CommitOrder: a wrong height is told ahead of what kv.Apply finds, and what a file did ahead of what is too long.
func TestST2CommitOrder(t *testing.T) {
	long := strings.Repeat("n", api.MaxBytes)
	f, s := holding(t, run(4, 6))
	wantRefused(t, "a wrong height, and too long", f, s, run(4, 6), api.ErrHeight, func() error {
		return s.Commit(6, nil, long)
	})
	must(t, f.Arm(0))
	wantErr(t, "crash", s.Commit(7, nil, ""), api.ErrDown)
	for range 2 {
		wantRefused(t, "a wrong height, after a crash", f, s, run(4, 6), api.ErrHeight, func() error {
			return s.Commit(6, nil, "")
		})
		wantRefused(t, "too long, after a crash", f, s, run(4, 6), api.ErrDown, func() error {
			return s.Commit(7, nil, long)
		})
		wantRefused(t, "a tree that is too long, after a crash", f, s, run(4, 6), api.ErrDown, func() error {
			return s.Commit(7, s.Tree().Set("a", long).Set("b", long).Set("c", long), "")
		})
		f.Start(nil)
	}
}

// TestST2CommitLong: a version whose batch is as long as can be, and those that are longer, which are not stored, but are
// in the way of nothing.
func TestST2CommitLong(t *testing.T) {
	for _, keep := range []int{3, 1000} { // with the removal of a version, and without one
		f := files.New()
		s := open(t, f, keep)
		commit(t, s, run(4, 5))
		before, err := f.Read("f")
		must(t, err)
		const most = 1 << 19
		twin := f.Clone()
		commit(t, open(t, twin, keep), []entry{{6, at(6).tree, strings.Repeat("n", most)}})
		now, err := twin.Read("f")
		must(t, err)
		room := api.MaxBytes - (len(now) - len(before) - 12)
		fits := entry{6, at(6).tree, strings.Repeat("n", most+room)}
		for _, e := range []entry{
			{6, at(6).tree, fits.note + "n"},
			{6, at(6).tree, strings.Repeat("n", api.MaxBytes+1)},
			{6, at(6).tree.Set(fits.note, "v"), ""},
			{6, at(6).tree.Set("a", strings.Repeat("v", api.MaxBytes+1)), ""},
		} {
			wantRefused(t, "too long", f, s, run(4, 5), api.ErrLong, func() error { return s.Commit(6, e.tree, e.note) })
		}
		commit(t, s, []entry{fits})
		l := append(run(4, 5), fits)
		wantVersions(t, "as long as can be", s, l)
		wantVersions(t, "as long as can be, opened again", open(t, f, keep), l)
	}
}

// TestST2CommitShared: a tree whose pairs share a text, copies of which would be far longer than it.
func TestST2CommitShared(t *testing.T) {
	f, s := holding(t, run(4, 5))
	var x *avl.Tree
	long := strings.Repeat("v", 1<<17)
	for i := range 300 {
		x = x.Set(strconv.Itoa(i), long)
	}
	wantRefused(t, "shared texts", f, s, run(4, 5), api.ErrLong, func() error { return s.Commit(6, x, "") })
	for i := range 293 {
		x = x.Drop(strconv.Itoa(i))
	}
	commit(t, s, []entry{{6, x, ""}})
	wantVersions(t, "few of them", open(t, f, 3), append(run(4, 5), entry{6, x, ""}))
}

// TestST2CommitFull: a file that has grown as long as it can be takes no version more, and the Store no more changes.
func TestST2CommitFull(t *testing.T) {
	f := files.New()
	s := open(t, f, 1)
	note := strings.Repeat("n", 1<<20-100)
	height := 1
	for s.Commit(height, nil, note) == nil {
		height++
	}
	if height != 17 {
		t.Errorf("%d versions of nearly 2^20 bytes each", height-1)
	}
	want := []entry{{height - 1, nil, note}}
	wantRefused(t, "full", f, s, want, api.ErrLong, func() error { return s.Commit(height, nil, "") })
	wantRefused(t, "full", f, s, want, api.ErrLong, func() error { return s.Back(height - 1) })
	wantVersions(t, "opened again", open(t, f, 1), want)
}

// TestST2CommitCrash: a Commit that crashes stores and removes nothing, and all later changes return its error.
func TestST2CommitCrash(t *testing.T) {
	for allowed := range 2 {
		f := files.New()
		s := open(t, f, 3)
		commit(t, s, run(4, 6))
		must(t, f.Arm(allowed))
		wantErr(t, "Commit", s.Commit(7, at(7).tree, at(7).note), api.ErrDown)
		wantVersions(t, "crashed", s, run(4, 6))
		f.Start(nil)
		wantRefused(t, "Commit, started again", f, s, run(4, 6), api.ErrDown, func() error { return s.Commit(7, nil, "") })
		wantRefused(t, "Back, started again", f, s, run(4, 6), api.ErrDown, func() error { return s.Back(5) })
		wantRefused(t, "Back of nothing, started again", f, s, run(4, 6), api.ErrDown, func() error { return s.Back(6) })
		wantRefused(t, "Back to what is not there", f, s, run(4, 6), api.ErrNone, func() error { return s.Back(7) })
		s = open(t, f, 3)
		wantVersions(t, "opened again", s, run(4, 6))
		commit(t, s, run(7, 7))
		wantVersions(t, "committed", s, run(5, 7))
	}
}

// TestST2Back: the versions that can be gone back to, and those that can't.
func TestST2Back(t *testing.T) {
	for height := -1; height < 12; height++ {
		f, s := holding(t, run(4, 8))
		what := "Back to " + strconv.Itoa(height)
		if height < 4 || height > 8 {
			wantRefused(t, what, f, s, run(4, 8), api.ErrNone, func() error { return s.Back(height) })
			continue
		}
		must(t, s.Back(height))
		for range 2 {
			wantVersions(t, what, s, run(4, height))
			wantRefused(t, what+", again", f, s, run(4, height), 0, func() error { return s.Back(height) })
			wantRefused(t, what+", and on", f, s, run(4, height), api.ErrNone, func() error { return s.Back(height + 1) })
			s = open(t, f, 1000)
		}
		other := entry{height + 1, at(3).tree, "other"}
		wantErr(t, what+", and a wrong height", s.Commit(height+2, nil, ""), api.ErrHeight)
		commit(t, s, []entry{other})
		wantVersions(t, what+", and one more", s, append(run(4, height), other))
		wantVersions(t, what+", opened again", open(t, f, 1000), append(run(4, height), other))
	}
	f, s := holding(t, run(4, 8))
	for _, height := range []int{math.MaxInt, math.MinInt, -4, 1e13 + 4} {
		wantRefused(t, "no version", f, s, run(4, 8), api.ErrNone, func() error { return s.Back(height) })
	}
	for _, height := range []int{0, 1, -1} {
		wantErr(t, "no versions", open(t, files.New(), 1).Back(height), api.ErrNone)
	}
}

// TestST2BackGreat: versions that are not stored by a Commit can be gone back to as well.
func TestST2BackGreat(t *testing.T) {
	for _, first := range []int{api.MaxHeight - 1, 1e13 - 3, 1e13, math.MaxInt - 2} {
		l := []entry{at(first), at(first + 1), at(first + 2)}
		for i := range l {
			f := file(t, pairsOf(l...))
			s := open(t, f, 1)
			must(t, s.Back(first+i))
			wantVersions(t, "gone back", s, l[:i+1])
			wantVersions(t, "gone back, opened again", open(t, f, 1), l[:i+1])
		}
	}
}

// TestST2BackKeep: what a Commit has removed does not come again by going back, and Commits go on behind it.
func TestST2BackKeep(t *testing.T) {
	f := files.New()
	s := open(t, f, 3)
	commit(t, s, run(1, 6))
	wantErr(t, "what is gone", s.Back(3), api.ErrNone)
	must(t, s.Back(4))
	wantVersions(t, "gone back", s, run(4, 4))
	commit(t, s, run(5, 5))
	wantVersions(t, "one more", s, run(4, 5))
	commit(t, s, run(6, 8))
	wantVersions(t, "four more", s, run(6, 8))
	wantVersions(t, "opened again", open(t, f, 3), run(6, 8))
}

// TestST2BackCrash: a Back that crashes removes nothing.
func TestST2BackCrash(t *testing.T) {
	for allowed := range 2 {
		f, s := holding(t, run(4, 8))
		must(t, f.Arm(allowed))
		wantErr(t, "Back", s.Back(5), api.ErrDown)
		wantVersions(t, "crashed", s, run(4, 8))
		wantErr(t, "Back to what is not there", s.Back(9), api.ErrNone)
		f.Start(nil)
		s = open(t, f, 1000)
		wantVersions(t, "opened again", s, run(4, 8))
		must(t, s.Back(5))
		wantVersions(t, "gone back", open(t, f, 1000), run(4, 5))
	}
}

// TestST2BackMany: more versions than one batch can remove.
func TestST2BackMany(t *testing.T) {
	most := (api.MaxBytes - 3) / 17
	f := files.New()
	pairs, err := kv.Open(f, "f")
	must(t, err)
	var l []kv.Change
	for height := 1; height <= most+2; height++ {
		l = append(l, kv.Change{Key: keyOf(height), Value: encoded(bare(height))})
		if len(l) == 10000 || height == most+2 {
			must(t, pairs.Apply(l))
			l = nil
		}
	}
	s := open(t, f, 1)
	wantUnchanged(t, "too many", f, func() { wantErr(t, "too many", s.Back(1), api.ErrLong) })
	if s.Height() != most+2 {
		t.Errorf("too many: height %d", s.Height())
	}
	must(t, s.Back(2))
	wantVersions(t, "gone back", s, []entry{bare(1), bare(2)})
	wantVersions(t, "gone back, opened again", open(t, f, 1), []entry{bare(1), bare(2)})
}

// TestST3Restore: a Restore of a Snapshot yields the same version, from any version to a new Store.
func TestST3Restore(t *testing.T) {
	_, s := holding(t, run(1, 30))
	for _, e := range run(1, 30) {
		b, err := s.Snapshot(e.height)
		must(t, err)
		f := files.New()
		other := open(t, f, 2)
		must(t, other.Restore(b))
		for range 2 {
			wantVersions(t, "restored", other, []entry{e})
			again, err := other.Snapshot(e.height)
			if err != nil || !bytes.Equal(again, b) {
				t.Errorf("height %d: another Snapshot, %v", e.height, err)
			}
			other = open(t, f, 2)
		}
		commit(t, other, run(e.height+1, e.height+3))
		wantVersions(t, "three more", other, run(e.height+2, e.height+3))
		wantVersions(t, "three more, opened again", open(t, f, 2), run(e.height+2, e.height+3))
	}
}

// TestST2RestoreHeight: a version of any height from 1 on is restored; a Commit behind the greatest height is none.
func TestST2RestoreHeight(t *testing.T) {
	for _, height := range []int{1, 2, 1000, api.MaxHeight - 1, api.MaxHeight, api.MaxHeight + 1, 1e13 - 1, 1e13, math.MaxInt} {
		f := files.New()
		s := open(t, f, 1)
		must(t, s.Restore([]byte(encoded(at(height)))))
		wantVersions(t, "restored", s, []entry{at(height)})
		wantVersions(t, "opened again", open(t, f, 1), []entry{at(height)})
		must(t, s.Back(height))
		var want api.Errno
		if height >= api.MaxHeight {
			want = api.ErrHeight
		}
		wantErr(t, "Commit", s.Commit(height+1, nil, ""), want)
	}
	for _, height := range []int{0, -1, -1000, math.MinInt} {
		f := files.New()
		s := open(t, f, 1)
		wantRefused(t, "no height", f, s, nil, api.ErrForm, func() error { return s.Restore([]byte(encoded(at(height)))) })
	}
}

// TestST2RestoreForm: bytes that are no encodings are not stored, and are in the way of nothing.
func TestST2RestoreForm(t *testing.T) {
	f := files.New()
	s := open(t, f, 3)
	refuse := func(what, b string) {
		t.Helper()
		wantRefused(t, what, f, s, nil, api.ErrForm, func() error { return s.Restore([]byte(b)) })
	}
	for what, b := range untrees() {
		refuse(what, b)
	}
	for _, e := range run(1, 14) {
		whole := encoded(e)
		for n := range len(whole) {
			refuse("cut at "+strconv.Itoa(n), whole[:n])
		}
		refuse("a byte more", whole+"\x00")
	}
	wantRefused(t, "nil", f, s, nil, api.ErrForm, func() error { return s.Restore(nil) })
	must(t, s.Restore([]byte(encoded(at(5)))))
	wantVersions(t, "restored", open(t, f, 3), run(5, 5))
}

// TestST2RestoreOrder: that there is a version is told ahead of all else, and what a file did behind all else.
func TestST2RestoreOrder(t *testing.T) {
	f, s := holding(t, run(4, 6))
	for _, b := range []string{"", "x", encoded(at(7)), encoded(at(6)), encoded(at(1)), packed(0, nil, nil, "")} {
		wantRefused(t, "there are versions", f, s, run(4, 6), api.ErrTwice, func() error { return s.Restore([]byte(b)) })
	}
	must(t, f.Arm(0))
	wantErr(t, "crash", s.Commit(7, nil, ""), api.ErrDown)
	wantErr(t, "there are versions, after a crash", s.Restore([]byte(encoded(at(7)))), api.ErrTwice)
	for allowed := range 2 {
		f := files.New()
		s := open(t, f, 3)
		must(t, f.Arm(allowed))
		wantErr(t, "Restore", s.Restore([]byte(encoded(at(5)))), api.ErrDown)
		for range 2 {
			wantRefused(t, "no encoding, after a crash", f, s, nil, api.ErrForm, func() error { return s.Restore([]byte("x")) })
			wantRefused(t, "after a crash", f, s, nil, api.ErrDown, func() error { return s.Restore([]byte(encoded(at(5)))) })
			wantRefused(t, "Commit after a crash", f, s, nil, api.ErrDown, func() error { return s.Commit(5, nil, "") })
			f.Start(nil)
		}
		s = open(t, f, 3)
		wantVersions(t, "opened again", s, nil)
		must(t, s.Restore([]byte(encoded(at(5)))))
		wantErr(t, "Restore again", s.Restore([]byte(encoded(at(5)))), api.ErrTwice)
	}
}

// balanced is a Shape with so many leaves.
func balanced(leaves int) []bool {
	if leaves == 1 {
		return []bool{false}
	}
	return slices.Concat([]bool{true}, balanced(leaves/2), balanced(leaves-leaves/2))
}

// TestST2RestoreLong: encodings with as long a Shape and as long Texts as can be are too long for a batch; with longer ones
// they are none.
func TestST2RestoreLong(t *testing.T) {
	single := func(key, value, note string) string {
		return packed(5, []bool{false}, []api.Pair{{Key: key, Value: value}}, note)
	}
	wide := func(leaves int) string {
		l := make([]api.Pair, leaves)
		for i := range l {
			l[i].Key = string([]byte{byte(i >> 16), byte(i >> 8), byte(i)})
		}
		return packed(5, balanced(leaves), l, "")
	}
	long := strings.Repeat("x", api.MaxBytes)
	f := files.New()
	s := open(t, f, 3)
	for _, c := range []struct {
		what, b string
		want    api.Errno
	}{
		{"as long a Shape as can be", wide(1 << 19), api.ErrLong},
		{"too long a Shape", wide(1<<19 + 1), api.ErrForm},
		{"as long a key as can be", single(long, "", ""), api.ErrLong},
		{"too long a key", single(long+"x", "", ""), api.ErrForm},
		{"as long a value as can be", single("", long, ""), api.ErrLong},
		{"too long a value", single("", long+"x", ""), api.ErrForm},
		{"as long a note as can be", single("", "", long), api.ErrLong},
		{"too long a note", single("", "", long+"x"), api.ErrForm},
		{"all as long as can be", single(long, long, long), api.ErrLong},
	} {
		wantRefused(t, c.what, f, s, nil, c.want, func() error { return s.Restore([]byte(c.b)) })
	}
	const batch = 1 + 1 + 1 + 15 + 3 // bytes of a batch beside the encoding: its count, Gone, the key, and a length
	room := api.MaxBytes - batch - len(single("", "", long[:1<<19])) + 1<<19
	over, fits := single("", "", long[:room+1]), single("", "", long[:room])
	wantRefused(t, "a byte too long", f, s, nil, api.ErrLong, func() error { return s.Restore([]byte(over)) })
	must(t, s.Restore([]byte(fits)))
	var none *avl.Tree
	wantVersions(t, "as long as can be", open(t, f, 3), []entry{{5, none.Set("", ""), long[:room]}})
}
