package state_test

import (
	"bytes"
	"encoding/hex"
	"errors"
	"math"
	"slices"
	"strconv"
	"strings"
	"testing"

	"isthmus/api"
	"isthmus/avl"
	"isthmus/files"
	"isthmus/pack"
	"isthmus/sha"
	"isthmus/state"
)

// wantErr holds that err is the number want, or nil for 0.
func wantErr(t *testing.T, what string, err error, want api.Errno) {
	t.Helper()
	if want == 0 && err == nil {
		return
	}
	var number api.Errno
	if !errors.As(err, &number) || number != want {
		t.Errorf("%s: %v, want error %d", what, err, want)
	}
}

// must holds that a call of the preparation has no error.
func must(t *testing.T, err error) {
	t.Helper()
	if err != nil {
		t.Fatal(err)
	}
}

// entry is all that is stored for a height.
type entry struct {
	height int
	tree   *avl.Tree
	note   string
}

// at is something for a height; there are no keys in every thirteenth tree.
func at(height int) entry {
	e := entry{height: height, note: "note of " + strconv.Itoa(height)}
	for i := range 3 * (height % 13) % 13 {
		e.tree = e.tree.Set("key"+strconv.Itoa(i*7%13), "v"+strconv.Itoa(i)+" of "+strconv.Itoa(height))
	}
	return e
}

// run is something for each height from first to last.
func run(first, last int) []entry {
	var l []entry
	for height := first; height <= last; height++ {
		l = append(l, at(height))
	}
	return l
}

// packed is the encoding of what may be a version.
func packed(height int, shape []bool, l []api.Pair, note string) string {
	w := pack.New().Int(height).Uint(uint64(len(shape)))
	for _, isNode := range shape {
		w.Bool(isNode)
	}
	for _, pair := range l {
		w.Text(pair.Key).Text(pair.Value)
	}
	return string(w.Text(note).Done())
}

// encoded is the encoding of a version.
func encoded(e entry) string {
	return packed(e.height, e.tree.Shape(), e.tree.Range("", ""), e.note)
}

// open is the Store of the file f.
func open(t *testing.T, f *files.FS, keep int) *state.Store {
	t.Helper()
	s, err := state.Open(f, "f", keep)
	must(t, err)
	return s
}

// commit commits all of l.
func commit(t *testing.T, s *state.Store, l []entry) {
	t.Helper()
	for _, e := range l {
		must(t, s.Commit(e.height, e.tree, e.note))
	}
}

// holding is a file system whose file f has these versions, and its Store, which would keep many more.
func holding(t *testing.T, l []entry) (*files.FS, *state.Store) {
	t.Helper()
	f := files.New()
	s := open(t, f, 1000)
	commit(t, s, l)
	return f, s
}

// sameTree tells whether trees have the same structure, keys and values.
func sameTree(a, b *avl.Tree) bool {
	return a.Root() == b.Root() && slices.Equal(a.Shape(), b.Shape()) && slices.Equal(a.Range("", ""), b.Range("", ""))
}

// difference is where a Store differs from these versions and no others, or nothing.
func difference(s *state.Store, l []entry) string {
	var last entry
	if len(l) > 0 {
		last = l[len(l)-1]
	}
	if s.Height() != last.height {
		return "Height " + strconv.Itoa(s.Height()) + ", want " + strconv.Itoa(last.height)
	}
	if !sameTree(s.Tree(), last.tree) {
		return "Tree differs"
	}
	others := []int{0, -1, -last.height, last.height + 1, last.height + 1000, math.MaxInt, math.MinInt}
	for _, e := range l {
		tree, note, err := s.Version(e.height)
		if err != nil || note != e.note || !sameTree(tree, e.tree) {
			return "Version " + strconv.Itoa(e.height) + " differs"
		}
		b, err := s.Snapshot(e.height)
		if err != nil || string(b) != encoded(e) {
			return "Snapshot " + strconv.Itoa(e.height) + " differs"
		}
		others = append(others, e.height-1, e.height-2, e.height+1)
	}
	for _, height := range others {
		if slices.ContainsFunc(l, func(e entry) bool { return e.height == height }) {
			continue
		}
		tree, note, err := s.Version(height)
		b, also := s.Snapshot(height)
		if !errors.Is(err, api.ErrNone) || !errors.Is(also, api.ErrNone) || tree != nil || note != "" || len(b) != 0 {
			return "Version or Snapshot of " + strconv.Itoa(height) + ", which is not there"
		}
	}
	return ""
}

// wantVersions holds that a Store has these versions and no others.
func wantVersions(t *testing.T, what string, s *state.Store, l []entry) {
	t.Helper()
	if d := difference(s, l); d != "" {
		t.Errorf("%s: %s", what, d)
	}
}

// wantFile holds that the file f has these many bytes, with this hash, all of them safe.
func wantFile(t *testing.T, what string, f *files.FS, size int, hash string) {
	t.Helper()
	b, err := f.Read("f")
	must(t, err)
	if len(b) != size || sha.Text(sha.Sum(b)) != hash {
		t.Errorf("%s: %d bytes with the hash %s", what, len(b), sha.Text(sha.Sum(b)))
	}
	if safe, err := f.Safe("f"); safe != size || err != nil {
		t.Errorf("%s: %d bytes safe, %v", what, safe, err)
	}
}

// wantUnchanged holds that do does nothing to the files.
func wantUnchanged(t *testing.T, what string, f *files.FS, do func()) {
	t.Helper()
	steps, list := f.Steps(), f.List()
	do()
	if f.Steps() != steps || !slices.Equal(f.List(), list) {
		t.Errorf("%s: %d steps, files %q", what, f.Steps()-steps, f.List())
	}
}

// TestST1New: a Store without versions.
func TestST1New(t *testing.T) {
	f := files.New()
	wantUnchanged(t, "new", f, func() {
		s := open(t, f, 2)
		wantVersions(t, "new", s, nil)
		if s.Tree() != nil {
			t.Error("new: there is a tree")
		}
	})
}

// TestST2Example: the example of the chapter.
func TestST2Example(t *testing.T) {
	f := files.New()
	s := open(t, f, 2)
	commit(t, s, run(1, 3))
	_, _, err := s.Version(1)
	wantErr(t, "Version(1)", err, api.ErrNone)
	wantVersions(t, "keep 2", s, run(2, 3))
	wantVersions(t, "keep 2, opened again", open(t, f, 2), run(2, 3))
}

// letters is the tree of these keys, set in this order, with values from 1 on, and downwards from many if it is not 0.
func letters(keys string, many int) *avl.Tree {
	var x *avl.Tree
	for i, k := range keys {
		value := i + 1
		if many > 0 {
			value = many - i
		}
		x = x.Set(string(k), strconv.Itoa(value))
	}
	return x
}

// TestST2Encoding: encodings that were made outside Go.
func TestST2Encoding(t *testing.T) {
	var none *avl.Tree
	for _, c := range []struct {
		entry
		want string
	}{
		{entry{1, nil, ""}, "020000"},
		{entry{1, none.Set("", ""), ""}, "020100000000"},
		{entry{5, none.Set("a", "b"), "note"}, "0a010001610162046e6f7465"},
		{entry{64, letters("abc", 0), "\xff\x00"}, "800105010001000001610131016201320163013302ff00"},
		{entry{api.MaxHeight, letters("dcba", 4), strings.Repeat("n", 200)},
			"808080808040070101000001000001610131016201320163013301640134c801" + strings.Repeat("6e", 200)},
		{entry{math.MaxInt, letters("abc", 0).Set("d", strings.Repeat("x", 130)), ""},
			"feffffffffffffffff01070101000001000001610131016201320163013301648201" + strings.Repeat("78", 130) + "00"},
		{at(1), "02050101000000046b657930077630206f662031046b657931077632206f662031046b657937077631206f662031096e6f7465206f662031"},
		{at(2), "040b0101000100000100010000046b657930077630206f662032046b657931077632206f662032046b657932077634206f662032" +
			"046b657937077631206f662032046b657938077633206f662032046b657939077635206f662032096e6f7465206f662032"},
	} {
		want, err := hex.DecodeString(c.want)
		must(t, err)
		what := "height " + strconv.Itoa(c.height)
		f := files.New()
		s := open(t, f, 1)
		must(t, s.Restore(want))
		wantVersions(t, what+" restored", s, []entry{c.entry})
		wantVersions(t, what+" restored, opened again", open(t, f, 1), []entry{c.entry})
		if c.height > api.MaxHeight {
			continue
		}
		_, s = holding(t, []entry{c.entry})
		got, err := s.Snapshot(c.height)
		if err != nil || !bytes.Equal(got, want) {
			t.Errorf("%s: Snapshot %x, %v", what, got, err)
		}
	}
}

// TestST2Roots: roots that were made outside Go.
func TestST2Roots(t *testing.T) {
	f, s := holding(t, run(1, 6))
	want := []string{
		"29b0ea883d1e4d0e0bc8f2c474d781d3441f909a9f072c88b1987625c6115b16",
		"0dd680b5a417718edd418e1d2972497e6bba16c3099af9d5bb96730cd5f33fc3",
		"ddea9abde1b2bfea1bf3843feac0c17b8503b86d4e24d19df42814efa41aeb02",
		"ebe226561b95833cbbec521f8f9c6712680cbcbd00c6114589822b98ffa46a30",
		"b46f8a06b74ce80dc7e435039411935163db88f84a832b8009029574b7fb9af5",
		"4c4c3bbbf5869e7c715e5c7017bf0b1edc48b35e367a19a045bb6baed0b750fd",
	}
	for range 2 {
		for i, root := range want {
			tree, _, err := s.Version(i + 1)
			if err != nil || sha.Text(tree.Root()) != root {
				t.Errorf("Version(%d): root %s, %v", i+1, sha.Text(tree.Root()), err)
			}
		}
		if got := sha.Text(s.Tree().Root()); got != want[5] {
			t.Errorf("Tree: root %s", got)
		}
		s = open(t, f, 3)
	}
}

// TestST2Stored: the bytes of the file were made outside Go.
func TestST2Stored(t *testing.T) {
	f := files.New()
	s := open(t, f, 2)
	for i, w := range []struct {
		size int
		file string
	}{
		{87, "fff738c2cdd870babcd240cb902ca4691ab3f0345fe849d42089fd7ac5f8329f"},
		{219, "1c0c2d2de0c5b00f0200ed4dbc40c9a6933b7dca9c490cf4b7c52f9d5e3df991"},
		{415, "e128b8b28f07f69f982a13a48f0dd77934235b700485904ea60ca5982c4a9202"},
		{660, "0b626ff396c3f46e65d4ea49013d2ddafa45fcb89a0761a99bef08a4b59a0833"},
		{749, "29f958531cdc5f49faae3ccc95431362c173493d0fa0d0530f6afe10678e1b0e"},
	} {
		commit(t, s, run(i+1, i+1))
		wantFile(t, "Commit", f, w.size, w.file)
		wantVersions(t, "committed", s, run(max(1, i), i+1))
		wantVersions(t, "opened again", open(t, f, 2), run(max(1, i), i+1))
	}
	must(t, s.Back(4))
	wantFile(t, "Back", f, 779, "f1d0e18e7bc07024408a6d27877aa96a3e72660c0d804c2efe17990b4cf29ecd")
	commit(t, s, run(5, 5))
	wantFile(t, "Commit behind Back", f, 868, "c741179a3ae305eb108b9f0aace199aef78371f0e4598cf34efe51d8f0cfcc4f")
	commit(t, s, run(6, 6))
	wantFile(t, "Commit", f, 1002, "520949224a4bb9c833d1cd748943de1f565237a241d0b837f22134b8f1959be8")
	wantVersions(t, "at the end", open(t, f, 2), run(5, 6))
}

// TestST2StoredFirst: a first version with the removal of one that is not there, or without it; made outside Go.
func TestST2StoredFirst(t *testing.T) {
	for _, c := range []struct {
		height, keep, size int
		file               string
	}{
		{10, 3, 124, "ca7f786056bea08ff617cccddc6d91f9cf3565256eef59c64c772c36e9338b81"},
		{3, 3, 179, "fa7c58c0fbc5dcc61eaf50efa1f76b829bd5d2c5f56ae88d89d5b277f72137ac"},
		{4, 3, 245, "67c7cd64040292fc8545f40396ba0344ff348c53348993b248f97cf9de6bd57c"},
		{api.MaxHeight, 1000, 321, "453052244e9688a13db5950f1b8197c4bd7e9243b20a1f5b881e2b8e7d5f88c9"},
	} {
		f := files.New()
		s := open(t, f, c.keep)
		commit(t, s, []entry{at(c.height)})
		wantFile(t, "Commit", f, c.size, c.file)
		wantVersions(t, "committed", s, []entry{at(c.height)})
		wantVersions(t, "opened again", open(t, f, c.keep), []entry{at(c.height)})
	}
}

// TestST2StoredMore: a Back that removes several versions, and versions restored; made outside Go.
func TestST2StoredMore(t *testing.T) {
	f := files.New()
	s := open(t, f, 9)
	commit(t, s, run(7, 11))
	wantFile(t, "Commit", f, 728, "39709bebad2183173b251f78e99ce721680a1b75c7f58a43e6b85a9ca8d4ce8c")
	must(t, s.Back(8))
	wantFile(t, "Back", f, 792, "55d15a4b6358bda1696873c03e4724891309401a9a382a8cccead3dd0c3a49cf")

	f = files.New()
	must(t, open(t, f, 1).Restore([]byte(encoded(at(4)))))
	wantFile(t, "Restore", f, 228, "98ad48c8f4def73f65e6a66373fbdbaf0beb77d5d950ecf141c444f38a2fcbc7")
	f = files.New()
	e := at(4)
	must(t, open(t, f, 1).Restore([]byte(packed(math.MaxInt, e.tree.Shape(), e.tree.Range("", ""), e.note))))
	wantFile(t, "Restore of the greatest height", f, 243, "7832d5106564e5d3d7d47808442e4b3fe523bf76089c3d305a69ce0afff71b6c")
}

// TestST2Memory: nothing of an argument is kept or changed, and what is returned is new each time.
func TestST2Memory(t *testing.T) {
	f, s := holding(t, run(4, 6))
	for range 2 {
		b, err := s.Snapshot(5)
		must(t, err)
		clear(b)
		clear(b[:cap(b)])
		tree, _, err := s.Version(6)
		must(t, err)
		tree.Set("key0", "other").Drop("key7")
		s.Tree().Set("key0", "other").Drop("key7")
		wantVersions(t, "a result was changed", s, run(4, 6))
	}
	wantVersions(t, "opened again", open(t, f, 3), run(4, 6))

	b := []byte(encoded(at(5)))
	same := bytes.Clone(b)
	f = files.New()
	s = open(t, f, 3)
	must(t, s.Restore(b))
	if !bytes.Equal(b, same) {
		t.Fatal("Restore changed an argument")
	}
	clear(b)
	wantVersions(t, "an argument was changed", s, run(5, 5))
	wantVersions(t, "opened again", open(t, f, 3), run(5, 5))
}

// TestST2TwoStores: stores in files of their own know nothing of each other.
func TestST2TwoStores(t *testing.T) {
	f, s := holding(t, run(1, 3))
	other, err := state.Open(f, "g", 2)
	must(t, err)
	wantVersions(t, "the other one", other, nil)
	commit(t, other, run(7, 9))
	wantVersions(t, "the one", s, run(1, 3))
	wantVersions(t, "the other one", other, run(8, 9))
	wantVersions(t, "the one, opened again", open(t, f, 1), run(1, 3))
}

// TestST3NilStore: what the methods return on a nil Store.
func TestST3NilStore(t *testing.T) {
	var s *state.Store
	if s.Height() != 0 || s.Tree() != nil {
		t.Errorf("nil: Height %d, Tree %v", s.Height(), s.Tree())
	}
	for _, height := range []int{0, 1, -1, math.MaxInt, math.MinInt} {
		wantErr(t, "Commit", s.Commit(height, at(1).tree, ""), api.ErrArg)
		wantErr(t, "Commit of nothing", s.Commit(height, nil, ""), api.ErrArg)
		wantErr(t, "Back", s.Back(height), api.ErrArg)
		tree, note, err := s.Version(height)
		wantErr(t, "Version", err, api.ErrArg)
		b, err := s.Snapshot(height)
		wantErr(t, "Snapshot", err, api.ErrArg)
		if tree != nil || note != "" || len(b) != 0 {
			t.Error("nil: something beside an error")
		}
	}
	wantErr(t, "Restore", s.Restore([]byte(encoded(at(1)))), api.ErrArg)
	wantErr(t, "Restore of nothing", s.Restore(nil), api.ErrArg)
}
