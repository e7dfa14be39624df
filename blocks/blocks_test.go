package blocks_test

import (
	"bytes"
	"errors"
	"math"
	"reflect"
	"slices"
	"strconv"
	"testing"

	"isthmus/api"
	"isthmus/blocks"
	"isthmus/files"
	"isthmus/sha"
	"isthmus/types"
)

// wantErr holds that err is the number want, or nil for 0.
func wantErr(t *testing.T, what string, err error, want api.Errno) {
	t.Helper()
	if want == 0 && err == nil {
		return
	}
	var number api.Errno
	if !errors.As(err, &number) || number != want {
		t.Errorf("%s: %v, want error %d", what, err, want)
	}
}

// must holds that a call of the preparation has no error.
func must(t *testing.T, err error) {
	t.Helper()
	if err != nil {
		t.Fatal(err)
	}
}

// hashOf is a hash that stands for something.
func hashOf(text string) api.Hash { return sha.Sum([]byte(text)) }

// entry is all that is stored for a height.
type entry struct {
	block  api.Block
	commit api.Commit
	set    []api.Validator
}

// members are the validators of a height.
func members(height int) []api.Validator {
	return []api.Validator{
		{Name: "alice", Key: hashOf("alice"), Power: 3},
		{Name: "bob", Key: hashOf("bob"), Power: 1 + (height-1)%1000},
	}
}

// sealed is a block with what its header tells of it, and with a commit for it.
func sealed(b api.Block, set []api.Validator) entry {
	h := b.Header.Height
	b.Header.Txs, b.Header.Validators = types.TxsHash(b.Txs), types.SetHash(set)
	c := api.Commit{Height: h, Round: h % 4, Block: types.HeaderHash(b.Header)}
	for i := range set {
		sign := "sign" + strconv.Itoa(i) + " of " + strconv.Itoa(h)
		c.Votes = append(c.Votes, api.Vote{Kind: api.Precommit, Height: h, Round: c.Round, Block: c.Block, Validator: i, Sign: []byte(sign)})
	}
	return entry{b, c, set}
}

// after is what can be stored for the height behind that of last.
func after(last api.Commit) entry {
	h := last.Height + 1
	var txs [][]byte
	for i := range h % 3 {
		txs = append(txs, []byte("tx"+strconv.Itoa(i)+" of "+strconv.Itoa(h)))
	}
	header := api.Header{
		Chain: "one", Height: h, Time: min(10*h, api.MaxTime), Last: last.Block,
		App: hashOf("app" + strconv.Itoa(h)), Next: types.SetHash(members(h + 1)), Proposer: h % 2,
	}
	return sealed(api.Block{Header: header, Txs: txs, Last: last}, members(h))
}

// chain is what can be stored for the heights from first to last.
func chain(first, last int) []entry {
	var c api.Commit
	if first > 1 {
		c = api.Commit{Height: first - 1, Block: hashOf("ahead")}
	}
	var l []entry
	for h := first; h <= last; h++ {
		l = append(l, after(c))
		c = l[len(l)-1].commit
	}
	return l
}

// open is the Store of the file f.
func open(t *testing.T, f *files.FS) *blocks.Store {
	t.Helper()
	s, err := blocks.Open(f, "f")
	must(t, err)
	return s
}

// save saves all of l.
func save(t *testing.T, s *blocks.Store, l []entry) {
	t.Helper()
	for _, e := range l {
		must(t, s.Save(e.block, e.commit, e.set))
	}
}

// holding is a file system whose file f has these heights, and its Store.
func holding(t *testing.T, l []entry) (*files.FS, *blocks.Store) {
	t.Helper()
	f := files.New()
	s := open(t, f)
	save(t, s, l)
	return f, s
}

// sameBlock tells whether blocks are equal, nil or empty.
func sameBlock(a, b api.Block) bool { return bytes.Equal(types.EncodeBlock(a), types.EncodeBlock(b)) }

// sameCommit tells whether commits are equal, nil or empty.
func sameCommit(a, b api.Commit) bool {
	return bytes.Equal(types.EncodeCommit(a), types.EncodeCommit(b))
}

// wantNone holds that nothing is stored for a height.
func wantNone(t *testing.T, what string, s *blocks.Store, height int, want api.Errno) {
	t.Helper()
	what += ", height " + strconv.Itoa(height)
	b, err := s.Block(height)
	wantErr(t, what+": Block", err, want)
	c, err := s.Commit(height)
	wantErr(t, what+": Commit", err, want)
	l, err := s.Set(height)
	wantErr(t, what+": Set", err, want)
	if !reflect.DeepEqual(b, api.Block{}) || !reflect.DeepEqual(c, api.Commit{}) || len(l) != 0 {
		t.Errorf("%s: something beside an error", what)
	}
}

// wantStored holds that l, which are consecutive, are stored, and nothing else is.
func wantStored(t *testing.T, what string, s *blocks.Store, l []entry) {
	t.Helper()
	base, top := 0, 0
	if len(l) > 0 {
		base, top = l[0].block.Header.Height, l[len(l)-1].block.Header.Height
	}
	if s.Base() != base || s.Height() != top {
		t.Errorf("%s: from %d to %d, want from %d to %d", what, s.Base(), s.Height(), base, top)
	}
	for i, e := range l {
		b, err := s.Block(base + i)
		must(t, err)
		c, err := s.Commit(base + i)
		must(t, err)
		set, err := s.Set(base + i)
		must(t, err)
		if !sameBlock(b, e.block) || !sameCommit(c, e.commit) || !slices.Equal(set, e.set) {
			t.Errorf("%s: height %d differs", what, base+i)
		}
	}
	for _, height := range []int{base - 1, top + 1, base - 1000, top + 1000, 0, -1, -base, math.MaxInt, math.MinInt} {
		if len(l) == 0 || height < base || height > top {
			wantNone(t, what, s, height, api.ErrNone)
		}
	}
}

// wantFile holds that the file f has these many bytes, with this hash.
func wantFile(t *testing.T, what string, f *files.FS, size int, hash string) {
	t.Helper()
	b, err := f.Read("f")
	must(t, err)
	if len(b) != size || sha.Text(sha.Sum(b)) != hash {
		t.Errorf("%s: %d bytes with the hash %s", what, len(b), sha.Text(sha.Sum(b)))
	}
}

// wantUnchanged holds that do does nothing to the files.
func wantUnchanged(t *testing.T, what string, f *files.FS, do func()) {
	t.Helper()
	steps, list := f.Steps(), f.List()
	do()
	if f.Steps() != steps || !slices.Equal(f.List(), list) {
		t.Errorf("%s: %d steps, files %q", what, f.Steps()-steps, f.List())
	}
}

// TestBL2New: the example of the chapter.
func TestBL2New(t *testing.T) {
	f := files.New()
	wantUnchanged(t, "Open", f, func() { wantStored(t, "new", open(t, f), nil) })
}

// TestBL2Stored: the bytes of the file, and the hashes of the blocks, were made outside Go.
func TestBL2Stored(t *testing.T) {
	want := []struct {
		size        int
		file, block string
	}{
		{487, "d2983630dc2a3e73c7de3500376d9d73670d0690d451d342fe5bf1077308600a", "68508c642c8c7c34a3b7721f40ac132a95463f42914d814ae82965d7bd00472f"},
		{1077, "cf2d96aca5d8bb8a2de47fad88db6c57b356158ec2aadce963df5a35f3257e52", "c2dd8a3a895aac7b9c216df06981c9f2e803ab270d9eda626b5c84343725ba53"},
		{1649, "5c644af7443e19e81b524b7c23194cf9291bbeeddbddb7a0ef9b4d90675399b1", "7a7d4ca67ef7132e0da2640af2b73d2543a45f55383d04dc1158cba8b5f966f2"},
		{2230, "0664628731dae1697ecae510ddf7a30a3c780b33d10ae99393a4a424d1850217", "f9ecff15a6b264fc6e5177e9844d0e9ee534a76d4421ac208e566d779eeda8c7"},
	}
	f, l := files.New(), chain(1, 4)
	s := open(t, f)
	for i, w := range want {
		save(t, s, l[i:i+1])
		wantFile(t, "Save", f, w.size, w.file)
		if got := sha.Text(l[i].commit.Block); got != w.block {
			t.Errorf("block %d: %s", i+1, got)
		}
		if safe, err := f.Safe("f"); safe != w.size || err != nil {
			t.Errorf("Save: %d bytes safe, %v", safe, err)
		}
		wantStored(t, "saved", s, l[:i+1])
		wantStored(t, "opened again", open(t, f), l[:i+1])
	}
	must(t, s.Prune(3))
	wantFile(t, "Prune", f, 1205, "afaef72d7516ab1e4db4f58ea8cf8b7c371a5c28cbddd807d54aa745c1eaf9ab")
	wantStored(t, "pruned", s, l[2:])
	wantStored(t, "pruned, opened again", open(t, f), l[2:])
}

// TestBL2FirstHeight: a first block can have any height that a block can have, and is followed by the next one.
func TestBL2FirstHeight(t *testing.T) {
	for _, first := range []int{1, 2, 3, 9, 10, 1000, 1 << 32, api.MaxHeight - 1, api.MaxHeight} {
		last := min(first+2, api.MaxHeight)
		l := chain(first, last)
		f, s := holding(t, l)
		wantStored(t, "saved", s, l)
		wantStored(t, "opened again", open(t, f), l)
		e := after(l[len(l)-1].commit)
		if last == api.MaxHeight {
			wantErr(t, "behind the greatest height", s.Save(e.block, e.commit, e.set), api.ErrBlock)
			wantStored(t, "behind the greatest height", s, l)
			continue
		}
		save(t, s, []entry{e})
		wantStored(t, "one more", s, append(l, e))
	}
}

// TestBL2Memory: nothing of an argument is kept or changed, and what is returned is new each time.
func TestBL2Memory(t *testing.T) {
	f, s := holding(t, chain(4, 5))
	e, same := after(chain(4, 5)[1].commit), after(chain(4, 5)[1].commit)
	e.block.Txs, same.block.Txs = [][]byte{[]byte("a"), []byte("b")}, [][]byte{[]byte("a"), []byte("b")}
	e, same = sealed(e.block, e.set), sealed(same.block, same.set)
	save(t, s, []entry{e})
	if !reflect.DeepEqual(e, same) {
		t.Fatal("Save changed an argument")
	}
	spoil := func(b api.Block, c api.Commit, l []api.Validator) {
		b.Txs[0] = append(b.Txs[0][:0], "xxx"...)
		b.Txs[1][0] = 'y'
		b.Last.Votes[0].Sign[0]++
		c.Votes[1].Sign[0]++
		c.Votes[0].Height++
		l[0].Name = "x"
	}
	spoil(e.block, e.commit, e.set)
	for range 2 {
		wantStored(t, "an argument was changed, then a result", s, append(chain(4, 5), same))
		b, err := s.Block(6)
		must(t, err)
		c, err := s.Commit(6)
		must(t, err)
		l, err := s.Set(6)
		must(t, err)
		spoil(b, c, l)
	}
	wantStored(t, "opened again", open(t, f), append(chain(4, 5), same))
}

// TestBL2TwoStores: stores in files of their own know nothing of each other.
func TestBL2TwoStores(t *testing.T) {
	f, s := holding(t, chain(1, 3))
	other, err := blocks.Open(f, "g")
	must(t, err)
	wantStored(t, "the other one", other, nil)
	save(t, other, chain(7, 8))
	wantStored(t, "the one", s, chain(1, 3))
	wantStored(t, "the other one", other, chain(7, 8))
	wantStored(t, "the one, opened again", open(t, f), chain(1, 3))
}

// TestBL3NilStore: what the methods return on a nil Store.
func TestBL3NilStore(t *testing.T) {
	var s *blocks.Store
	e := chain(1, 1)[0]
	wantErr(t, "Save", s.Save(e.block, e.commit, e.set), api.ErrArg)
	wantErr(t, "Save of nothing", s.Save(api.Block{}, api.Commit{}, nil), api.ErrArg)
	for _, height := range []int{0, 1, -1, math.MaxInt, math.MinInt} {
		wantNone(t, "nil", s, height, api.ErrArg)
		wantErr(t, "Prune", s.Prune(height), api.ErrArg)
	}
	if s.Base() != 0 || s.Height() != 0 {
		t.Errorf("nil: from %d to %d", s.Base(), s.Height())
	}
}
