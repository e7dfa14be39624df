package blocks_test

import (
	"maps"
	"math"
	"slices"
	"strconv"
	"strings"
	"testing"

	"isthmus/api"
	"isthmus/blocks"
	"isthmus/files"
	"isthmus/kv"
	"isthmus/types"
)

// digits are a height's in keys.
func digits(height int) string {
	s := strconv.Itoa(height)
	return strings.Repeat("0", max(0, 13-len(s))) + s
}

// pairsOf are the pairs of what is stored.
func pairsOf(l ...entry) map[string]string {
	m := map[string]string{}
	for _, e := range l {
		n := digits(e.block.Header.Height)
		m["b/"+n] = string(types.EncodeBlock(e.block))
		m["c/"+n] = string(types.EncodeCommit(e.commit))
		m["v/"+n] = string(types.EncodeSet(e.set))
	}
	return m
}

// at is something for a height that no block need have.
func at(height int) entry {
	return entry{api.Block{Header: api.Header{Height: height}}, api.Commit{Height: height}, nil}
}

// file is a file system whose file f has these pairs.
func file(t *testing.T, m map[string]string) *files.FS {
	t.Helper()
	f := files.New()
	pairs, err := kv.Open(f, "f")
	must(t, err)
	for _, k := range slices.Sorted(maps.Keys(m)) {
		must(t, pairs.Apply([]kv.Change{{Key: k, Value: m[k]}}))
	}
	return f
}

// wantNoOpen holds that Open returns the error want, nothing beside it, and does nothing to the files.
func wantNoOpen(t *testing.T, what string, f *files.FS, name string, want api.Errno) {
	t.Helper()
	wantUnchanged(t, what, f, func() {
		s, err := blocks.Open(f, name)
		wantErr(t, what, err, want)
		if s != nil {
			t.Errorf("%s: a Store beside the error", what)
		}
	})
}

// TestBL1OpenPairs: pairs that were not saved by a Store.
func TestBL1OpenPairs(t *testing.T) {
	for what, l := range map[string][]entry{
		"no blocks":                   nil,
		"a first block":               chain(1, 1),
		"some blocks":                 chain(8, 12),
		"blocks that are not linked":  {chain(4, 4)[0], chain(5, 5)[0], chain(6, 6)[0]},
		"blocks that can't be":        {at(7), at(8)},
		"the greatest height":         chain(api.MaxHeight, api.MaxHeight),
		"a height too great":          {at(api.MaxHeight), at(api.MaxHeight + 1)},
		"the greatest of 13 digits":   {at(1e13 - 2), at(1e13 - 1)},
		"the least ones of 14 digits": {at(1e13), at(1e13 + 1)},
		"the greatest ones":           {at(math.MaxInt - 1), at(math.MaxInt)},
	} {
		f := file(t, pairsOf(l...))
		wantUnchanged(t, what, f, func() { wantStored(t, what, open(t, f), l) })
	}
}

// TestBL1OpenUnlinked: what goes on behind a block that can't be saved, and what does not go on behind too great a height.
func TestBL1OpenUnlinked(t *testing.T) {
	last := at(7)
	last.commit.Block = types.HeaderHash(last.block.Header)
	f := file(t, pairsOf(last))
	s := open(t, f)
	e := after(last.commit)
	save(t, s, []entry{e})
	wantStored(t, "saved", open(t, f), []entry{last, e})
	for _, height := range []int{api.MaxHeight, 1e13 + 1, math.MaxInt} {
		s := open(t, file(t, pairsOf(at(height-1), at(height))))
		e := after(api.Commit{Height: height, Block: types.HeaderHash(at(height).block.Header)})
		wantErr(t, "a block that can't be", s.Save(e.block, e.commit, e.set), api.ErrBlock)
		e = chain(1, 1)[0]
		wantErr(t, "another height", s.Save(e.block, e.commit, e.set), api.ErrHeight)
		must(t, s.Prune(height))
		wantStored(t, "pruned", s, []entry{at(height)})
	}
}

// TestBL1OpenHalt: pairs that are not those of consecutive heights.
func TestBL1OpenHalt(t *testing.T) {
	l := chain(4, 7)
	foreign := []string{
		"", "b", "c/", "b/", "v/", "a/0000000000005", "B/0000000000008", "d/0000000000008", "w/0000000000008", "x", "b0",
		"b/8", "c/8", "v/8", "b/000000000008", "b/00000000000008", "c/00000000000008", "b/+000000000008", "b/-000000000008",
		"b/00000000000-8", "b/000000000000x", "b/0000000000008x", "b/0000000000008/", "b/0x00000000008", "b/0_000000000_8",
		"b/            8", "b 0000000000008", "b00000000000008", "/0000000000008", "b/9223372036854775808",
		"b/18446744073709551624", "b/99999999999999999999999999",
	}
	for _, k := range foreign {
		for _, kept := range []map[string]string{pairsOf(), pairsOf(l...)} {
			for _, e := range l[:2] { // a value of its own, or one that belongs to another key
				kept[k] = string(types.EncodeBlock(e.block))
				wantNoOpen(t, "the key "+strconv.Quote(k), file(t, kept), "f", api.ErrHalt)
			}
		}
	}
	for k := range pairsOf(l...) {
		m := pairsOf(l...)
		delete(m, k)
		wantNoOpen(t, "without "+k, file(t, m), "f", api.ErrHalt)
		m = map[string]string{k: m[k]}
		wantNoOpen(t, k+" alone", file(t, m), "f", api.ErrHalt)
	}
	for _, mark := range []string{"b/", "c/", "v/"} {
		for _, height := range []string{digits(3), digits(8)} {
			m := pairsOf(l...)
			m[mark+height] = pairsOf(chain(3, 8)...)[mark+height]
			wantNoOpen(t, mark+" of a height alone", file(t, m), "f", api.ErrHalt)
			m[mark+digits(5)], m[mark+digits(6)] = m[mark+digits(6)], m[mark+digits(5)]
			delete(m, mark+height)
			if mark != "v/" {
				wantNoOpen(t, mark+" of two heights in each other's place", file(t, m), "f", api.ErrHalt)
			}
		}
	}
}

// TestBL1OpenThreePairs: as many pairs as some heights have, which are not theirs.
func TestBL1OpenThreePairs(t *testing.T) {
	l := chain(4, 6)
	own := pairsOf(l...)
	for _, change := range []struct{ gone, come string }{
		{"c/" + digits(5), "c/" + digits(7)},
		{"v/" + digits(5), "v/" + digits(7)},
		{"c/" + digits(6), "v/" + digits(7)},
		{"v/" + digits(4), "v/4"},
		{"c/" + digits(4), "c/" + digits(3)},
		{"v/" + digits(6), "x"},
		{"b/" + digits(6), "b/6"},
		{"b/" + digits(6), "b/" + digits(7)},
		{"b/" + digits(4), "b/+" + digits(4)[1:]},
		{"b/" + digits(4), "a/" + digits(4)},
		{"b/" + digits(4), "b/" + digits(3)},
	} {
		m := maps.Clone(own)
		m[change.come] = m[change.gone]
		delete(m, change.gone)
		wantNoOpen(t, change.come+" for "+change.gone, file(t, m), "f", api.ErrHalt)
	}
}

// TestBL1OpenHeights: heights that are not consecutive, in the order of their keys, or are none.
func TestBL1OpenHeights(t *testing.T) {
	for what, l := range map[string][]int{
		"a gap":                          {1, 3},
		"a gap behind others":            {5, 6, 7, 9},
		"a great gap":                    {1, 1 << 40},
		"height 0":                       {0},
		"height 0, and others":           {0, 1, 2},
		"a negative height":              {-5},
		"negative heights, and height 0": {-1, 0},
		"13 and 14 digits":               {1e13 - 1, 1e13},
		"14 and 15 digits":               {1e14 - 1, 1e14},
		"18 and 19 digits":               {1e18 - 1, 1e18},
		"the greatest and the least one": {math.MaxInt, math.MinInt},
		"the greatest one and one":       {1, math.MaxInt},
	} {
		var all []entry
		for _, height := range l {
			all = append(all, at(height))
		}
		wantNoOpen(t, what, file(t, pairsOf(all...)), "f", api.ErrHalt)
	}
	own := pairsOf(at(5))
	for height := range 12 {
		for mark, other := range pairsOf(at(height)) {
			m := maps.Clone(own)
			m[mark[:2]+digits(5)] = other
			f := file(t, m)
			if height == 5 || mark[0] == 'v' {
				wantStored(t, "the same height", open(t, f), []entry{at(5)})
			} else {
				wantNoOpen(t, "another height in "+mark, f, "f", api.ErrHalt)
			}
		}
	}
}

// TestBL1OpenValues: each value cut off, with a byte more, and changed to another's.
func TestBL1OpenValues(t *testing.T) {
	own := pairsOf(chain(4, 5)...)
	for k, v := range own {
		spoil := []string{v + "\x00", v + v, "x" + v, v[1:]}
		for n := range len(v) {
			spoil = append(spoil, v[:n])
		}
		for other := range own {
			if other[0] != k[0] {
				spoil = append(spoil, own[other])
			}
		}
		for _, value := range spoil {
			m := maps.Clone(own)
			m[k] = value
			wantNoOpen(t, "value of "+k, file(t, m), "f", api.ErrHalt)
		}
	}
	many := at(5)
	many.commit.Votes = make([]api.Vote, 33)
	wantNoOpen(t, "too many votes", file(t, pairsOf(many)), "f", api.ErrHalt)
	many = at(5)
	many.set = make([]api.Validator, 33)
	wantNoOpen(t, "too many validators", file(t, pairsOf(many)), "f", api.ErrHalt)
	many = at(5)
	many.block.Txs = make([][]byte, 65)
	wantNoOpen(t, "too many transactions", file(t, pairsOf(many)), "f", api.ErrHalt)
}

// TestBL1OpenErrors: those of kv.Open go first.
func TestBL1OpenErrors(t *testing.T) {
	f := files.New()
	for _, name := range []string{"", "a b", "a\x7f", "a\n", "é", strings.Repeat("x", 65)} {
		wantNoOpen(t, "the name "+strconv.Quote(name), f, name, api.ErrArg)
	}
	for _, name := range []string{"!", "~", strings.Repeat("x", 60)} {
		s, err := blocks.Open(f, name)
		must(t, err)
		save(t, s, chain(1, 2))
		s, err = blocks.Open(f, name)
		must(t, err)
		wantStored(t, name, s, chain(1, 2))
	}
	wantNoOpen(t, "no files", nil, "f", api.ErrArg)

	f, _ = holding(t, chain(1, 3))
	b, err := f.Read("f")
	must(t, err)
	for _, i := range []int{0, 10, 400, 600} {
		f := files.New()
		spoilt := slices.Clone(b)
		spoilt[i] ^= 1
		must(t, f.Append("f", spoilt))
		wantNoOpen(t, "a spoilt record", f, "f", api.ErrHalt)
	}
	must(t, f.Arm(0))
	f.Append("g", nil)
	wantNoOpen(t, "down", f, "f", api.ErrDown)

	foreign := file(t, map[string]string{"x": "y"})
	must(t, foreign.Append("f", []byte("torn")))
	must(t, foreign.Arm(0))
	wantNoOpen(t, "a foreign pair, and files that crash", foreign, "f", api.ErrDown)
}

// TestBL1OpenTorn: a record of which a crash has taken a part is cut off, and its height does not exist.
func TestBL1OpenTorn(t *testing.T) {
	f, _ := holding(t, chain(4, 6))
	b, err := f.Read("f")
	must(t, err)
	before, _ := holding(t, chain(4, 5))
	short, err := before.Read("f")
	must(t, err)
	for size := len(short); size <= len(b); size++ {
		f := files.New()
		must(t, f.Append("f", b[:size]))
		must(t, f.Append("f.new", []byte("x")))
		want := chain(4, 5)
		if size == len(b) {
			want = chain(4, 6)
		}
		s := open(t, f)
		wantStored(t, "torn", s, want)
		if !slices.Equal(f.List(), []string{"f"}) {
			t.Errorf("files %q", f.List())
		}
		save(t, s, chain(4, 7)[len(want):])
		wantStored(t, "one more", open(t, f), chain(4, 7))
	}
}
