package state_test

import (
	"maps"
	"math"
	"slices"
	"strconv"
	"strings"
	"testing"

	"isthmus/api"
	"isthmus/avl"
	"isthmus/files"
	"isthmus/kv"
	"isthmus/state"
)

// keyOf is the key of a version.
func keyOf(height int) string {
	s := strconv.Itoa(height)
	return "s/" + strings.Repeat("0", max(0, 13-len(s))) + s
}

// pairsOf are the pairs of versions.
func pairsOf(l ...entry) map[string]string {
	m := map[string]string{}
	for _, e := range l {
		m[keyOf(e.height)] = encoded(e)
	}
	return m
}

// bare is a version without keys.
func bare(height int) entry { return entry{height: height} }

// file is a file system whose file f has these pairs.
func file(t *testing.T, m map[string]string) *files.FS {
	t.Helper()
	f := files.New()
	pairs, err := kv.Open(f, "f")
	must(t, err)
	for _, k := range slices.Sorted(maps.Keys(m)) {
		must(t, pairs.Apply([]kv.Change{{Key: k, Value: m[k]}}))
	}
	return f
}

// wantNoOpen holds that Open returns the error want, nothing beside it, and does nothing to the files.
func wantNoOpen(t *testing.T, what string, f *files.FS, name string, keep int, want api.Errno) {
	t.Helper()
	wantUnchanged(t, what, f, func() {
		s, err := state.Open(f, name, keep)
		wantErr(t, what, err, want)
		if s != nil {
			t.Errorf("%s: a Store beside the error", what)
		}
	})
}

// down is a file system that has crashed.
func down(t *testing.T) *files.FS {
	t.Helper()
	f := files.New()
	must(t, f.Arm(0))
	wantErr(t, "crash", f.Append("g", nil), api.ErrDown)
	return f
}

// TestST1OpenKeep: how many versions can be retained; a wrong number goes ahead of all other errors.
func TestST1OpenKeep(t *testing.T) {
	whole, _ := holding(t, run(4, 6))
	for keep, want := range map[int]api.Errno{
		math.MinInt: api.ErrArg, -1: api.ErrArg, 0: api.ErrArg, 1: 0, 2: 0, 999: 0, 1000: 0, 1001: api.ErrArg, math.MaxInt: api.ErrArg,
	} {
		what := "keep " + strconv.Itoa(keep)
		if want != 0 {
			wantNoOpen(t, what, whole, "f", keep, want)
			wantNoOpen(t, what+", down", down(t), "f", keep, want)
			wantNoOpen(t, what+", a foreign pair", file(t, map[string]string{"x": "y"}), "f", keep, want)
			wantNoOpen(t, what+", no files", nil, "f", keep, want)
			continue
		}
		wantVersions(t, what, open(t, whole, keep), run(4, 6))
		wantVersions(t, what, open(t, files.New(), keep), nil)
		wantNoOpen(t, what+", down", down(t), "f", keep, api.ErrDown)
	}
}

// TestST1OpenPairs: pairs that were not stored by a Store.
func TestST1OpenPairs(t *testing.T) {
	for what, l := range map[string][]entry{
		"no versions":                 nil,
		"a first version":             run(1, 1),
		"some versions":               run(8, 14),
		"the greatest height":         run(api.MaxHeight-1, api.MaxHeight),
		"a height too great":          run(api.MaxHeight, api.MaxHeight+1),
		"the greatest of 13 digits":   run(1e13-2, 1e13-1),
		"the least ones of 14 digits": run(1e13, 1e13+1),
		"the greatest ones":           {at(math.MaxInt - 1), at(math.MaxInt)},
	} {
		f := file(t, pairsOf(l...))
		wantUnchanged(t, what, f, func() { wantVersions(t, what, open(t, f, 1), l) })
	}
}

// TestST1OpenKeys: keys that are none of a version, alone or beside some.
func TestST1OpenKeys(t *testing.T) {
	for _, k := range []string{
		"", "s", "s/", "s0", "t", "S/0000000000007", "r/0000000000007", "s.0000000000007", "s0000000000007", "/0000000000007",
		"s/7", "s/000000000007", "s/00000000000007", "s/+000000000007", "s/-000000000007", "s/00000000000-7", "s/000000000000x",
		"s/0000000000007x", "s/0000000000007/", "s/0x00000000007", "s/0_000000000_7", "s/            7", " s/0000000000007",
		"s/9223372036854775815", "s/18446744073709551623", "b/0000000000007",
	} {
		for _, m := range []map[string]string{pairsOf(), pairsOf(run(4, 6)...)} {
			for _, height := range []int{7, 4} { // a value that would fit a key, or one that belongs to another
				m[k] = encoded(at(height))
				wantNoOpen(t, "the key "+strconv.Quote(k), file(t, m), "f", 3, api.ErrHalt)
			}
		}
	}
}

// TestST1OpenHeights: heights that are less than 1, or not consecutive in the order of their keys.
func TestST1OpenHeights(t *testing.T) {
	for what, l := range map[string][]int{
		"height 0":                       {0},
		"height 0, and others":           {0, 1, 2},
		"a negative height":              {-5},
		"negative heights, and height 0": {-1, 0},
		"the least height":               {math.MinInt},
		"a gap":                          {1, 3},
		"a gap behind others":            {5, 6, 7, 9},
		"a gap ahead of others":          {5, 7, 8, 9},
		"a great gap":                    {1, 1 << 40},
		"13 and 14 digits":               {1e13 - 1, 1e13},
		"14 and 15 digits":               {1e14 - 1, 1e14},
		"18 and 19 digits":               {1e18 - 1, 1e18},
		"the greatest and the least one": {math.MaxInt, math.MinInt},
		"the greatest one and one":       {1, math.MaxInt},
	} {
		var all []entry
		for _, height := range l {
			all = append(all, bare(height))
		}
		wantNoOpen(t, what, file(t, pairsOf(all...)), "f", 1000, api.ErrHalt)
	}
	for height := range 12 {
		m := pairsOf(run(5, 6)...)
		m[keyOf(5)] = encoded(bare(height))
		if f := file(t, m); height == 5 {
			wantVersions(t, "the same height", open(t, f, 3), []entry{bare(5), at(6)})
		} else {
			wantNoOpen(t, "another height than the key's", f, "f", 3, api.ErrHalt)
		}
	}
	m := pairsOf(run(4, 5)...)
	m[keyOf(4)], m[keyOf(5)] = m[keyOf(5)], m[keyOf(4)]
	wantNoOpen(t, "two heights in each other's place", file(t, m), "f", 3, api.ErrHalt)
}

// untrees are encodings of what has the form of a version of height 5, but is none, by what is wrong with them.
func untrees() map[string]string {
	leaf, node := []bool{false}, []bool{true, false, false}
	pairs := func(keys ...string) []api.Pair {
		var l []api.Pair
		for _, k := range keys {
			l = append(l, api.Pair{Key: k, Value: "v"})
		}
		return l
	}
	deep := []bool{true, false, true, false, true, false, false}
	return map[string]string{
		"a node alone":              packed(5, []bool{true}, nil, ""),
		"a node of one leaf":        packed(5, []bool{true, false}, pairs("a"), ""),
		"two leaves":                packed(5, []bool{false, false}, pairs("a", "b"), ""),
		"a leaf more":               packed(5, append(node, false), pairs("a", "b", "c"), ""),
		"a node more":               packed(5, append([]bool{true}, node...), pairs("a", "b"), ""),
		"a node behind its parts":   packed(5, []bool{false, false, true}, pairs("a", "b"), ""),
		"parts out of balance":      packed(5, deep, pairs("a", "b", "c", "d"), ""),
		"a key twice":               packed(5, node, pairs("a", "a"), ""),
		"falling keys":              packed(5, node, pairs("b", "a"), ""),
		"no pair for a leaf":        packed(5, leaf, nil, "note"),
		"a pair too few":            packed(5, node, pairs("a"), "note"),
		"a pair too many":           packed(5, node, pairs("a", "b", "c"), "note"),
		"a pair without a leaf":     packed(5, nil, pairs("a"), "note"),
		"a byte behind":             packed(5, node, pairs("a", "b"), "note") + "\x00",
		"the same again":            strings.Repeat(encoded(at(5)), 2),
		"nothing":                   "",
		"a height alone":            "\x0a",
		"no Shape and no note":      "\x0a\x00",
		"a Shape with a byte 2":     "\x0a\x01\x02\x01a\x01b\x00",
		"a height in too many":      "\x8a\x00\x00\x00",
		"a length in too many":      "\x0a\x80\x00\x00",
		"a length in too many too":  "\x0a\x01\x00\x01a\x81\x00b\x00",
		"a height of too many bits": strings.Repeat("\xff", 9) + "\x02\x00\x00",
		"a Shape longer than all":   "\x0a\xff\xff\x3f\x00\x01a\x01b\x00",
		"a Shape of 2^64 - 1":       "\x0a" + strings.Repeat("\xff", 9) + "\x01\x00",
		"a text longer than all":    "\x0a\x01\x00\x01a\xff\xff\x3fb\x00",
		"a text of 2^64 - 1":        "\x0a\x01\x00\x01a" + strings.Repeat("\xff", 9) + "\x01b\x00",
	}
}

// TestST1OpenValues: values that are no encodings, among them each cut of some that are.
func TestST1OpenValues(t *testing.T) {
	for what, value := range untrees() {
		for _, m := range []map[string]string{pairsOf(), pairsOf(run(4, 6)...)} {
			m[keyOf(5)] = value
			wantNoOpen(t, what, file(t, m), "f", 3, api.ErrHalt)
		}
	}
	for height := range 5 {
		whole := encoded(at(height + 4))
		for n := range len(whole) {
			m := pairsOf(run(4, 8)...)
			m[keyOf(height+4)] = whole[:n]
			wantNoOpen(t, "cut at "+strconv.Itoa(n), file(t, m), "f", 3, api.ErrHalt)
		}
	}
}

// TestST1OpenTrees: trees are taken as they are stored, whatever the order in which keys could have made them.
func TestST1OpenTrees(t *testing.T) {
	l := []api.Pair{{Key: "", Value: "1"}, {Key: "\x00", Value: ""}, {Key: "\xff", Value: "3"}}
	for _, shape := range [][]bool{{true, false, true, false, false}, {true, true, false, false, false}} {
		tree, err := avl.Build(shape, l)
		must(t, err)
		e := entry{5, tree, "\x00\xff"}
		wantVersions(t, "three keys", open(t, file(t, pairsOf(e)), 3), []entry{e})
	}
}

// TestST1OpenErrors: those of kv.Open go ahead of what the pairs are.
func TestST1OpenErrors(t *testing.T) {
	f := files.New()
	for _, name := range []string{"", "a b", "a\x7f", "a\n", "é", strings.Repeat("x", 65)} {
		wantNoOpen(t, "the name "+strconv.Quote(name), f, name, 2, api.ErrArg)
	}
	for _, name := range []string{"!", "~", strings.Repeat("x", 64)} {
		s, err := state.Open(f, name, 2)
		must(t, err)
		commit(t, s, run(1, 3))
		s, err = state.Open(f, name, 2)
		must(t, err)
		wantVersions(t, name, s, run(2, 3))
	}
	wantNoOpen(t, "no files", nil, "f", 2, api.ErrArg)

	f, _ = holding(t, run(1, 3))
	b, err := f.Read("f")
	must(t, err)
	for _, i := range []int{0, 10, 100, 250} {
		f := files.New()
		spoilt := slices.Clone(b)
		spoilt[i] ^= 1
		must(t, f.Append("f", spoilt))
		wantNoOpen(t, "a spoilt record", f, "f", 2, api.ErrHalt)
	}
	foreign := file(t, map[string]string{"x": "y"})
	must(t, foreign.Append("f", []byte("torn")))
	must(t, foreign.Arm(0))
	wantNoOpen(t, "a foreign pair, and files that crash", foreign, "f", 2, api.ErrDown)
}

// TestST1OpenTorn: a record of which a crash has taken a part is cut off: its version is not there, and the one that it
// would have removed is.
func TestST1OpenTorn(t *testing.T) {
	f := files.New()
	s := open(t, f, 2)
	commit(t, s, run(4, 5))
	short, err := f.Read("f")
	must(t, err)
	commit(t, s, run(6, 6))
	b, err := f.Read("f")
	must(t, err)
	for size := len(short); size <= len(b); size++ {
		f := files.New()
		must(t, f.Append("f", b[:size]))
		must(t, f.Append("f.new", []byte("x")))
		s := open(t, f, 2)
		if size < len(b) {
			wantVersions(t, "torn", s, run(4, 5))
			commit(t, s, run(6, 6))
		}
		wantVersions(t, "whole", s, run(5, 6))
		wantVersions(t, "opened again", open(t, f, 2), run(5, 6))
		if !slices.Equal(f.List(), []string{"f"}) {
			t.Errorf("files %q", f.List())
		}
	}
}
