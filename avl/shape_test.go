package avl_test

import (
	"slices"
	"strconv"
	"testing"

	"isthmus/api"
	"isthmus/avl"
)

// parse is the height of the tree that a shape begins with, what is left of the shape, and whether the heights of the
// parts of each node differ by at most one.
func parse(shape []bool) (int, []bool, bool) {
	if len(shape) == 0 {
		return 0, nil, true
	}
	if !shape[0] {
		return 1, shape[1:], true
	}
	first, rest, good := parse(shape[1:])
	second, rest, also := parse(rest)
	good = good && also && first > 0 && second > 0 && first-second <= 1 && second-first <= 1
	return 1 + max(first, second), rest, good
}

// isShape tells whether a shape is that of a tree of n keys.
func isShape(shape []bool, n int) bool {
	leaves := 0
	for _, isNode := range shape {
		if !isNode {
			leaves++
		}
	}
	_, rest, good := parse(shape)
	return good && len(rest) == 0 && leaves == n
}

// pairsOf are n pairs in order.
func pairsOf(n int) []api.Pair {
	l := make([]api.Pair, n)
	for i := range l {
		l[i] = api.Pair{Key: string([]byte{byte(i >> 16), byte(i >> 8), byte(i)}), Value: strconv.Itoa(i)}
	}
	return l
}

// noTree holds that nothing is built.
func noTree(t *testing.T, what string, shape []bool, l []api.Pair) {
	t.Helper()
	x, err := avl.Build(shape, l)
	wantErr(t, what, err, api.ErrForm)
	if x != nil {
		t.Errorf("%s: a tree beside the error", what)
	}
}

func TestAV3Shape(t *testing.T) {
	var x *avl.Tree
	if got := x.Shape(); len(got) != 0 {
		t.Errorf("no keys: %v", got)
	}
	cases := []struct {
		keys []string
		want []bool
	}{
		{[]string{"a"}, []bool{false}},
		{[]string{"a", "b"}, []bool{true, false, false}},
		{[]string{"a", "b", "c"}, []bool{true, false, true, false, false}},
		{[]string{"c", "b", "a"}, []bool{true, true, false, false, false}},
		{[]string{"a", "b", "c", "d"}, []bool{true, true, false, false, true, false, false}},
	}
	for _, c := range cases {
		x = nil
		for _, key := range c.keys {
			x = x.Set(key, "")
		}
		if got := x.Shape(); !slices.Equal(got, c.want) {
			t.Errorf("%v: %v", c.keys, got)
		}
	}
}

// TestAV3Build: each shape of up to 13 elements with each number of pairs.
func TestAV3Build(t *testing.T) {
	built := 0
	for long := range 14 {
		for bits := range 1 << long {
			shape := make([]bool, long)
			for i := range shape {
				shape[i] = bits>>i&1 == 1
			}
			for n := range 9 {
				if !isShape(shape, n) {
					noTree(t, strconv.Itoa(n)+" pairs", shape, pairsOf(n))
					continue
				}
				x, err := avl.Build(shape, pairsOf(n))
				if err != nil || !slices.Equal(x.Shape(), shape) || !slices.Equal(x.Range("", ""), pairsOf(n)) {
					t.Fatalf("%v: %v", shape, err)
				}
				built++
			}
		}
	}
	// Balanced trees of 0 to 7 keys: 1, 1, 1, 2, 1, 4, 6, 4.
	if built != 20 {
		t.Errorf("%d trees", built)
	}
}

// TestAV3BuildPairs: keys that are equal or fall, at each place.
func TestAV3BuildPairs(t *testing.T) {
	for n := 2; n < 30; n++ {
		shape := numbered(n).Shape()
		for i := 1; i < n; i++ {
			l := pairsOf(n)
			l[i].Key = l[i-1].Key
			noTree(t, "an equal key", shape, l)
			l = pairsOf(n)
			l[i], l[i-1] = l[i-1], l[i]
			noTree(t, "a falling key", shape, l)
		}
		noTree(t, "one pair more", shape, pairsOf(n+1))
		noTree(t, "one pair less", shape, pairsOf(n-1))
		noTree(t, "no pairs", shape, nil)
		noTree(t, "no shape", nil, pairsOf(n))
		noTree(t, "one leaf more", append(slices.Clone(shape), false), pairsOf(n))
		noTree(t, "one node more", append([]bool{true}, shape...), pairsOf(n))
		noTree(t, "one node and one leaf more", append(slices.Clone(shape), true, false), pairsOf(n+1))
		noTree(t, "one leaf less", shape[:len(shape)-1], pairsOf(n))
	}
	noTree(t, "no shape", []bool{}, pairsOf(1))
	noTree(t, "no pairs", []bool{false}, nil)
	noTree(t, "the same key twice", []bool{true, false, false}, make([]api.Pair, 2))
	if x, err := avl.Build(nil, nil); x != nil || err != nil {
		t.Errorf("nothing: %v", err)
	}
	if x, err := avl.Build([]bool{}, []api.Pair{}); x != nil || err != nil {
		t.Errorf("nothing, in lists: %v", err)
	}
	if x, err := avl.Build([]bool{false}, make([]api.Pair, 1)); err != nil || x.Root() != avl.Leaf("", "") {
		t.Errorf("the empty key: %v", err)
	}
}

// TestAV3BuildDeep: shapes that go down a long way on one side.
func TestAV3BuildDeep(t *testing.T) {
	const n = 1 << 17
	down := make([]bool, 2*n+1)
	for i := range n {
		down[i] = true
	}
	noTree(t, "first parts", down, pairsOf(n+1))
	zigzag := make([]bool, 2*n+1)
	for i := range n {
		zigzag[2*i] = true
	}
	noTree(t, "second parts", zigzag, pairsOf(n+1))
	for i := range down {
		down[i] = true
	}
	noTree(t, "nodes alone", down, pairsOf(n+1))
	noTree(t, "leaves alone", make([]bool, 2*n+1), pairsOf(n+1))
}

// TestAV3Memory: lists that were given are neither changed nor kept.
func TestAV3Memory(t *testing.T) {
	want := numbered(25)
	shape, l := want.Shape(), want.Range("", "")
	x, err := avl.Build(shape, l)
	if err != nil || !slices.Equal(shape, want.Shape()) || !slices.Equal(l, want.Range("", "")) {
		t.Fatalf("an argument was changed, or %v", err)
	}
	clear(shape)
	clear(l)
	if !slices.Equal(x.Shape(), want.Shape()) || !slices.Equal(x.Range("", ""), want.Range("", "")) || x.Root() != want.Root() {
		t.Error("an argument was kept")
	}
}
