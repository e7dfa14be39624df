package avl_test

import (
	"math/bits"
	"slices"
	"strconv"
	"testing"

	"isthmus/api"
	"isthmus/avl"
)

// version is a tree and what it was when it was made.
type version struct {
	tree   *avl.Tree
	root   api.Hash
	height int
	shape  []bool
	pairs  []api.Pair
}

func versionOf(x *avl.Tree) version {
	return version{x, x.Root(), x.Height(), x.Shape(), x.Range("", "")}
}

// same tells whether a tree is what it was.
func (v version) same(x *avl.Tree) bool {
	return x.Root() == v.root && x.Height() == v.height && x.Len() == len(v.pairs) &&
		slices.Equal(x.Shape(), v.shape) && slices.Equal(x.Range("", ""), v.pairs)
}

// TestAV4Versions: operations leave a tree as it was, also those on trees that share parts with it.
func TestAV4Versions(t *testing.T) {
	for seed := range drawer(4) {
		var all []version
		x, d := (*avl.Tree)(nil), seed
		for step := range 400 {
			all = append(all, versionOf(x))
			x = change(x, &d, 40, 45)
			if step%50 == 49 { // goes on from an earlier version
				x = all[d.draw(len(all))].tree
			}
		}
		for i, v := range all {
			if !v.same(v.tree) {
				t.Fatalf("version %d: changed", i)
			}
		}
	}
}

// bound is how high a tree of n keys is at the most, in hundredths.
func bound(n int) int {
	return 145*(bits.Len(uint(n+1))-1) + 200
}

// checkBalance holds that all nodes are balanced and the tree is not too high.
func checkBalance(t *testing.T, x *avl.Tree) {
	t.Helper()
	if !isShape(x.Shape(), x.Len()) {
		t.Fatalf("%d keys: out of balance", x.Len())
	}
	checkHeight(t, x)
}

func checkHeight(t *testing.T, x *avl.Tree) {
	t.Helper()
	if 100*x.Height() > bound(x.Len()) {
		t.Fatalf("%d keys: height %d", x.Len(), x.Height())
	}
}

// TestAV4Balance: after each of many changes.
func TestAV4Balance(t *testing.T) {
	for _, drops := range []int{0, 30, 50} {
		for _, keys := range []int{5, 50, 500} {
			x, d := (*avl.Tree)(nil), drawer(drops+keys)
			for range 600 {
				x = change(x, &d, keys, drops)
				checkBalance(t, x)
			}
			for range x.Len() {
				pair, err := x.At(d.draw(x.Len()))
				if err != nil {
					t.Fatal(err)
				}
				x = x.Drop(pair.Key)
				checkBalance(t, x)
			}
			if x != nil {
				t.Fatalf("all keys dropped: %d keys", x.Len())
			}
		}
	}
}

// TestAV4Height: keys that come in order, the other way round, and from both ends to the middle; and go from one end.
func TestAV4Height(t *testing.T) {
	const n = 3000
	key := func(i int) string { return strconv.Itoa(1000000 + i) }
	orders := []func(i int) int{
		func(i int) int { return i },
		func(i int) int { return n - i },
		func(i int) int {
			if i%2 == 0 {
				return i
			}
			return 2*n - i
		},
	}
	for _, order := range orders {
		var x *avl.Tree
		for i := range n {
			x = x.Set(key(order(i)), "")
			checkHeight(t, x)
		}
		checkBalance(t, x)
		for i := range n - 1 {
			x = x.Drop(key(order(i)))
			checkHeight(t, x)
			if i%100 == 0 {
				checkBalance(t, x)
			}
		}
	}
}

// sparse is a shape of so great a height with as few leaves as it can have.
func sparse(height int) []bool {
	switch height {
	case 0:
		return nil
	case 1:
		return []bool{false}
	case 2:
		return []bool{true, false, false}
	}
	return slices.Concat([]bool{true}, sparse(height-2), sparse(height-1))
}

// TestAV4Sparse: the highest trees that there are for their number of keys, each of whose keys can go.
func TestAV4Sparse(t *testing.T) {
	for height := range 18 {
		shape := sparse(height)
		n := (len(shape) + 1) / 2
		x, err := avl.Build(shape, pairsOf(n))
		if err != nil || x.Height() != height {
			t.Fatalf("height %d: %d, %v", height, x.Height(), err)
		}
		checkHeight(t, x)
		if height > 12 {
			continue
		}
		for i, pair := range pairsOf(n) {
			y := x.Drop(pair.Key)
			checkBalance(t, y)
			if !slices.Equal(y.Range("", ""), slices.Delete(pairsOf(n), i, i+1)) {
				t.Fatalf("height %d without key %d: %v", height, i, y.Range("", ""))
			}
		}
	}
}

// TestAV4Build: Build of a tree's Shape and pairs is this tree, now and after further changes.
func TestAV4Build(t *testing.T) {
	x, d := (*avl.Tree)(nil), drawer(7)
	for range 500 {
		x = change(x, &d, 80, 45)
		y, err := avl.Build(x.Shape(), x.Range("", ""))
		if err != nil || !versionOf(x).same(y) {
			t.Fatalf("%d keys: another tree, or %v", x.Len(), err)
		}
		left, right := d, d
		for range 5 {
			x, y = change(x, &left, 80, 45), change(y, &right, 80, 45)
		}
		if !versionOf(x).same(y) {
			t.Fatalf("%d keys: another tree after changes", x.Len())
		}
		d = left
	}
}
