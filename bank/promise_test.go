package bank_test

import (
	"errors"
	"strings"
	"testing"

	"isthmus/api"
	"isthmus/avl"
	"isthmus/bank"
	"isthmus/sha"
)

// drawer draws numbers that are the same in each run, and outside Go.
type drawer uint64

func (d *drawer) draw(n int) int {
	*d = *d*6364136223846793005 + 1442695040888963407
	return int(uint64(*d) >> 33 % uint64(n))
}

// of draws one of l.
func of[T any](d *drawer, l ...T) T { return l[d.draw(len(l))] }

// anyStep draws a call, and makes it.
func anyStep(d *drawer, x *avl.Tree) (*avl.Tree, error) {
	kind := d.draw(8)
	names := []string{"ann", "bob", "cid", "dan", "eve"}
	a, b := of(d, names...), of(d, names...)
	c := coins(0, of(d, "atom", "atoms", voucher))
	c.Amount = of(d, 0, 1, 2, 3, 5, 8, 100, 1<<60)
	switch kind {
	case 0:
		return bank.Open(x, a, keyOf(b))
	case 1:
		return bank.Bump(x, a)
	case 2, 3:
		return bank.Mint(x, a, c)
	case 4, 5:
		return bank.Burn(x, a, c)
	}
	return bank.Send(x, a, b, c)
}

// TestBK2Run: the roots and errors of 2,000 drawn calls, against a hash of them all that was made outside Go.
func TestBK2Run(t *testing.T) {
	const (
		all  = "d9c201663a7ed38b857916bc1a4a87b1a431d6f9f6be23fb08cc6b8cf674b72e"
		last = "d8341be0ff0a64a9e751cf10cfcd9861f8343e4d11d2f57b8e8c1eb9559d1c8c"
	)
	d := drawer(16)
	var x *avl.Tree
	var seen api.Hash
	for range 2000 {
		y, err := anyStep(&d, x)
		var number api.Errno
		if !errors.As(err, &number) {
			x = y
		}
		root := x.Root()
		seen = sha.Sum(append(append(seen[:], root[:]...), byte(number)))
	}
	if root := x.Root(); sha.Text(root) != last || sha.Text(seen) != all {
		t.Errorf("the last root is %s, all are %s", sha.Text(root), sha.Text(seen))
	}
}

// TestBK4: whatever is called, the balances of each denomination are its supply, and no tree that was there changes.
func TestBK4(t *testing.T) {
	for seed := range 20 {
		d := drawer(seed)
		var x *avl.Tree
		var failed, worked int
		for range 300 {
			root, l := x.Root(), x.Range("", "")
			y, err := anyStep(&d, x)
			wantSame(t, x, root, l)
			if err != nil {
				failed++
				if y != nil {
					t.Error("a tree beside an error")
				}
				continue
			}
			worked++
			x = y
			wantSupplies(t, x)
		}
		if failed < 20 || worked < 100 {
			t.Errorf("seed %d: %d calls failed, %d worked", seed, failed, worked)
		}
	}
}

// wantSame holds that a tree has the root and the pairs that it had.
func wantSame(t *testing.T, x *avl.Tree, root api.Hash, l []api.Pair) {
	t.Helper()
	var flat []string
	for _, pair := range l {
		flat = append(flat, pair.Key, pair.Value)
	}
	wantPairs(t, "the tree ahead of the call", x, flat...)
	if x.Root() != root {
		t.Error("the tree ahead of the call has another root")
	}
}

// wantSupplies holds that each denomination has the supply that its balances are together, and that no pair is for 0.
func wantSupplies(t *testing.T, x *avl.Tree) {
	t.Helper()
	sums := make(map[string]int)
	for _, pair := range bank.Balances(x) {
		name, denom, _ := strings.Cut(strings.TrimPrefix(pair.Key, "bank/"), "/")
		sums[denom] += bank.Balance(x, name, denom)
	}
	for _, denom := range []string{"atom", "atoms", voucher} {
		if s := bank.Supply(x, denom); s != sums[denom] || s != bank.Sum(x, denom) {
			t.Fatalf("%s: the supply is %d, the balances are %d, Sum is %d", denom, s, sums[denom], bank.Sum(x, denom))
		}
	}
	for _, pair := range x.Range("", "") {
		if pair.Value == number(0) {
			t.Fatalf("a pair for 0: %s", pair.Key)
		}
	}
	if got := len(bank.Balances(x)); got != len(x.Range("bank/", "bank0")) {
		t.Fatalf("%d balances", got)
	}
}

// TestBK4Broken: a state in which the supply is wrong keeps what it is wrong by.
func TestBK4Broken(t *testing.T) {
	must := made(t)
	x := treeOf("bank/ann/atom", number(5), "supply/atom", number(7))
	for _, y := range []*avl.Tree{
		must(bank.Mint(x, "bob", coins(3, "atom"))), must(bank.Burn(x, "ann", coins(5, "atom"))), must(bank.Send(x, "ann", "bob", coins(2, "atom"))),
	} {
		if bank.Supply(y, "atom")-bank.Sum(y, "atom") != 2 {
			t.Errorf("%q", y.Range("", ""))
		}
	}
}
