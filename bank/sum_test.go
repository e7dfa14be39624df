package bank_test

import (
	"math"
	"slices"
	"testing"

	"isthmus/api"
	"isthmus/avl"
	"isthmus/bank"
)

// wantBalances holds that Balances returns these keys with the values behind them, in order.
func wantBalances(t *testing.T, what string, x *avl.Tree, l ...string) {
	t.Helper()
	var want []api.Pair
	for i := 0; i < len(l); i += 2 {
		want = append(want, api.Pair{Key: l[i], Value: l[i+1]})
	}
	if got := bank.Balances(x); !slices.Equal(got, want) {
		t.Errorf("%s: %q, want %q", what, got, want)
	}
}

// wantSum holds what Sum returns.
func wantSum(t *testing.T, what string, x *avl.Tree, denom string, want int) {
	t.Helper()
	if got := bank.Sum(x, denom); got != want {
		t.Errorf("%s: the sum of %q is %d, want %d", what, denom, got, want)
	}
}

// TestBK3Balances: the balances of a state, and no other pairs of it.
func TestBK3Balances(t *testing.T) {
	must := made(t)
	wantBalances(t, "a tree without keys", nil)
	x := must(bank.Open(nil, "ann", keyOf("ann")))
	wantBalances(t, "an account", x)
	x = must(bank.Mint(x, "bob", coins(5, "atom")))
	x = must(bank.Mint(x, "bob", coins(7, voucher)))
	x = must(bank.Mint(x, "ann", coins(300, "stake")))
	x = must(bank.Send(x, "bob", "ann", coins(2, "atom")))
	wantBalances(t, "a state", x, "bank/ann/atom", number(2), "bank/ann/stake", number(300), "bank/bob/atom", number(3), "bank/bob/"+voucher, number(7))
	x = must(bank.Burn(x, "bob", coins(3, "atom")))
	wantBalances(t, "a state", x, "bank/ann/atom", number(2), "bank/ann/stake", number(300), "bank/bob/"+voucher, number(7))
}

// TestBK3BalancesAnyKey: whatever follows bank/, with a number that is not 0.
func TestBK3BalancesAnyKey(t *testing.T) {
	five := number(5)
	x := treeOf("", five, "a", five, "bank", five, "bank.", five, "bank./", five, "bank.\xff", five, "bank0", five, "bank0/", five, "bank1", five, "banl/", five, "Bank/ann/atom", five,
		"bank/zz", five, "bank/", five, "bank/\x00", five, "bank//", number(-1), "bank/ann/atom", number(math.MaxInt), "bank/ann/atom/", number(math.MinInt), "bank/\xff\xff", five,
		"bank/0", number(0), "bank/ann", number(0), "supply/atom", five, "acc/ann", five)
	for i, value := range noNumbers() {
		x = x.Set("bank/ann/no"+string(rune('a'+i)), value)
	}
	wantBalances(t, "any keys", x, "bank/", five, "bank/\x00", five, "bank//", number(-1), "bank/ann/atom", number(math.MaxInt), "bank/ann/atom/", number(math.MinInt), "bank/zz", five, "bank/\xff\xff", five)
}

// TestBK3BalancesOwn: who changes what was returned changes no later answer.
func TestBK3BalancesOwn(t *testing.T) {
	x := treeOf("bank/ann/atom", number(5), "bank/ann/none", number(0), "bank/bob/atom", number(3))
	l := bank.Balances(x)
	for i := range l[:cap(l)] {
		l[:cap(l)][i] = api.Pair{Key: "another"}
	}
	wantBalances(t, "again", x, "bank/ann/atom", number(5), "bank/bob/atom", number(3))
	wantSum(t, "again", x, "atom", 8)
}

// TestBK3Sum: what all have of one denomination, whatever they have of others.
func TestBK3Sum(t *testing.T) {
	wantSum(t, "a tree without keys", nil, "atom", 0)
	wantSum(t, "a tree without keys", nil, "", 0)
	x := treeOf("bank/ann/atom", number(5), "bank/bob/atom", number(3), "bank/bob/atoms", number(100), "bank/bob/ato", number(200), "bank/bob/tom", number(400), "bank/cid/"+voucher, number(7),
		"bank/dan/"+voucher, number(9), "supply/atom", number(1000), "bank/dan/stake", "none", "bank/eve/stake", number(0), "acc/ann/atom", number(2000))
	for denom, want := range map[string]int{"atom": 8, "atoms": 100, "ato": 200, "tom": 400, voucher: 16, "stake": 0, "": 0, "ibc": 0, voucher[4:]: 0, "photon": 0, "ann/atom": 0, "/atom": 0, "Atom": 0} {
		wantSum(t, "a state", x, denom, want)
	}
}

// TestBK3SumAnyKey: behind the second "/" of a key, whatever is between the first and the second one, and wherever others are.
func TestBK3SumAnyKey(t *testing.T) {
	x := treeOf("bank/", number(1), "bank/atom", number(2), "bank//atom", number(4), "bank/a b/atom", number(8), "bank/\xff/atom", number(16), "bank/ann/x/atom", number(32), "bank///atom", number(64),
		"bank/ann/", number(128), "bank//", number(256), "bank/ann/atom/", number(512), "bank//x/atom", number(1024), "bank/bank/atom", number(2048), "bank0/atom", number(4096), "bank/ann/no denomination", number(8192))
	for denom, want := range map[string]int{
		"atom": 4 + 8 + 16 + 2048, "x/atom": 32 + 1024, "/atom": 64, "": 128 + 256, "atom/": 512, "no denomination": 8192, "/": 0, "bank/atom": 0, "ann/atom": 0,
	} {
		wantSum(t, "any keys", x, denom, want)
	}
}

// TestBK3SumOver: numbers whose sum is no amount, or which are none themselves.
func TestBK3SumOver(t *testing.T) {
	const most = api.MaxAmount
	for _, c := range []struct {
		l    []int
		want int
	}{
		{[]int{most}, most},
		{[]int{most - 1, 1}, most},
		{[]int{most / 2, most / 2}, most},
		{[]int{1, most - 2, 1}, most},
		{[]int{most, 1}, most + 1},
		{[]int{1, most}, most + 1},
		{[]int{most, most}, most + 1},
		{[]int{most, most, most, most, most, most, most, most, most, most, most, most, most, most, most, most}, most + 1},
		{[]int{most / 2, most / 2, 1}, most + 1},
		{[]int{most + 1}, most + 1},
		{[]int{math.MaxInt}, most + 1},
		{[]int{math.MaxInt, math.MaxInt, 2}, most + 1},
		{[]int{-1}, most + 1},
		{[]int{5, -1}, most + 1},
		{[]int{-1, 5}, most + 1},
		{[]int{math.MinInt}, most + 1},
		{[]int{most, 1, -1}, most + 1},
		{[]int{most + 1, -1, 1}, most + 1},
		{[]int{5, 0, 3}, 8},
	} {
		x := treeOf("bank/z/photon", number(2), "bank/a/photon", number(3))
		for i, n := range c.l {
			x = x.Set("bank/"+string(rune('a'+i))+"/atom", number(n))
		}
		wantSum(t, "at the edges", x, "atom", c.want)
		wantSum(t, "beside the edges", x, "photon", 5)
	}
}
