package bank_test

import (
	"errors"
	"math"
	"slices"
	"strconv"
	"testing"

	"isthmus/api"
	"isthmus/avl"
	"isthmus/bank"
	"isthmus/coin"
	"isthmus/sha"
)

// wantCoins holds what somebody has, and what there is.
func wantCoins(t *testing.T, what string, x *avl.Tree, name, denom string, balance, supply int) {
	t.Helper()
	if b, s := bank.Balance(x, name, denom), bank.Supply(x, denom); b != balance || s != supply {
		t.Errorf("%s: %s has %d %s of %d, want %d of %d", what, name, b, denom, s, balance, supply)
	}
}

// TestBK2Coins: coins that are minted, sent and burnt, with the pairs that they leave.
func TestBK2Coins(t *testing.T) {
	must := made(t)
	wantCoins(t, "a tree without keys", nil, "ann", "atom", 0, 0)
	x := must(bank.Mint(nil, "ann", coins(5, "atom")))
	wantPairs(t, "Mint", x, "bank/ann/atom", number(5), "supply/atom", number(5))
	x = must(bank.Send(x, "ann", "bob", coins(2, "atom")))
	wantCoins(t, "Send", x, "ann", "atom", 3, 5)
	wantCoins(t, "Send", x, "bob", "atom", 2, 5)
	wantPairs(t, "Send", x, "bank/ann/atom", number(3), "bank/bob/atom", number(2), "supply/atom", number(5))
	none, err := bank.Send(x, "ann", "bob", coins(4, "atom"))
	wantNoTree(t, "more than there is", none, err, api.ErrFunds)
	x = must(bank.Mint(x, "bob", coins(300, voucher)))
	wantCoins(t, "another denomination", x, "bob", voucher, 300, 300)
	wantCoins(t, "another denomination", x, "bob", "atom", 2, 5)
	wantCoins(t, "another denomination", x, "ann", voucher, 0, 300)
	x = must(bank.Send(x, "ann", "bob", coins(3, "atom")))
	wantPairs(t, "all that ann has", x, "bank/bob/atom", number(5), "bank/bob/"+voucher, number(300), "supply/atom", number(5), "supply/"+voucher, number(300))
	x = must(bank.Burn(x, "bob", coins(299, voucher)))
	x = must(bank.Burn(x, "bob", coins(5, "atom")))
	wantPairs(t, "all atoms", x, "bank/bob/"+voucher, number(1), "supply/"+voucher, number(1))
	x = must(bank.Burn(x, "bob", coins(1, voucher)))
	wantPairs(t, "everything", x)
}

// TestBK2NoAccount: coins don't need an account, nor does an account need coins.
func TestBK2NoAccount(t *testing.T) {
	must := made(t)
	x := must(bank.Open(nil, "ann", keyOf("ann")))
	x = must(bank.Mint(x, "bob", coins(7, "stake")))
	x = must(bank.Send(x, "bob", "ann", coins(7, "stake")))
	wantNoAccount(t, "who had coins", x, "bob")
	wantAccount(t, x, "ann", keyOf("ann"), 0)
	wantCoins(t, "Send", x, "ann", "stake", 7, 7)
	wantPairs(t, "Send", x, "acc/ann", accountOf(keyOf("ann"), 0), "bank/ann/stake", number(7), "supply/stake", number(7))
}

// TestBK2Zero: nothing can be minted, sent and burnt, by whoever has nothing too; no pair comes or goes with it.
func TestBK2Zero(t *testing.T) {
	must := made(t)
	full := treeOf("bank/ann/atom", number(5), "supply/atom", number(5))
	for _, x := range []*avl.Tree{nil, full} {
		for _, y := range []*avl.Tree{
			must(bank.Mint(x, "ann", coins(0, "atom"))), must(bank.Mint(x, "bob", coins(0, "atom"))), must(bank.Mint(x, "ann", coins(0, voucher))),
			must(bank.Burn(x, "ann", coins(0, "atom"))), must(bank.Burn(x, "bob", coins(0, "atom"))), must(bank.Burn(x, "ann", coins(0, voucher))),
			must(bank.Send(x, "ann", "bob", coins(0, "atom"))), must(bank.Send(x, "bob", "ann", coins(0, "atom"))), must(bank.Send(x, "ann", "ann", coins(0, "atom"))),
			must(bank.Send(x, "cid", "dan", coins(0, "atom"))), must(bank.Send(x, "ann", "bob", coins(0, voucher))), must(bank.Send(x, "cid", "cid", coins(0, voucher))),
		} {
			if y.Root() != x.Root() {
				t.Errorf("%q became %q", x.Range("", ""), y.Range("", ""))
			}
		}
	}
}

// TestBK2Self: who sends to the same name has what there was, but may not send more.
func TestBK2Self(t *testing.T) {
	for _, has := range []int{1, 5, api.MaxAmount} {
		x := treeOf("bank/ann/atom", number(has), "supply/atom", number(has))
		for _, amount := range []int{0, 1, has / 2, has - 1, has} {
			y, err := bank.Send(x, "ann", "ann", coins(amount, "atom"))
			wantErr(t, "Send to the same name", err, 0)
			wantPairs(t, "Send to the same name", y, "bank/ann/atom", number(has), "supply/atom", number(has))
		}
		if has < api.MaxAmount {
			y, err := bank.Send(x, "ann", "ann", coins(has+1, "atom"))
			wantNoTree(t, "more than there is", y, err, api.ErrFunds)
		}
	}
}

// edges are numbers about those at which an answer can change.
func edges() []int {
	l := []int{math.MinInt, -api.MaxAmount, -1, 0, 1, 2, 5, math.MaxInt}
	for _, n := range []int{api.MaxAmount / 2, api.MaxAmount} {
		l = append(l, n-1, n, n+1)
	}
	return l
}

// with is the tree in which the number of a key is n.
func with(x *avl.Tree, key string, n int) *avl.Tree {
	if n == 0 {
		return x.Drop(key)
	}
	return x.Set(key, number(n))
}

// wantBoth holds that a call changed two numbers of a tree, or returned the first error of both.
func wantBoth(t *testing.T, what string, x, got *avl.Tree, err error, keys [2]string, sums [2]func() (int, error)) {
	t.Helper()
	for i, sum := range sums {
		n, want := sum()
		if want != nil {
			var number api.Errno
			errors.As(want, &number)
			wantNoTree(t, what, got, err, number)
			return
		}
		x = with(x, keys[i], n)
	}
	wantErr(t, what, err, 0)
	if got.Root() != x.Root() {
		t.Errorf("%s: %q, want %q", what, got.Range("", ""), x.Range("", ""))
	}
}

// TestBK2Edges: all numbers at the edges, whether a state can have them or not, as those of both pairs and as the amount.
func TestBK2Edges(t *testing.T) {
	const ann, bob, supply = "bank/ann/atom", "bank/bob/atom", "supply/atom"
	type sums = [2]func() (int, error)
	for _, a := range edges() {
		for _, b := range edges() {
			for _, n := range edges() {
				what := "with " + strconv.Itoa(a) + ", " + strconv.Itoa(b) + " and " + strconv.Itoa(n)
				x := with(with(nil, ann, a), supply, b)
				wantCoins(t, what, x, "ann", "atom", a, b)
				got, err := bank.Mint(x, "ann", coins(n, "atom"))
				wantBoth(t, "Mint "+what, x, got, err, [2]string{supply, ann}, sums{func() (int, error) { return coin.Add(b, n) }, func() (int, error) { return coin.Add(a, n) }})
				got, err = bank.Burn(x, "ann", coins(n, "atom"))
				wantBoth(t, "Burn "+what, x, got, err, [2]string{ann, supply}, sums{func() (int, error) { return coin.Sub(a, n) }, func() (int, error) { return coin.Sub(b, n) }})
				x = with(with(nil, ann, a), bob, b)
				got, err = bank.Send(x, "ann", "bob", coins(n, "atom"))
				wantBoth(t, "Send "+what, x, got, err, [2]string{ann, bob}, sums{func() (int, error) { return coin.Sub(a, n) }, func() (int, error) { return coin.Add(b, n) }})
			}
		}
	}
}

// TestBK2ErrorsTable: some of them written out, with which of two errors comes first.
func TestBK2ErrorsTable(t *testing.T) {
	const most = api.MaxAmount
	for _, c := range []struct {
		what                           string
		balance, supply, other, amount int
		ofMint, ofBurn, ofSend         api.Errno
	}{
		{"as it should be", 5, 7, 2, 3, 0, 0, 0},
		{"all", 5, 5, 0, 5, 0, 0, 0},
		{"more than there is", 5, 7, 2, 6, 0, api.ErrFunds, api.ErrFunds},
		{"more than there is in all", 5, 7, 2, 8, 0, api.ErrFunds, api.ErrFunds},
		{"a supply that is too small", 5, 4, 2, 5, 0, api.ErrFunds, 0},
		{"nothing there", 0, 0, 0, 1, 0, api.ErrFunds, api.ErrFunds},
		{"an amount below 0", 5, 7, 2, -1, api.ErrRange, api.ErrRange, api.ErrRange},
		{"an amount that is too great", 5, 7, 2, most + 1, api.ErrRange, api.ErrRange, api.ErrRange},
		{"the greatest amount of nothing", 0, 0, 0, most, 0, api.ErrFunds, api.ErrFunds},
		{"the greatest supply", most, most, 0, 0, 0, 0, 0},
		{"one more than the greatest supply", 5, most, 2, 1, api.ErrOver, 0, 0},
		{"one more than the greatest balance", most, 5, 2, 1, api.ErrOver, 0, 0},
		{"one more than another one's greatest balance", 5, 7, most, 1, 0, 0, api.ErrOver},
		{"another one's balance above its bounds", 5, 7, most + 1, 1, 0, 0, api.ErrRange},
		{"another one's balance below its bounds", 5, 7, -1, 1, 0, 0, api.ErrRange},
		{"a balance above its bounds", most + 1, 7, 2, 1, api.ErrRange, api.ErrRange, api.ErrRange},
		{"a balance above its bounds, and a supply that is too small", most + 1, 1, 2, 2, api.ErrRange, api.ErrRange, api.ErrRange},
		{"a supply above its bounds", 5, most + 1, 2, 1, api.ErrRange, api.ErrRange, 0},
		{"a supply below its bounds, and too small a balance", 5, -1, 2, 6, api.ErrRange, api.ErrFunds, api.ErrFunds},
		{"too great a supply, and a balance below its bounds", -1, most, 2, 1, api.ErrOver, api.ErrRange, api.ErrRange},
		{"too small a balance, and another one's above its bounds", 5, 7, most + 1, 6, 0, api.ErrFunds, api.ErrFunds},
	} {
		x := with(with(with(nil, "bank/ann/atom", c.balance), "bank/bob/atom", c.other), "supply/atom", c.supply)
		_, err := bank.Mint(x, "ann", coins(c.amount, "atom"))
		wantErr(t, "Mint: "+c.what, err, c.ofMint)
		_, err = bank.Burn(x, "ann", coins(c.amount, "atom"))
		wantErr(t, "Burn: "+c.what, err, c.ofBurn)
		_, err = bank.Send(x, "ann", "bob", coins(c.amount, "atom"))
		wantErr(t, "Send: "+c.what, err, c.ofSend)
	}
}

// TestBK2Denom: a wrong denomination comes behind a wrong name, and ahead of a wrong amount.
func TestBK2Denom(t *testing.T) {
	for _, denom := range []string{"", "at", "Atom", "0atom", "at om", "atom/", "/atom", "ibc/atom", "ibc/" + voucher[:64], voucher + "0", "transfer/channel-0/atom", "abcdefghijklmnopq"} {
		x := treeOf("bank/ann/"+denom, number(5), "bank/bob/"+denom, number(5), "supply/"+denom, number(10))
		wantCoins(t, "by its key", x, "ann", denom, 5, 10)
		for _, tree := range []*avl.Tree{x, nil} {
			for _, amount := range []int{0, 1, 6, -1, api.MaxAmount, api.MaxAmount + 1} {
				c := coins(amount, denom)
				got, err := bank.Mint(tree, "ann", c)
				wantNoTree(t, "Mint", got, err, api.ErrDenom)
				got, err = bank.Burn(tree, "ann", c)
				wantNoTree(t, "Burn", got, err, api.ErrDenom)
				got, err = bank.Send(tree, "ann", "bob", c)
				wantNoTree(t, "Send", got, err, api.ErrDenom)
				got, err = bank.Send(tree, "ann", "", c)
				wantNoTree(t, "Send to no name", got, err, api.ErrAccount)
			}
		}
	}
}

// noNumbers are values that are not Int of a number, and nothing else.
func noNumbers() []string {
	return []string{"", "\x80", "\x0a\x00", "\x0a\x0a", "\x80\x00", "\x8a\x80\x00", "\xff\xff", "\xff\xff\xff\xff\xff\xff\xff\xff\xff\x02", "\xff\xff\xff\xff\xff\xff\xff\xff\xff\xff\x01", "55555", string(make([]byte, 32))}
}

// TestBK2Missing: a value that is not a number is treated as missing.
func TestBK2Missing(t *testing.T) {
	must := made(t)
	for _, value := range noNumbers() {
		x := treeOf("bank/ann/atom", value, "supply/atom", value)
		wantCoins(t, "no numbers", x, "ann", "atom", 0, 0)
		wantPairs(t, "Mint", must(bank.Mint(x, "ann", coins(5, "atom"))), "bank/ann/atom", number(5), "supply/atom", number(5))
		wantPairs(t, "Mint of nothing", must(bank.Mint(x, "ann", coins(0, "atom"))))
		wantPairs(t, "Burn of nothing", must(bank.Burn(x, "ann", coins(0, "atom"))))
		y, err := bank.Burn(x, "ann", coins(1, "atom"))
		wantNoTree(t, "Burn", y, err, api.ErrFunds)
		y, err = bank.Send(x, "ann", "bob", coins(1, "atom"))
		wantNoTree(t, "Send", y, err, api.ErrFunds)
		x = x.Set("bank/bob/atom", number(3))
		wantPairs(t, "Send", must(bank.Send(x, "bob", "ann", coins(2, "atom"))), "bank/ann/atom", number(2), "bank/bob/atom", number(1), "supply/atom", value)
		y, err = bank.Burn(x, "bob", coins(1, "atom"))
		wantNoTree(t, "Burn without a supply", y, err, api.ErrFunds)
	}
}

// TestBK2ByKey: numbers are found by their keys alone, whatever these are put together from.
func TestBK2ByKey(t *testing.T) {
	x := treeOf("bank/ann/atom", number(1), "bank//atom", number(2), "bank/a b/", number(3), "bank//", number(4), "bank/ann/"+voucher, number(-5), "supply/", number(6), "supply/"+voucher, number(-7))
	for _, c := range []struct {
		name, denom     string
		balance, supply int
	}{
		{"ann", "atom", 1, 0},
		{"", "atom", 2, 0},
		{"a b", "", 3, 6},
		{"", "", 4, 6},
		{"ann", voucher, -5, -7},
		{"Ann", "atom", 0, 0},
		{"ann", "Atom", 0, 0},
		{"ann", "ato", 0, 0},
		{"ann", "atom ", 0, 0},
		{"an", "natom", 0, 0},
		{"ann/", "atom", 0, 0},
		{"ann", "/atom", 0, 0},
		{"bob", "atom", 0, 0},
	} {
		wantCoins(t, "by keys", x, c.name, c.denom, c.balance, c.supply)
	}
	for _, key := range []string{"bank/ann", "bank/annatom", "bank/ann/atoms", "acc/ann/atom", "ann/atom", "bank/ann/atom/", "Bank/ann/atom", "supply/ann/atom", "bank/atom", "atom", "supply/atoms", "supply//atom", "Supply/atom", "supplyatom"} {
		wantCoins(t, key, treeOf(key, number(9)), "ann", "atom", 0, 0)
	}
}

// mint, burn and send are steps of TestBK2Roots.
func mint(name string, amount int, denom string) func(*avl.Tree) (*avl.Tree, error) {
	return func(x *avl.Tree) (*avl.Tree, error) { return bank.Mint(x, name, coins(amount, denom)) }
}

func burn(name string, amount int, denom string) func(*avl.Tree) (*avl.Tree, error) {
	return func(x *avl.Tree) (*avl.Tree, error) { return bank.Burn(x, name, coins(amount, denom)) }
}

func send(from, to string, amount int, denom string) func(*avl.Tree) (*avl.Tree, error) {
	return func(x *avl.Tree) (*avl.Tree, error) { return bank.Send(x, from, to, coins(amount, denom)) }
}

func open(name string) func(*avl.Tree) (*avl.Tree, error) {
	return func(x *avl.Tree) (*avl.Tree, error) { return bank.Open(x, name, keyOf(name)) }
}

func bump(name string) func(*avl.Tree) (*avl.Tree, error) {
	return func(x *avl.Tree) (*avl.Tree, error) { return bank.Bump(x, name) }
}

// TestBK2Roots: roots that were made outside Go. They tell also in which order the pairs of a call were changed.
func TestBK2Roots(t *testing.T) {
	var x *avl.Tree
	for i, c := range []struct {
		step func(*avl.Tree) (*avl.Tree, error)
		root string
	}{
		{open("ann"), "13d02fbf4fe5960e14a7b49e2349dcabed2b1c4a3c2ed21e1e9eff48ec9a6193"},
		{mint("ann", 5, "atom"), "31dadaf02ab91874b80323ccab5a5b157c3bfe1515913b771ab8a1d0087dce27"},
		{send("ann", "bob", 2, "atom"), "1e5b71005626bc710adddddfe9a1cfda185d55bfd43993fb9b80c9e71eae4abc"},
		{bump("ann"), "5ffb9db43af654e29a42f0d16dbb37130339e4ae288e4e4e953515cc0df56318"},
		{open("bob"), "e07ea0905687d38f215578bb389f872bfd6280a8fe1b17f974fc8ab4f9c4ed4e"},
		{mint("cid", 100, "atom"), "a142ffc274283c9ec86410c78c3f2e9f17a16dda0f53272e91cc772a98d4b99e"},
		{mint("bob", 300, voucher), "163fdc351d2e469afcceceaf9db76efc29650438599f931582a57509ef782443"},
		{send("cid", "cid", 100, "atom"), "af33cb7bb9c5f3b6bf5d3b90e5707b4034e7d927a0e832128607b1ece63428c3"},
		{send("bob", "ann", 2, "atom"), "1708f6954145c6ef95c6db76f130caee2abe24c88370837479d51558a93f3a02"},
		{mint("dan", 1<<60, "stake"), "65b73c4e36e5d83ef8e6e7a7b519d5520803d4c510ddf6f3bcf2184cfc663194"},
		{burn("bob", 300, voucher), "cdebf024a5ee37b93c10d128860a771352e40add8936172a1967394e0399cf09"},
		{send("ann", "ann", 0, "atom"), "cdebf024a5ee37b93c10d128860a771352e40add8936172a1967394e0399cf09"},
		{send("dan", "eve", 1<<60-1, "stake"), "738312b40d54b118ee802fe7e3286bfed2183f3de2505134099a8f02a0c5231d"},
		{burn("eve", 1<<60-1, "stake"), "90c554a7e8faea5797d7bc084fac89c994ca0495c632f71542cf72d2576186bd"},
		{burn("ann", 5, "atom"), "3172144f18e385f9a9b9208bc52b518a2fcf7267250f23ee85f92d7bef528f2c"},
		{burn("dan", 1, "stake"), "44b9a0a3e4756571503920ae768fcc6e822f5336743cd45e5c81f9619bb34040"},
		{send("cid", "aaa", 100, "atom"), "4d3c1fffd37d91cea3d3e6dc2c332eb66796e48466865f5222fdb7b7bf02f9e1"},
		{burn("aaa", 100, "atom"), "320c1cefcc3ee66f355ad86d9f6a6b80a6fb491878274b46caae7005cfdf3df3"},
		{bump("ann"), "5652a0433e15b0eb3c106a35349600aad84d48dae01b70b06d0120e68627908f"},
	} {
		var err error
		x, err = c.step(x)
		wantErr(t, "step "+strconv.Itoa(i), err, 0)
		root := x.Root()
		if sha.Text(root) != c.root {
			t.Fatalf("step %d: %s, want %s: %q", i, sha.Text(root), c.root, x.Range("", ""))
		}
	}
}

// surrounded is the tree of some pairs among others, whose keys are drawn so that the tree has one of many structures.
func surrounded(d *drawer, l ...string) *avl.Tree {
	x := treeOf(l...)
	for range d.draw(12) {
		x = x.Set(of(d, "bank/ann/", "bank/b", "supply/", "acc/")+strconv.Itoa(d.draw(10)), "")
	}
	return x
}

// TestBK2Order: the pairs of a call are changed in the order that the chapter tells, wherever the other order has another structure.
func TestBK2Order(t *testing.T) {
	const ann, bob, supply = "bank/ann/atom", "bank/bob/atom", "supply/atom"
	must, d := made(t), new(drawer)
	five := number(5)
	var differ [4]int
	for range 500 {
		minted, burnt, sent, kept := surrounded(d), surrounded(d, ann, five, supply, five), surrounded(d, ann, five), surrounded(d, ann, five)
		for i, c := range [...]struct{ got, want, other *avl.Tree }{
			{must(bank.Mint(minted, "ann", coins(5, "atom"))), minted.Set(supply, five).Set(ann, five), minted.Set(ann, five).Set(supply, five)},
			{must(bank.Burn(burnt, "ann", coins(5, "atom"))), burnt.Drop(ann).Drop(supply), burnt.Drop(supply).Drop(ann)},
			{must(bank.Send(sent, "ann", "bob", coins(5, "atom"))), sent.Drop(ann).Set(bob, five), sent.Set(bob, five).Drop(ann)},
			{must(bank.Send(kept, "ann", "ann", coins(5, "atom"))), kept.Drop(ann).Set(ann, five), kept},
		} {
			if c.got.Root() != c.want.Root() {
				t.Fatalf("call %d: %v, want %v", i, c.got.Shape(), c.want.Shape())
			}
			if c.want.Root() != c.other.Root() {
				differ[i]++
			}
		}
	}
	if slices.Min(differ[:]) < 10 {
		t.Errorf("of the calls only %v could tell the order", differ)
	}
}
