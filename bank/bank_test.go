package bank_test

import (
	"errors"
	"math"
	"strconv"
	"strings"
	"testing"

	"isthmus/api"
	"isthmus/avl"
	"isthmus/bank"
	"isthmus/pack"
	"isthmus/sha"
)

// voucher is a denomination whose name has the byte that ends a name.
const voucher = "ibc/896f0081794734a2dbdf219b7575c569698f872619c43d18cc63c03cfb997257"

// wantErr holds that err is the number want, or nil if want is 0.
func wantErr(t *testing.T, what string, err error, want api.Errno) {
	t.Helper()
	var number api.Errno
	if errors.As(err, &number); number != want || (err == nil) != (want == 0) {
		t.Errorf("%s: error %v, want %d", what, err, int(want))
	}
}

// wantNoTree holds that a call returned the error want, and no tree.
func wantNoTree(t *testing.T, what string, x *avl.Tree, err error, want api.Errno) {
	t.Helper()
	wantErr(t, what, err, want)
	if x != nil {
		t.Errorf("%s: a tree beside the error", what)
	}
}

// made is the tree that a call of the preparation returned.
func made(t *testing.T) func(x *avl.Tree, err error) *avl.Tree {
	return func(x *avl.Tree, err error) *avl.Tree {
		t.Helper()
		if err != nil {
			t.Fatal(err)
		}
		return x
	}
}

// keyOf is the key of somebody: the hash of the name.
func keyOf(name string) api.Hash { return sha.Sum([]byte(name)) }

// number is Int of n.
func number(n int) string { return string(pack.New().Int(n).Done()) }

// accountOf is Hash of a key and Int of a Seq.
func accountOf(key api.Hash, seq int) string { return string(key[:]) + number(seq) }

// coins are some of a denomination.
func coins(amount int, denom string) api.Coin { return api.Coin{Denom: denom, Amount: amount} }

// treeOf has keys with the values behind them.
func treeOf(l ...string) *avl.Tree {
	var x *avl.Tree
	for i := 0; i < len(l); i += 2 {
		x = x.Set(l[i], l[i+1])
	}
	return x
}

// wantPairs holds that a tree has no pairs but these keys with the values behind them, in order.
func wantPairs(t *testing.T, what string, x *avl.Tree, l ...string) {
	t.Helper()
	same := 2*x.Len() == len(l)
	for i, pair := range x.Range("", "") {
		same = same && pair.Key == l[2*i] && pair.Value == l[2*i+1]
	}
	if !same {
		t.Errorf("%s: %q, want %q", what, x.Range("", ""), l)
	}
}

// wantAccount holds that Find returns an account.
func wantAccount(t *testing.T, x *avl.Tree, name string, key api.Hash, seq int) {
	t.Helper()
	got, err := bank.Find(x, name)
	wantErr(t, "Find of "+name, err, 0)
	if got != (bank.Account{Key: key, Seq: seq}) {
		t.Errorf("Find of %s: %x and %d, want %x and %d", name, got.Key, got.Seq, key, seq)
	}
}

// wantNoAccount holds that neither Find nor Bump finds an account.
func wantNoAccount(t *testing.T, what string, x *avl.Tree, name string) {
	t.Helper()
	got, err := bank.Find(x, name)
	wantErr(t, "Find: "+what, err, api.ErrAccount)
	if got != (bank.Account{}) {
		t.Errorf("Find: %s: %v beside the error", what, got)
	}
	bumped, err := bank.Bump(x, name)
	wantNoTree(t, "Bump: "+what, bumped, err, api.ErrAccount)
}

// TestBK1Account: accounts are there once they were opened, and count for themselves.
func TestBK1Account(t *testing.T) {
	must := made(t)
	wantNoAccount(t, "of a tree without keys", nil, "ann")
	x := must(bank.Open(nil, "ann", keyOf("ann")))
	wantPairs(t, "Open", x, "acc/ann", accountOf(keyOf("ann"), 0))
	wantNoAccount(t, "somebody else", x, "bob")
	wantNoAccount(t, "a shorter name", x, "an")
	wantNoAccount(t, "a longer name", x, "anna")
	wantNoAccount(t, "in capitals", x, "ANN")
	x = must(bank.Open(x, "bob", api.Hash{}))
	for range 3 {
		x = must(bank.Bump(x, "ann"))
	}
	x = must(bank.Bump(x, "bob"))
	wantAccount(t, x, "ann", keyOf("ann"), 3)
	wantAccount(t, x, "bob", api.Hash{}, 1)
	wantPairs(t, "all", x, "acc/ann", accountOf(keyOf("ann"), 3), "acc/bob", accountOf(api.Hash{}, 1))
}

// TestBK1Twice: an account that exists can't be opened again, whatever its key and Seq are.
func TestBK1Twice(t *testing.T) {
	must := made(t)
	x := must(bank.Open(nil, "ann", keyOf("ann")))
	for range 3 {
		for _, key := range []api.Hash{keyOf("ann"), keyOf("bob"), {}} {
			again, err := bank.Open(x, "ann", key)
			wantNoTree(t, "Open again", again, err, api.ErrTwice)
		}
		x = must(bank.Bump(x, "ann"))
	}
	for _, seq := range []int{-1, math.MinInt, math.MaxInt} {
		again, err := bank.Open(treeOf("acc/ann", accountOf(keyOf("ann"), seq)), "ann", keyOf("ann"))
		wantNoTree(t, "Open again", again, err, api.ErrTwice)
	}
}

// TestBK1Bump: up to 2^40, and no further.
func TestBK1Bump(t *testing.T) {
	const most = 1 << 40
	for _, seq := range []int{0, 1, 62, 63, 64, 8191, 8192, 1<<32 - 1, 1 << 32, most - 2, most - 1, -1, -2, -64, -65, math.MinInt} {
		x := treeOf("acc/ann", accountOf(keyOf("ann"), seq), "acc/bob", accountOf(keyOf("bob"), seq))
		wantAccount(t, x, "ann", keyOf("ann"), seq)
		bumped, err := bank.Bump(x, "ann")
		wantErr(t, "Bump of "+strconv.Itoa(seq), err, 0)
		wantPairs(t, "Bump", bumped, "acc/ann", accountOf(keyOf("ann"), seq+1), "acc/bob", accountOf(keyOf("bob"), seq))
	}
	for _, seq := range []int{most, most + 1, 2 * most, math.MaxInt - 1, math.MaxInt} {
		x := treeOf("acc/ann", accountOf(keyOf("ann"), seq))
		wantAccount(t, x, "ann", keyOf("ann"), seq)
		bumped, err := bank.Bump(x, "ann")
		wantNoTree(t, "Bump of "+strconv.Itoa(seq), bumped, err, api.ErrOver)
	}
}

// TestBK1Missing: a value that is not a hash and a number, and nothing else, is no account's.
func TestBK1Missing(t *testing.T) {
	whole := accountOf(keyOf("ann"), 300)
	key := whole[:32]
	values := []string{
		whole + "\x00", whole + whole, key + "\x80\x00", key + "\x81\x00", key + strings.Repeat("\xff", 9) + "\x02", key + strings.Repeat("\x80", 10),
		strings.Repeat("\xff", 33), "ann", strings.Repeat("a", 1<<20),
	}
	for n := range len(whole) {
		values = append(values, whole[:n])
	}
	for _, value := range values {
		x := treeOf("acc/ann", value, "bank/ann/atom", number(5))
		wantNoAccount(t, strconv.Quote(value[:min(len(value), 50)]), x, "ann")
		opened, err := bank.Open(x, "ann", keyOf("bob"))
		wantErr(t, "Open", err, 0)
		wantPairs(t, "Open", opened, "acc/ann", accountOf(keyOf("bob"), 0), "bank/ann/atom", number(5))
	}
	for _, other := range []string{"acc/", "acc", "acc/ann/", "ann", "/ann", "acc//ann", "bank/ann", "supply/ann", "acc/ann\x00", "Acc/ann"} {
		wantNoAccount(t, other, treeOf(other, whole), "ann")
	}
}

// wantName holds that all functions with errors accept a name, or that none does.
func wantName(t *testing.T, name string, is bool) {
	t.Helper()
	what := strconv.Quote(name[:min(len(name), 80)])
	// There is all that these calls need, so that nothing but the name can be wrong.
	x := treeOf("acc/"+name, accountOf(keyOf("ann"), 0), "bank/"+name+"/atom", number(5), "bank/ann/atom", number(5), "supply/atom", number(10))
	if !is {
		wantNoAccount(t, what, x, name)
		for _, tree := range []*avl.Tree{x, nil} {
			for _, c := range []api.Coin{coins(1, "atom"), coins(-1, "no denomination"), {}} {
				for call, err := range calls(tree, name, c) {
					wantErr(t, call+" with "+what, err, api.ErrAccount)
				}
			}
		}
		return
	}
	wantAccount(t, x, name, keyOf("ann"), 0)
	if bumped, err := bank.Bump(x, name); err != nil || bumped == nil {
		t.Errorf("Bump of %s: %v", what, err)
	}
	for call, err := range calls(x.Drop("acc/"+name), name, coins(1, "atom")) {
		wantErr(t, call+" with "+what, err, 0)
	}
}

// calls are the errors of the functions that return a tree, but for Bump.
func calls(x *avl.Tree, name string, c api.Coin) map[string]error {
	l := make(map[string]error)
	call := func(what string, got *avl.Tree, err error) {
		if err != nil && got != nil {
			err = errors.New("a tree beside the error")
		}
		l[what] = err
	}
	got, err := bank.Open(x, name, api.Hash{})
	call("Open", got, err)
	got, err = bank.Mint(x, name, c)
	call("Mint", got, err)
	got, err = bank.Burn(x, name, c)
	call("Burn", got, err)
	got, err = bank.Send(x, name, "ann", c)
	call("Send from", got, err)
	got, err = bank.Send(x, "ann", name, c)
	call("Send to", got, err)
	return l
}

// TestBK1Name: names of all lengths that they can have, and of others.
func TestBK1Name(t *testing.T) {
	for n := range 80 {
		wantName(t, strings.Repeat("a", n), n >= 1 && n <= 64)
		wantName(t, strings.Repeat("~", n), n >= 1 && n <= 64)
		wantName(t, strings.Repeat("é", n), false)
	}
	for _, name := range []string{"a", "Z", "0", "!", "~", ".", "bonded", "fees", "escrow.transfer.channel-0", "ann@home", "a\\b", "\"ann\"", "{[(<>)]}"} {
		wantName(t, name, true)
	}
	for _, name := range []string{
		"/", "//", "a/b", "/a", "a/", strings.Repeat("a", 63) + "/", " ", "a b", "ann ", " ann", "ann\n", "\x00", "\x7f", "\xff", "é", "ａｎｎ", strings.Repeat("a", 1<<20),
	} {
		wantName(t, name, false)
	}
}

// TestBK1NameBytes: each byte at each place of a name.
func TestBK1NameBytes(t *testing.T) {
	for _, name := range []string{"a", "bob", strings.Repeat("a", 64)} {
		for _, i := range []int{0, len(name) / 2, len(name) - 1} {
			for b := range 256 {
				changed := []byte(name)
				changed[i] = byte(b)
				wantName(t, string(changed), b >= 33 && b <= 126 && b != '/')
			}
		}
	}
}
