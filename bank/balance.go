package bank

import (
	"slices"
	"strings"

	"isthmus/api"
	"isthmus/avl"
	"isthmus/coin"
	"isthmus/pack"
)

const (
	balances       = "bank/"
	behindBalances = "bank0" // "0" is the byte behind "/"
	supplies       = "supply/"
)

// Balance is what somebody has of a denomination.
func Balance(t *avl.Tree, name, denom string) int {
	return number(t, balanceKey(name, denom))
}

// Supply is how much of a denomination there is.
func Supply(t *avl.Tree, denom string) int {
	return number(t, supplyKey(denom))
}

// Mint is the tree with new coins, which name has.
func Mint(t *avl.Tree, name string, c api.Coin) (*avl.Tree, error) {
	if err := check(c, name); err != nil {
		return nil, err
	}
	t, err := changed(t, supplyKey(c.Denom), coin.Add, c.Amount)
	if err != nil {
		return nil, err
	}
	return changed(t, balanceKey(name, c.Denom), coin.Add, c.Amount)
}

// Burn is the tree without coins that name had.
func Burn(t *avl.Tree, name string, c api.Coin) (*avl.Tree, error) {
	if err := check(c, name); err != nil {
		return nil, err
	}
	t, err := changed(t, balanceKey(name, c.Denom), coin.Sub, c.Amount)
	if err != nil {
		return nil, err
	}
	return changed(t, supplyKey(c.Denom), coin.Sub, c.Amount)
}

// Send is the tree in which coins that from had are those of to.
func Send(t *avl.Tree, from, to string, c api.Coin) (*avl.Tree, error) {
	if err := check(c, from, to); err != nil {
		return nil, err
	}
	t, err := changed(t, balanceKey(from, c.Denom), coin.Sub, c.Amount)
	if err != nil {
		return nil, err
	}
	return changed(t, balanceKey(to, c.Denom), coin.Add, c.Amount)
}

// Balances are the pairs of the balances that are not 0, in order.
func Balances(t *avl.Tree) []api.Pair {
	return slices.DeleteFunc(t.Range(balances, behindBalances), isZero)
}

// Sum is what all have of a denomination together, or MaxAmount + 1 if that is no amount.
func Sum(t *avl.Tree, denom string) int {
	sum := 0
	for _, pair := range Balances(t) {
		_, of, found := strings.Cut(strings.TrimPrefix(pair.Key, balances), endOfName)
		if !found || of != denom {
			continue
		}
		more, err := coin.Add(sum, decode(pair.Value))
		if err != nil {
			return api.MaxAmount + 1
		}
		sum = more
	}
	return sum
}

// check is the error of a name, or else that of the denomination; the amount is checked where it is added or subtracted.
func check(c api.Coin, names ...string) error {
	if err := checkNames(names...); err != nil {
		return err
	}
	return coin.Check(c.Denom)
}

func balanceKey(name, denom string) string { return balances + name + endOfName + denom }

func supplyKey(denom string) string { return supplies + denom }

// changed is the tree in which the number of a key is what coin.Add or coin.Sub makes of it and the amount.
func changed(t *avl.Tree, key string, by func(a, b int) (int, error), amount int) (*avl.Tree, error) {
	n, err := by(number(t, key), amount)
	if err != nil {
		return nil, err
	}
	if n == 0 {
		return t.Drop(key), nil
	}
	return t.Set(key, string(pack.New().Int(n).Done())), nil
}

func number(t *avl.Tree, key string) int {
	value, _ := t.Get(key)
	return decode(value)
}

// decode is the number of a value, or 0 if it is not the encoding of one.
func decode(value string) int {
	r := pack.Read([]byte(value))
	n := r.Int()
	if r.Done() != nil {
		return 0
	}
	return n
}

func isZero(pair api.Pair) bool { return decode(pair.Value) == 0 }
