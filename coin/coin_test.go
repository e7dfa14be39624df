package coin_test

import (
	"errors"
	"math"
	"math/big"
	"slices"
	"strconv"
	"strings"
	"testing"

	"isthmus/api"
	"isthmus/coin"
)

const (
	hash = "896f0081794734a2dbdf219b7575c569698f872619c43d18cc63c03cfb997257"

	inBase = "abcdefghijklmnopqrstuvwxyz0123456789"
	inName = inBase + "-"
	inHash = "0123456789abcdef"
)

// wantErr holds that err is the number want, or nil if want is 0.
func wantErr(t *testing.T, what string, err error, want api.Errno) {
	t.Helper()
	var number api.Errno
	if errors.As(err, &number); number != want || (err == nil) != (want == 0) {
		t.Errorf("%s: error %v, want %d", what, err, int(want))
	}
}

// wantDenom holds that s is a base denomination, that of a voucher, or none.
func wantDenom(t *testing.T, s string, base, voucher bool) {
	t.Helper()
	if coin.Base(s) != base {
		t.Errorf("Base(%q) is %t", s, !base)
	}
	want := api.ErrDenom
	if base || voucher {
		want = 0
	}
	wantErr(t, "Check of "+strconv.Quote(s), coin.Check(s), want)
}

// withByte is s with another byte at place i.
func withByte(s string, i int, b byte) string {
	changed := []byte(s)
	changed[i] = b
	return string(changed)
}

// isIn tells whether a byte is among these.
func isIn(these string, b byte) bool { return strings.IndexByte(these, b) >= 0 }

// TestCN1Base: bases of any length that they can have.
func TestCN1Base(t *testing.T) {
	for _, s := range []string{
		"atom", "abc", "a00", "z99", "ibc", "zzz", "a0b1c2", "photon", "transfer", "abcdefghijklmno", "abcdefghijklmnop", "a123456789012345",
	} {
		wantDenom(t, s, true, false)
	}
	for n := range 40 {
		wantDenom(t, strings.Repeat("a", n), n >= 3 && n <= 16, false)
		wantDenom(t, strings.Repeat("é", n), false, false)
		wantDenom(t, strings.Repeat("0", n), false, false)
	}
}

// TestCN1BaseWrong: what is no denomination at all.
func TestCN1BaseWrong(t *testing.T) {
	for _, s := range []string{
		"", "a", "ab", "Atom", "aTom", "atoM", "0atom", "9ab", "-abc", "a-b", "a_b", "a.b", "at om", " atom", "atom ", "atom\n", "\x00atom", "atom\x00",
		"atomé", "éatom", "аtom", "atom\xff", "\xffatom", "a\u0300bc", "ａｔｏｍ", "at٣m", "a/b", "atom/", "/atom", "//////",
		"transfer/channel-0/atom", "ibc/atom", strings.Repeat("a", 1<<20),
	} {
		wantDenom(t, s, false, false)
	}
}

// TestCN1BaseBytes: each byte at each place of bases of the least and the greatest length.
func TestCN1BaseBytes(t *testing.T) {
	for _, s := range []string{"abc", "atom", "abcdefghijklmnop"} {
		for i := range len(s) {
			for b := range 256 {
				fits := isIn(inBase, byte(b))
				if i == 0 {
					fits = b >= 'a' && b <= 'z'
				}
				wantDenom(t, withByte(s, i, byte(b)), fits, false)
			}
		}
	}
}

// TestCN1CheckVoucher: the denominations of vouchers.
func TestCN1CheckVoucher(t *testing.T) {
	for _, s := range []string{hash, strings.Repeat("0", 64), strings.Repeat("f", 64), strings.Repeat("0a9f", 16)} {
		wantDenom(t, "ibc/"+s, false, true)
	}
	for n := range 200 {
		wantDenom(t, "ibc/"+strings.Repeat("a", n), false, n == 64)
	}
}

// TestCN1CheckVoucherWrong: what only looks like the denomination of a voucher.
func TestCN1CheckVoucherWrong(t *testing.T) {
	for _, s := range []string{
		"ibc/", "ibc" + hash, "ibc//" + hash, "ibc/" + hash + "/", "/ibc/" + hash, "ibc/ibc/" + hash, "IBC/" + hash, "Ibc/" + hash,
		"ibc/" + strings.ToUpper(hash), hash, "/" + hash, "abc/" + hash, "ibc-" + hash, "ibc/" + hash[:63], "ibc/" + hash + "0", "ibc/" + hash[:63] + "g",
		" ibc/" + hash, "ibc/" + hash + "\n", "ibc/ " + hash[:63], "ibc/0x" + hash[:62], "ibc/" + hash[:62] + "é", "ibc/" + strings.Repeat("é", 64),
		"ibc/" + hash + hash, "ibc/" + strings.Repeat("a", 1<<20),
	} {
		wantDenom(t, s, false, false)
	}
}

// TestCN1CheckVoucherBytes: each byte at each place of the denomination of a voucher.
func TestCN1CheckVoucherBytes(t *testing.T) {
	s := "ibc/" + hash
	for i := range len(s) {
		for b := range 256 {
			fits := byte(b) == s[i]
			if i >= len("ibc/") {
				fits = isIn(inHash, byte(b))
			}
			wantDenom(t, withByte(s, i, byte(b)), false, fits)
		}
	}
}

// edges are numbers about those at which an answer can change.
func edges() []int {
	l := []int{0, math.MinInt, math.MinInt + 1, math.MaxInt, math.MaxInt - 1, -api.MaxAmount, 1000, 1 << 32}
	for _, n := range []int{0, 1 << 31, api.MaxAmount / 2, api.MaxAmount, 2 * api.MaxAmount} {
		l = append(l, n-2, n-1, n, n+1, n+2, -n)
	}
	slices.Sort(l)
	return slices.Compact(l)
}

// wantNumber holds that a call returned a number, or an error and no number.
func wantNumber(t *testing.T, what string, a, b, got int, err error, n *big.Int, want api.Errno) {
	t.Helper()
	what += "(" + strconv.Itoa(a) + ", " + strconv.Itoa(b) + ")"
	wantErr(t, what, err, want)
	if want != 0 {
		n = big.NewInt(0)
	}
	if big.NewInt(int64(got)).Cmp(n) != 0 {
		t.Errorf("%s: %d, want %s", what, got, n)
	}
}

// isAmount tells whether n is from 0 to MaxAmount.
func isAmount(n *big.Int) bool { return n.Sign() >= 0 && n.Cmp(big.NewInt(1<<60)) <= 0 }

// TestCN1AddSub: all pairs of numbers at the edges, against sums and differences that can't wrap round.
func TestCN1AddSub(t *testing.T) {
	for _, a := range edges() {
		for _, b := range edges() {
			x, y := big.NewInt(int64(a)), big.NewInt(int64(b))
			sum, difference := new(big.Int).Add(x, y), new(big.Int).Sub(x, y)
			var ofAdd, ofSub api.Errno
			switch {
			case !isAmount(x) || !isAmount(y):
				ofAdd, ofSub = api.ErrRange, api.ErrRange
			case !isAmount(sum) && !isAmount(difference):
				ofAdd, ofSub = api.ErrOver, api.ErrFunds
			case !isAmount(sum):
				ofAdd = api.ErrOver
			case !isAmount(difference):
				ofSub = api.ErrFunds
			}
			got, err := coin.Add(a, b)
			wantNumber(t, "Add", a, b, got, err, sum, ofAdd)
			got, err = coin.Sub(a, b)
			wantNumber(t, "Sub", a, b, got, err, difference, ofSub)
		}
	}
}

// TestCN1AddSubTable: some of them written out.
func TestCN1AddSubTable(t *testing.T) {
	const most = 1 << 60
	for _, c := range []struct {
		a, b, sum, difference int
		ofAdd, ofSub          api.Errno
	}{
		{5, 2, 7, 3, 0, 0},
		{2, 5, 7, 0, 0, api.ErrFunds},
		{0, 0, 0, 0, 0, 0},
		{0, 1, 1, 0, 0, api.ErrFunds},
		{7, 7, 14, 0, 0, 0},
		{most, 0, most, most, 0, 0},
		{0, most, most, 0, 0, api.ErrFunds},
		{most - 1, 1, most, most - 2, 0, 0},
		{most / 2, most / 2, most, 0, 0, 0},
		{most, 1, 0, most - 1, api.ErrOver, 0},
		{1, most, 0, 0, api.ErrOver, api.ErrFunds},
		{most, most, 0, 0, api.ErrOver, 0},
		{most/2 + 1, most / 2, 0, 1, api.ErrOver, 0},
		{-1, 0, 0, 0, api.ErrRange, api.ErrRange},
		{0, -1, 0, 0, api.ErrRange, api.ErrRange},
		{-1, most, 0, 0, api.ErrRange, api.ErrRange},
		{most, -1, 0, 0, api.ErrRange, api.ErrRange},
		{most + 1, 0, 0, 0, api.ErrRange, api.ErrRange},
		{0, most + 1, 0, 0, api.ErrRange, api.ErrRange},
		{most + 1, most + 1, 0, 0, api.ErrRange, api.ErrRange},
		{math.MaxInt, math.MaxInt, 0, 0, api.ErrRange, api.ErrRange},
		{math.MinInt, math.MinInt, 0, 0, api.ErrRange, api.ErrRange},
		{math.MinInt, math.MaxInt, 0, 0, api.ErrRange, api.ErrRange},
	} {
		got, err := coin.Add(c.a, c.b)
		wantNumber(t, "Add", c.a, c.b, got, err, big.NewInt(int64(c.sum)), c.ofAdd)
		got, err = coin.Sub(c.a, c.b)
		wantNumber(t, "Sub", c.a, c.b, got, err, big.NewInt(int64(c.difference)), c.ofSub)
	}
}
