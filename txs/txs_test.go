package txs_test

import (
	"errors"
	"math"
	"slices"
	"strconv"
	"strings"
	"testing"

	"isthmus/api"
	"isthmus/txs"
)

const (
	maxSeq  = 1 << 40
	maxText = 256
	maxData = 1 << 14
	maxSign = 1 << 13

	voucher = "ibc/0a0a0a0a0a0a0a0a0a0a0a0a0a0a0a0a0a0a0a0a0a0a0a0a0a0a0a0a0a0a0a0a"
)

// kinds are the chapter's table.
var kinds = []struct {
	kind, number, texts, ints, data int
}{
	{txs.Send, 1, 2, 1, 0},
	{txs.Bond, 2, 0, 1, 0},
	{txs.Unbond, 3, 0, 1, 0},
	{txs.ClientMake, 4, 1, 1, 2},
	{txs.ClientGoOn, 5, 1, 0, 1},
	{txs.ClientFault, 6, 1, 0, 2},
	{txs.ConnInit, 7, 2, 0, 0},
	{txs.ConnTry, 8, 3, 1, 1},
	{txs.ConnAck, 9, 2, 1, 1},
	{txs.ConnDone, 10, 1, 1, 1},
	{txs.ChanInit, 11, 4, 1, 0},
	{txs.ChanTry, 12, 5, 2, 1},
	{txs.ChanAck, 13, 3, 1, 1},
	{txs.ChanDone, 14, 2, 1, 1},
	{txs.Transfer, 15, 5, 3, 0},
	{txs.Recv, 16, 4, 4, 2},
	{txs.Ack, 17, 4, 4, 3},
	{txs.Timeout, 18, 4, 4, 2},
}

// noKinds are numbers that no kind has.
var noKinds = []int{0, -1, -2, -18, 19, 20, 36, 255, 256, 257, 1 << 32, 1<<32 + 1, math.MinInt, math.MinInt + 1, math.MaxInt}

// wantErr holds that err is the number want, or nil if want is 0.
func wantErr(t *testing.T, what string, err error, want api.Errno) {
	t.Helper()
	var number api.Errno
	if errors.As(err, &number); number != want || (err == nil) != (want == 0) {
		t.Errorf("%s: error %v, want %d", what, err, int(want))
	}
}

// must holds that a call of the preparation has no error.
func must(t *testing.T, err error) {
	t.Helper()
	if err != nil {
		t.Fatal(err)
	}
}

// send is a transaction that can be.
func send() txs.Tx {
	m := txs.Msg{Kind: txs.Send, Texts: []string{"bob", "atom"}, Ints: []int{5}}
	return txs.Tx{Account: "alice", Fee: api.Coin{Denom: "atom", Amount: 1}, Msgs: []txs.Msg{m}, Sign: []byte("sign")}
}

// blank is a message with so many parts, all of them zero.
func blank(kind, texts, ints, data int) txs.Msg {
	return txs.Msg{Kind: kind, Texts: make([]string, texts), Ints: make([]int, ints), Data: make([][]byte, data)}
}

// full is a message of the kind in this row of the table, each of whose parts is another one.
func full(row int) txs.Msg {
	k := kinds[row]
	name := strconv.Itoa(k.number) + "-"
	m := txs.Msg{Kind: k.kind}
	for i := range k.texts {
		m.Texts = append(m.Texts, "text"+name+strconv.Itoa(i))
	}
	for i := range k.ints {
		n := k.number*1000 + i
		if i%2 == 1 {
			n = -n
		}
		m.Ints = append(m.Ints, n)
	}
	for i := range k.data {
		m.Data = append(m.Data, slices.Repeat([]byte{byte(k.number), byte(i)}, i+1))
	}
	return m
}

// with is a Send with these messages.
func with(l ...txs.Msg) txs.Tx {
	x := send()
	x.Msgs = l
	return x
}

// copyOf shares no memory with x.
func copyOf(x txs.Tx) txs.Tx {
	x.Msgs, x.Sign = slices.Clone(x.Msgs), slices.Clone(x.Sign)
	for i := range x.Msgs {
		m := &x.Msgs[i]
		m.Texts, m.Ints, m.Data = slices.Clone(m.Texts), slices.Clone(m.Ints), slices.Clone(m.Data)
		for j := range m.Data {
			m.Data[j] = slices.Clone(m.Data[j])
		}
	}
	return x
}

// same tells whether two transactions are one, where nil and empty are the same.
func same(x, y txs.Tx) bool {
	sameMsg := func(m, n txs.Msg) bool {
		return m.Kind == n.Kind && slices.Equal(m.Texts, n.Texts) && slices.Equal(m.Ints, n.Ints) && slices.EqualFunc(m.Data, n.Data, slices.Equal)
	}
	return x.Account == y.Account && x.Seq == y.Seq && x.Fee == y.Fee && slices.EqualFunc(x.Msgs, y.Msgs, sameMsg) && slices.Equal(x.Sign, y.Sign)
}

// wantCheck holds that Check of x is the error want, and that x stays as it is.
func wantCheck(t *testing.T, what string, x txs.Tx, want api.Errno) {
	t.Helper()
	was := copyOf(x)
	wantErr(t, "Check: "+what, txs.Check(x), want)
	if !same(x, was) {
		t.Errorf("%s: the transaction was changed", what)
	}
}

// TestTX1Shape: the numbers of all kinds, and what each requires.
func TestTX1Shape(t *testing.T) {
	for i, k := range kinds {
		if k.kind != i+1 || k.kind != k.number {
			t.Errorf("kind %d has the number %d", k.number, k.kind)
		}
		if a, b, c := txs.Shape(k.kind); a != k.texts || b != k.ints || c != k.data {
			t.Errorf("Shape(%d) is %d, %d, %d", k.kind, a, b, c)
		}
	}
}

// TestTX1ShapeNone: a kind that does not exist requires nothing.
func TestTX1ShapeNone(t *testing.T) {
	for _, kind := range noKinds {
		if a, b, c := txs.Shape(kind); a != 0 || b != 0 || c != 0 {
			t.Errorf("Shape(%d) is %d, %d, %d", kind, a, b, c)
		}
	}
}

// TestTX1Check: transactions that can be, those at the edges among them.
func TestTX1Check(t *testing.T) {
	wantCheck(t, "a Send", send(), 0)
	for i, k := range kinds {
		what := "kind " + strconv.Itoa(k.number)
		wantCheck(t, what, with(full(i)), 0)
		wantCheck(t, what+" of blanks", with(blank(k.kind, k.texts, k.ints, k.data)), 0)
	}
	least := txs.Tx{Account: "a0", Fee: api.Coin{Denom: "abc"}, Msgs: []txs.Msg{{Kind: txs.Bond, Ints: []int{math.MinInt}}}}
	wantCheck(t, "the least", least, 0)
	greatest := txs.Tx{
		Account: "abcdefghijklmnopqrst", Seq: maxSeq, Fee: api.Coin{Denom: voucher, Amount: api.MaxAmount},
		Msgs: slices.Repeat([]txs.Msg{long(maxText, maxData)}, api.MaxMsgs), Sign: make([]byte, maxSign),
	}
	wantCheck(t, "the greatest", greatest, 0)
}

// TestTX1Account: names of accounts of each length, and with each byte at each place.
func TestTX1Account(t *testing.T) {
	check := func(name string, fits bool) {
		t.Helper()
		x := send()
		x.Account = name
		want := api.ErrAccount
		if fits {
			want = 0
		}
		wantCheck(t, "the account "+strconv.Quote(name), x, want)
	}
	for n := range 100 {
		check(strings.Repeat("a", n), n >= 2 && n <= 20)
		check(strings.Repeat("é", n), false)
		check(strings.Repeat("0", n), false)
	}
	for _, name := range []string{"ab", "alice", "a123456789012345678z"} {
		for i := range len(name) {
			for b := range 256 {
				changed := []byte(name)
				changed[i] = byte(b)
				letter, digit := b >= 'a' && b <= 'z', b >= '0' && b <= '9'
				check(string(changed), letter || digit && i > 0)
			}
		}
	}
	for _, name := range []string{"z9", "a0", "ibc", "atom", "alice0", "bob1bob"} {
		check(name, true)
	}
	for _, name := range []string{"Alice", "alIce", "0a", "9alice", "al ice", " alice", "alice ", "alice\n", "alice\x00", "al-ice", "al_ice", "al/ice", "álice", "аlice", "al\xffice", "ａlice", "a٣", strings.Repeat("a", 1<<20)} {
		check(name, false)
	}
}

// TestTX1Seq: the edges of the number of a transaction.
func TestTX1Seq(t *testing.T) {
	for _, c := range []struct {
		seq  int
		want api.Errno
	}{
		{0, 0}, {1, 0}, {1000, 0}, {1 << 32, 0}, {maxSeq - 1, 0}, {maxSeq, 0},
		{-1, api.ErrSeq}, {-maxSeq, api.ErrSeq}, {maxSeq + 1, api.ErrSeq}, {2 * maxSeq, api.ErrSeq}, {math.MaxInt, api.ErrSeq}, {math.MinInt, api.ErrSeq},
	} {
		x := send()
		x.Seq = c.seq
		wantCheck(t, "Seq "+strconv.Itoa(c.seq), x, c.want)
	}
}

// TestTX1Fee: denominations and amounts of the fee, of which that of the denomination is told first.
func TestTX1Fee(t *testing.T) {
	for _, c := range []struct {
		fee  api.Coin
		want api.Errno
	}{
		{api.Coin{Denom: "atom"}, 0}, {api.Coin{Denom: "atom", Amount: 1}, 0}, {api.Coin{Denom: "abc", Amount: api.MaxAmount - 1}, 0},
		{api.Coin{Denom: "abcdefghijklmnop", Amount: api.MaxAmount}, 0}, {api.Coin{Denom: voucher, Amount: 7}, 0}, {api.Coin{Denom: voucher}, 0},
		{api.Coin{}, api.ErrDenom}, {api.Coin{Amount: 1}, api.ErrDenom}, {api.Coin{Denom: "ab", Amount: 1}, api.ErrDenom},
		{api.Coin{Denom: "abcdefghijklmnopq", Amount: 1}, api.ErrDenom}, {api.Coin{Denom: "Atom", Amount: 1}, api.ErrDenom}, {api.Coin{Denom: "ibc/", Amount: 1}, api.ErrDenom},
		{api.Coin{Denom: voucher[:67], Amount: 1}, api.ErrDenom}, {api.Coin{Denom: voucher + "0", Amount: 1}, api.ErrDenom}, {api.Coin{Denom: "transfer/channel-0/atom"}, api.ErrDenom},
		{api.Coin{Denom: "Atom", Amount: -1}, api.ErrDenom}, {api.Coin{Denom: "", Amount: math.MaxInt}, api.ErrDenom},
		{api.Coin{Denom: "atom", Amount: -1}, api.ErrFee}, {api.Coin{Denom: "atom", Amount: api.MaxAmount + 1}, api.ErrFee}, {api.Coin{Denom: voucher, Amount: math.MinInt}, api.ErrFee},
		{api.Coin{Denom: "atom", Amount: math.MaxInt}, api.ErrFee}, {api.Coin{Denom: "atom", Amount: -api.MaxAmount}, api.ErrFee},
	} {
		x := send()
		x.Fee = c.fee
		wantCheck(t, "the fee "+strconv.Quote(c.fee.Denom)+" "+strconv.Itoa(c.fee.Amount), x, c.want)
	}
}

// TestTX1NumberOfMsgs: from 1 to MaxMsgs messages.
func TestTX1NumberOfMsgs(t *testing.T) {
	for n := range 20 {
		want := api.ErrArg
		if n >= 1 && n <= 8 {
			want = 0
		}
		wantCheck(t, strconv.Itoa(n)+" messages", with(slices.Repeat([]txs.Msg{full(n % len(kinds))}, n)...), want)
	}
	wantCheck(t, "messages that are nil", with(), api.ErrArg)
	wantCheck(t, "very many", with(slices.Repeat([]txs.Msg{full(0)}, 1<<16)...), api.ErrArg)
}

// TestTX1NoKind: kinds that do not exist, whatever parts their messages have.
func TestTX1NoKind(t *testing.T) {
	for _, kind := range noKinds {
		what := "kind " + strconv.Itoa(kind)
		wantCheck(t, what, with(blank(kind, 0, 0, 0)), api.ErrArg)
		for i, k := range kinds {
			m := full(i)
			m.Kind = kind
			wantCheck(t, what+" with the parts of "+strconv.Itoa(k.number), with(m), api.ErrArg)
		}
	}
	wantCheck(t, "a zero message", with(txs.Msg{}), api.ErrArg)
}

// TestTX1Parts: each kind with all small numbers of parts, of which one choice fits.
func TestTX1Parts(t *testing.T) {
	for _, k := range kinds {
		for texts := range 8 {
			for ints := range 8 {
				for data := range 8 {
					want := api.ErrArg
					if texts == k.texts && ints == k.ints && data == k.data {
						want = 0
					}
					wantCheck(t, "parts of kind "+strconv.Itoa(k.number), with(blank(k.kind, texts, ints, data)), want)
				}
			}
		}
	}
}

// long is an Ack, all of whose texts and data have so many bytes.
func long(text, data int) txs.Msg {
	m := blank(txs.Ack, 4, 4, 3)
	for i := range m.Texts {
		m.Texts[i] = strings.Repeat("x", text)
	}
	for i := range m.Data {
		m.Data[i] = make([]byte, data)
	}
	return m
}

// TestTX1Long: the greatest lengths of texts and data, met and exceeded at each place.
func TestTX1Long(t *testing.T) {
	wantCheck(t, "all as long as they may be", with(long(maxText, maxData)), 0)
	for i, k := range kinds {
		for j := range k.texts {
			for _, n := range []int{maxText - 1, maxText, maxText + 1, 2 * maxText, maxData, 1 << 20} {
				m := full(i)
				m.Texts[j] = strings.Repeat("é", n/2) + strings.Repeat("x", n%2)
				want := api.ErrLong
				if n <= maxText {
					want = 0
				}
				wantCheck(t, "text "+strconv.Itoa(j)+" of kind "+strconv.Itoa(k.number)+" with "+strconv.Itoa(n)+" bytes", with(m), want)
			}
		}
		for j := range k.data {
			for _, n := range []int{maxText, maxText + 1, maxData - 1, maxData, maxData + 1, 2 * maxData, 1 << 20} {
				m := full(i)
				m.Data[j] = make([]byte, n)
				want := api.ErrLong
				if n <= maxData {
					want = 0
				}
				wantCheck(t, "data "+strconv.Itoa(j)+" of kind "+strconv.Itoa(k.number)+" with "+strconv.Itoa(n)+" bytes", with(m), want)
			}
		}
	}
}

// TestTX1Sign: the greatest length of a signature.
func TestTX1Sign(t *testing.T) {
	for _, n := range []int{0, 1, 1000, maxSign - 1, maxSign, maxSign + 1, maxData, 1 << 20} {
		x := send()
		x.Sign = make([]byte, n)
		want := api.ErrLong
		if n <= maxSign {
			want = 0
		}
		wantCheck(t, strconv.Itoa(n)+" bytes of Sign", x, want)
	}
}

// TestTX1FirstMsg: of several messages with errors the first one tells, and of one message its parts ahead of their lengths.
func TestTX1FirstMsg(t *testing.T) {
	right, wrong, tooLong := full(16), blank(txs.Ack, 4, 4, 2), long(maxText+1, 0)
	both := long(maxText+1, maxData+1)
	both.Ints = both.Ints[:3]
	longNone := long(maxText+1, maxData+1)
	longNone.Kind = 0
	for _, c := range []struct {
		msgs []txs.Msg
		want api.Errno
	}{
		{[]txs.Msg{tooLong, wrong}, api.ErrLong}, {[]txs.Msg{wrong, tooLong}, api.ErrArg},
		{[]txs.Msg{right, tooLong, wrong}, api.ErrLong}, {[]txs.Msg{right, wrong, tooLong}, api.ErrArg},
		{[]txs.Msg{right, right, long(0, maxData+1), txs.Msg{}, right}, api.ErrLong}, {[]txs.Msg{right, txs.Msg{}, long(0, maxData+1), right}, api.ErrArg},
		{[]txs.Msg{both}, api.ErrArg}, {[]txs.Msg{right, both, tooLong}, api.ErrArg}, {[]txs.Msg{longNone}, api.ErrArg}, {[]txs.Msg{tooLong, both, longNone}, api.ErrLong},
	} {
		wantCheck(t, strconv.Itoa(len(c.msgs))+" messages", with(c.msgs...), c.want)
	}
	for n := range api.MaxMsgs {
		ahead := slices.Repeat([]txs.Msg{right}, n)
		behind := slices.Repeat([]txs.Msg{right}, api.MaxMsgs-n-1)
		wantCheck(t, "wrong at "+strconv.Itoa(n), with(slices.Concat(ahead, []txs.Msg{wrong}, behind)...), api.ErrArg)
		wantCheck(t, "too long at "+strconv.Itoa(n), with(slices.Concat(ahead, []txs.Msg{tooLong}, behind)...), api.ErrLong)
	}
	wantCheck(t, "too many, the first of them too long", with(slices.Repeat([]txs.Msg{tooLong}, 9)...), api.ErrArg)
}

// fault is what spoils a transaction, and the error of that.
type fault struct {
	what  string
	want  api.Errno
	spoil func(*txs.Tx)
}

// faults are in the order in which Check tells them.
func faults() []fault {
	return []fault{
		{"the account", api.ErrAccount, func(x *txs.Tx) { x.Account = "A" }},
		{"Seq", api.ErrSeq, func(x *txs.Tx) { x.Seq = -1 }},
		{"the denomination", api.ErrDenom, func(x *txs.Tx) { x.Fee.Denom = "at" }},
		{"the amount", api.ErrFee, func(x *txs.Tx) { x.Fee.Amount = -1 }},
		{"the number of messages", api.ErrArg, func(x *txs.Tx) { x.Msgs = slices.Repeat([]txs.Msg{long(maxText+1, 0)}, 9) }},
		{"the kind of a message", api.ErrArg, func(x *txs.Tx) { x.Msgs = append(x.Msgs, txs.Msg{}, txs.Msg{}) }},
		{"the length of a message", api.ErrLong, func(x *txs.Tx) { x.Msgs = append(x.Msgs, long(maxText+1, 0)) }},
		{"the length of Sign", api.ErrLong, func(x *txs.Tx) { x.Sign = make([]byte, maxSign+1) }},
	}
}

// TestTX1Order: of any two faults the one that is listed first is told.
func TestTX1Order(t *testing.T) {
	all := faults()
	for i, f := range all {
		x := send()
		f.spoil(&x)
		wantCheck(t, f.what, x, f.want)
		for _, g := range all[i+1:] {
			x := send()
			f.spoil(&x)
			g.spoil(&x)
			wantCheck(t, f.what+" and "+g.what, x, f.want)
		}
	}
	wantCheck(t, "nothing at all", txs.Tx{}, api.ErrAccount)
}
