package coin_test

import (
	"strconv"
	"strings"
	"testing"

	"isthmus/api"
	"isthmus/coin"
)

// long is the longest trace that there is.
func long() coin.Trace {
	end := strings.Repeat("p", 20) + "/" + strings.Repeat("c", 20)
	return coin.Trace{Path: []string{end, end, end, end, end, end, end, end}, Base: "abcdefghijklmno9"}
}

// way is a trace of atoms with n ends that differ.
func way(n int) coin.Trace {
	t := coin.Trace{Base: "atom"}
	for i := range n {
		t.Path = append(t.Path, "port-"+strconv.Itoa(i)+"/channel-"+strconv.Itoa(i))
	}
	return t
}

// one is a trace with a single end.
func one(end, base string) coin.Trace {
	return coin.Trace{Path: []string{end}, Base: base}
}

// traces are traces with their texts and the hashes of these, which were made outside Go.
func traces() []struct {
	t          coin.Trace
	text, hash string
} {
	longEnd := strings.Repeat("p", 20) + "/" + strings.Repeat("c", 20) + "/"
	return []struct {
		t          coin.Trace
		text, hash string
	}{
		{coin.Trace{Base: "atom"}, "atom", ""},
		{coin.Trace{Path: []string{}, Base: "abc"}, "abc", ""},
		{coin.Trace{Base: "abcdefghijklmnop"}, "abcdefghijklmnop", ""},
		{one("transfer/channel-0", "atom"), "transfer/channel-0/atom", "896f0081794734a2dbdf219b7575c569698f872619c43d18cc63c03cfb997257"},
		{one("transfer/channel-0", "photon"), "transfer/channel-0/photon", "c126d687ea8ebd7d7be86185a44f5b3c2850ad6b2002dfc0844fc214f4eef7b2"},
		{one("a/b", "abc"), "a/b/abc", "ba664740b97aa4b8b3472913bbd427a6f571035f0e7c9d5843965c492697031d"},
		{one("-/-", "abc"), "-/-/abc", "0ef9208cbbec902a598ef4b05cf9b26192a936ede5fbbba6584dfc8ea5883dc9"},
		{one("0/0", "a00"), "0/0/a00", "3a6522bba0d5a8122a89d807dfc2554031e59420299c7698111a830c03a038c0"},
		{one("ibc/channel-0", "atom"), "ibc/channel-0/atom", "92d7c85bfd060a2f16c6a216bf2e03ebfdbd85dcfeb3816fec01d8cf01a29347"},
		{coin.Trace{Path: []string{"transfer/channel-1", "transfer/channel-0"}, Base: "atom"}, "transfer/channel-1/transfer/channel-0/atom",
			"3a99e3fdfaefcfdab499337bf932b1eb870231c6ce805d5002a4b9dfe9778921"},
		{way(8), "port-0/channel-0/port-1/channel-1/port-2/channel-2/port-3/channel-3/port-4/channel-4/port-5/channel-5/port-6/channel-6/port-7/channel-7/atom",
			"bd984ca2d76e8e5fdceb5a57fed379de8c87f20a811b9b0d31509f67f031e281"},
		{long(), strings.Repeat(longEnd, 8) + "abcdefghijklmno9", "a8b03cb6bc5ff953eadd4046fb80d139ad688ce1be0645c1a057bef4b7d2f2b1"},
	}
}

// wrongEnds are what is no end.
func wrongEnds() []string {
	s20, s21 := strings.Repeat("a", 20), strings.Repeat("a", 21)
	return []string{
		"", "/", "a", "a/", "/a", "//", "a//b", "a/b/", "/a/b", "a/b/c", "a/b/c/d", "a b/c", "a/b c", "A/b", "a/B", "a_b/c", "a/b_c", "a.b/c", "a/b.c",
		"é/a", "a/é", "a/\xff", "\xff/a", "a\x00/b", "a/b\n", " a/b", s21 + "/" + s20, s20 + "/" + s21, "/" + s20, s20 + "/", s20, "a\\b", "transfer", "channel-0",
		"transfer/channel-0/", "transfer/channel-0/transfer/channel-0", strings.Repeat("a", 1<<16) + "/b", "b/" + strings.Repeat("a", 1<<16), strings.Repeat("/", 1<<16),
	}
}

// wrongBases are what is no base.
func wrongBases() []string {
	return []string{"", "ab", "0ab", "Atom", "a-b", "atom/", "/atom", "abcdefghijklmnopq", "atom\n", "ibc/" + hash, "transfer/channel-0/atom"}
}

// wantTraceErr holds that Full and Denom return want, and nothing else.
func wantTraceErr(t *testing.T, what string, x coin.Trace, want api.Errno) {
	t.Helper()
	text, err := coin.Full(x)
	wantErr(t, what+": Full", err, want)
	denom, err := coin.Denom(x)
	wantErr(t, what+": Denom", err, want)
	if text != "" || denom != "" {
		t.Errorf("%s: %q and %q beside the errors", what, text, denom)
	}
}

// wantTrace holds that got is want.
func wantTrace(t *testing.T, what string, got, want coin.Trace) {
	t.Helper()
	if !same(got, want) {
		t.Errorf("%s: %q, want %q", what, got, want)
	}
}

// same tells whether two traces have the same ends and the same base.
func same(a, b coin.Trace) bool {
	if len(a.Path) != len(b.Path) || a.Base != b.Base {
		return false
	}
	for i := range a.Path {
		if a.Path[i] != b.Path[i] {
			return false
		}
	}
	return true
}

// TestCN2FullParse: traces and their texts, both ways.
func TestCN2FullParse(t *testing.T) {
	for _, c := range traces() {
		text, err := coin.Full(c.t)
		wantErr(t, "Full", err, 0)
		if text != c.text {
			t.Errorf("Full: %q, want %q", text, c.text)
		}
		parsed, err := coin.Parse(c.text)
		wantErr(t, "Parse", err, 0)
		wantTrace(t, "Parse", parsed, c.t)
	}
}

// TestCN2Denom: bases are what they are, and any other trace is known by its hash.
func TestCN2Denom(t *testing.T) {
	for _, c := range traces() {
		want := c.text
		if c.hash != "" {
			want = "ibc/" + c.hash
		}
		denom, err := coin.Denom(c.t)
		wantErr(t, "Denom", err, 0)
		if denom != want {
			t.Errorf("Denom of %q: %q, want %q", c.text, denom, want)
		}
		wantErr(t, "Check of Denom", coin.Check(denom), 0)
	}
}

// TestCN2FullLong: more than 8 ends are too many, whatever else is wrong.
func TestCN2FullLong(t *testing.T) {
	for n := range 20 {
		x := way(n)
		if n <= 8 {
			text, err := coin.Full(x)
			wantErr(t, "Full", err, 0)
			if strings.Count(text, "/") != 2*n {
				t.Errorf("%d ends: %q", n, text)
			}
			continue
		}
		wantTraceErr(t, "too many ends", x, api.ErrLong)
		x.Base = "no base"
		wantTraceErr(t, "too many ends, and no base", x, api.ErrLong)
		x.Path[n-1] = "no end"
		wantTraceErr(t, "too many ends, one wrong, and no base", x, api.ErrLong)
		x.Base = "atom"
		wantTraceErr(t, "too many ends, one wrong", x, api.ErrLong)
	}
	wantTraceErr(t, "only empty ends", coin.Trace{Path: make([]string, 1<<20)}, api.ErrLong)
}

// TestCN2FullWrong: one wrong end at any place, or a wrong base.
func TestCN2FullWrong(t *testing.T) {
	for n := 1; n <= 8; n++ {
		for i := range n {
			for _, end := range wrongEnds() {
				x := way(n)
				x.Path[i] = end
				wantTraceErr(t, "a wrong end", x, api.ErrDenom)
			}
		}
	}
	for n := range 9 {
		for _, base := range wrongBases() {
			x := way(n)
			x.Base = base
			wantTraceErr(t, "a wrong base", x, api.ErrDenom)
		}
	}
	wantTraceErr(t, "no trace", coin.Trace{}, api.ErrDenom)
}

// TestCN2FullBytes: each byte at each place of an end.
func TestCN2FullBytes(t *testing.T) {
	end := "ab-0/z9"
	for i := range len(end) {
		for b := range 256 {
			changed := withByte(end, i, byte(b))
			fits := isIn(inName, byte(b))
			if i == len("ab-0") {
				fits = b == '/'
			}
			x := one(changed, "atom")
			text := changed + "/atom"
			parsed, err := coin.Parse(text)
			if !fits {
				wantTraceErr(t, strconv.Quote(changed), x, api.ErrDenom)
				wantErr(t, "Parse of "+strconv.Quote(text), err, api.ErrDenom)
				wantTrace(t, "beside the error", parsed, coin.Trace{})
				continue
			}
			full, fullErr := coin.Full(x)
			wantErr(t, "Full", fullErr, 0)
			if full != text {
				t.Errorf("Full: %q, want %q", full, text)
			}
			wantErr(t, "Parse", err, 0)
			wantTrace(t, "Parse", parsed, x)
		}
	}
}

// TestCN2ParseWrong: texts that no trace has.
func TestCN2ParseWrong(t *testing.T) {
	texts := append(wrongBases()[:len(wrongBases())-1],
		"a/atom", "atom/atom", "a/b/c/atom", "a/b/c/d/e/atom", "a/b/", "/a/b/atom", "a//b/atom", "a/b//atom", "a/b/atom/", "//atom", "/", "//", "///",
		"a/b/at", "a/b/Atom", "a/b/0tom", "a/b/a-m", "A/b/atom", "a/B/atom", "a b/c/atom", " a/b/atom", "a/b/atom ", "a/b/ibc/"+hash, "a/b/atom\x00", "a/b/c",
		"é/b/atom", "a/b/é", "a/\xff/atom", strings.Repeat("a", 21)+"/b/atom", "b/"+strings.Repeat("a", 21)+"/atom",
		strings.Repeat("a/b/", 9)+"atom", strings.Repeat("a/b/", 10)+"atom", strings.Repeat("a/b/", 8)+"a/atom", strings.Repeat("a/b/", 8)+"a/b",
		strings.Repeat("a/b/", 8), "/"+strings.Repeat("a/b/", 8)+"atom", strings.Repeat("a/b/", 8)+"/atom", strings.Repeat("a/b/", 8)+"atom/",
		strings.Repeat("a/b/", 1000)+"atom", strings.Repeat("/", 1<<22), strings.Repeat("a", 1<<22),
	)
	for _, end := range wrongEnds() {
		if end == "a/b/c/d" || end == "transfer/channel-0/transfer/channel-0" { // a text can't tell that two ends were meant as one
			continue
		}
		texts = append(texts, end+"/atom", "a/b/"+end+"/atom", end+"/a/b/atom")
	}
	for _, s := range texts {
		parsed, err := coin.Parse(s)
		wantErr(t, "Parse of "+strconv.Quote(s[:min(len(s), 80)]), err, api.ErrDenom)
		wantTrace(t, "beside the error", parsed, coin.Trace{})
	}
}

// TestCN2ParseCuts: each text that is cut off is one of a trace only if what is left ends with a base.
func TestCN2ParseCuts(t *testing.T) {
	text := "transfer/channel-1/ibc/channel-0/atom"
	whole := map[string]int{"transfer/channel-1/ibc": 1, text[:len(text)-1]: 2, text: 2}
	for n := 3; n <= len("transfer"); n++ {
		whole[text[:n]] = 0
	}
	for n := range len(text) + 1 {
		parsed, err := coin.Parse(text[:n])
		ends, is := whole[text[:n]]
		if !is {
			wantErr(t, "Parse of "+text[:n], err, api.ErrDenom)
			continue
		}
		wantErr(t, "Parse of "+text[:n], err, 0)
		if len(parsed.Path) != ends {
			t.Errorf("Parse of %q: %q", text[:n], parsed)
		}
	}
}

// TestCN2Port: ends of all lengths that ports and channels can have.
func TestCN2Port(t *testing.T) {
	for p := range 30 {
		for c := range 30 {
			port, channel := strings.Repeat("p", p), strings.Repeat("-", c)
			want := ""
			if p >= 1 && p <= 20 && c >= 1 && c <= 20 {
				want = port + "/" + channel
			}
			if got := coin.Port(port, channel); got != want {
				t.Errorf("Port(%q, %q): %q", port, channel, got)
			}
		}
	}
	if got := coin.Port("transfer", "channel-0"); got != "transfer/channel-0" {
		t.Errorf("Port: %q", got)
	}
}

// TestCN2PortBytes: each byte at each place of a port and of a channel.
func TestCN2PortBytes(t *testing.T) {
	for i := range 3 {
		for b := range 256 {
			name := withByte("abc", i, byte(b))
			before, behind := "", ""
			if isIn(inName, byte(b)) {
				before, behind = name+"/x", "x/"+name
			}
			if coin.Port(name, "x") != before || coin.Port("x", name) != behind {
				t.Errorf("Port with %q: %q, %q", name, coin.Port(name, "x"), coin.Port("x", name))
			}
		}
	}
}

// wrongNames are what no port and no channel is.
func wrongNames() []string {
	return []string{"", "/", "a/b", "/a", "a/", "A", "a b", "a_b", "é", "\xff", "a\n", "\x00", strings.Repeat("a", 21), strings.Repeat("a", 1<<20)}
}

// TestCN2PortWrong: a wrong port, a wrong channel, or both.
func TestCN2PortWrong(t *testing.T) {
	for _, a := range wrongNames() {
		for _, b := range append(wrongNames(), "x") {
			if got := coin.Port(a, b) + coin.Port(b, a); got != "" {
				t.Errorf("Port of %q and %q: %q", a, b, got)
			}
		}
	}
}
