package coin_test

import (
	"math/rand"
	"slices"
	"strings"
	"testing"

	"isthmus/api"
	"isthmus/coin"
)

// TestCN3Into: the end is before all others, as long as there are not too many.
func TestCN3Into(t *testing.T) {
	for n := range 20 {
		x, err := coin.Into(way(n), "transfer", "channel-7")
		if n >= 8 {
			wantErr(t, "Into", err, api.ErrLong)
			wantTrace(t, "beside the error", x, coin.Trace{})
			continue
		}
		wantErr(t, "Into", err, 0)
		wantTrace(t, "Into", x, coin.Trace{Path: append([]string{"transfer/channel-7"}, way(n).Path...), Base: "atom"})
	}
	x, err := coin.Into(one("transfer/channel-0", "atom"), "transfer", "channel-0")
	wantErr(t, "the same end again", err, 0)
	wantTrace(t, "the same end again", x, coin.Trace{Path: []string{"transfer/channel-0", "transfer/channel-0"}, Base: "atom"})
}

// TestCN3IntoWrong: no end, ahead of too many ends, ahead of wrong ones and a wrong base.
func TestCN3IntoWrong(t *testing.T) {
	wrongEnd, wrongBase := way(7), way(7)
	wrongEnd.Path[6], wrongBase.Base = "no end", "no base"
	tooMany := way(8)
	tooMany.Path[7], tooMany.Base = "no end", "no base"
	for _, c := range []struct {
		what          string
		t             coin.Trace
		port, channel string
		want          api.Errno
	}{
		{"no port", way(1), "", "channel-0", api.ErrDenom},
		{"no channel", way(1), "transfer", "", api.ErrDenom},
		{"no end, and too many", way(8), "transfer", "", api.ErrDenom},
		{"no end, and too many wrong ones", tooMany, "", "channel-0", api.ErrDenom},
		{"too many wrong ones", tooMany, "transfer", "channel-0", api.ErrLong},
		{"too many", way(8), "transfer", "channel-0", api.ErrLong},
		{"far too many", coin.Trace{Path: make([]string, 1<<20)}, "transfer", "channel-0", api.ErrLong},
		{"a wrong end", wrongEnd, "transfer", "channel-0", api.ErrDenom},
		{"a wrong base", wrongBase, "transfer", "channel-0", api.ErrDenom},
		{"no trace", coin.Trace{}, "transfer", "channel-0", api.ErrDenom},
		{"a base that is a voucher", coin.Trace{Base: "ibc/" + hash}, "transfer", "channel-0", api.ErrDenom},
	} {
		x, err := coin.Into(c.t, c.port, c.channel)
		wantErr(t, c.what, err, c.want)
		wantTrace(t, c.what, x, coin.Trace{})
	}
	for _, name := range wrongNames() {
		for _, pair := range [][2]string{{name, "x"}, {"x", name}, {name, name}} {
			x, err := coin.Into(way(2), pair[0], pair[1])
			wantErr(t, "no end", err, api.ErrDenom)
			wantTrace(t, "no end", x, coin.Trace{})
		}
	}
}

// wantFrom holds what From returns.
func wantFrom(t *testing.T, what string, x coin.Trace, port, channel string, want coin.Trace, came bool) {
	t.Helper()
	got, is := coin.From(x, port, channel)
	if is != came {
		t.Errorf("%s: %t", what, is)
	}
	wantTrace(t, what, got, want)
}

// TestCN3From: only the first end is taken away, and only if it is that one.
func TestCN3From(t *testing.T) {
	x := coin.Trace{Path: []string{"transfer/channel-1", "transfer/channel-0", "transfer/channel-0"}, Base: "atom"}
	behind := coin.Trace{Path: x.Path[1:], Base: "atom"}
	last := coin.Trace{Path: x.Path[2:], Base: "atom"}
	wantFrom(t, "the first end", x, "transfer", "channel-1", behind, true)
	wantFrom(t, "the second one", x, "transfer", "channel-0", x, false)
	wantFrom(t, "an end that is there twice", behind, "transfer", "channel-0", last, true)
	wantFrom(t, "the only one", last, "transfer", "channel-0", coin.Trace{Base: "atom"}, true)
	for _, pair := range [][2]string{
		{"transfer", "channel-2"}, {"transfe", "channel-1"}, {"transfer", "channel-"}, {"transfer", "channel-11"}, {"channel-1", "transfer"}, {"transfer/channel-1", ""},
		{"", "transfer/channel-1"}, {"transfer/", "channel-1"}, {"transfer", "/channel-1"}, {"Transfer", "channel-1"}, {"", ""}, {"t", "c"},
	} {
		wantFrom(t, pair[0]+" and "+pair[1], x, pair[0], pair[1], x, false)
	}
	wantFrom(t, "a base", coin.Trace{Base: "atom"}, "transfer", "channel-0", coin.Trace{Base: "atom"}, false)
	wantFrom(t, "no trace", coin.Trace{}, "transfer", "channel-0", coin.Trace{}, false)
	wantFrom(t, "no trace, and no end", coin.Trace{}, "", "", coin.Trace{}, false)
}

// TestCN3FromNoEnd: what ports and channels that can't be would form is not found in a Path that has it.
func TestCN3FromNoEnd(t *testing.T) {
	for _, name := range wrongNames() {
		for _, pair := range [][2]string{{name, "x"}, {"x", name}, {name, name}} {
			for _, end := range []string{pair[0] + "/" + pair[1], "", "/", name} {
				x := coin.Trace{Path: []string{end, "a/b"}, Base: "atom"}
				wantFrom(t, "no end", x, pair[0], pair[1], x, false)
			}
		}
	}
}

// TestCN3FromAnyTrace: nothing is asked of the trace but its first end.
func TestCN3FromAnyTrace(t *testing.T) {
	for _, base := range append(wrongBases(), "atom") {
		for _, n := range []int{0, 1, 8, 9, 1000} {
			rest := coin.Trace{Path: make([]string, n), Base: base}
			for i := range n {
				rest.Path[i] = wrongEnds()[i%20]
			}
			x := coin.Trace{Path: append([]string{"a/b"}, rest.Path...), Base: base}
			wantFrom(t, "a trace that can't be", x, "a", "b", rest, true)
			wantFrom(t, "another end", x, "a", "c", x, false)
			wantFrom(t, "without the end", rest, "a", "b", rest, false)
		}
	}
}

// anyName is a port or a channel.
func anyName(r *rand.Rand) string {
	name := make([]byte, 1+r.Intn(20))
	for i := range name {
		name[i] = inName[r.Intn(len(inName))]
	}
	return string(name)
}

// anyTrace is a trace.
func anyTrace(r *rand.Rand) coin.Trace {
	t := coin.Trace{Base: "a"}
	for range 2 + r.Intn(14) {
		t.Base += string(inBase[r.Intn(len(inBase))])
	}
	for range r.Intn(9) {
		t.Path = append(t.Path, anyName(r)+"/"+anyName(r))
	}
	return t
}

// TestCN4Back: From of Into and Parse of Full are the trace, whatever trace it is, and no other trace has its text.
func TestCN4Back(t *testing.T) {
	r := rand.New(rand.NewSource(14))
	texts := map[string]coin.Trace{}
	for range 5000 {
		x := anyTrace(r)
		text, err := coin.Full(x)
		wantErr(t, "Full", err, 0)
		if other, is := texts[text]; is && !same(x, other) {
			t.Errorf("%q and %q are both %q", x, other, text)
		}
		texts[text] = x
		parsed, err := coin.Parse(text)
		wantErr(t, "Parse", err, 0)
		wantTrace(t, "Parse of Full", parsed, x)
		port, channel := anyName(r), anyName(r)
		longer, err := coin.Into(x, port, channel)
		if len(x.Path) == 8 {
			wantErr(t, "Into", err, api.ErrLong)
			continue
		}
		wantErr(t, "Into", err, 0)
		wantFrom(t, "From of Into", longer, port, channel, x, true)
		text, err = coin.Full(longer)
		wantErr(t, "Full of Into", err, 0)
		parsed, err = coin.Parse(text)
		wantErr(t, "Parse", err, 0)
		wantTrace(t, "Parse of Full of Into", parsed, longer)
	}
}

// TestCN4FullOfParse: a text that Parse takes is what Full returns, whatever text it is.
func TestCN4FullOfParse(t *testing.T) {
	r := rand.New(rand.NewSource(41))
	parts := []string{"a", "ab", "abc", "transfer", "channel-0", "atom", "0", "-", "A", "", "abcdefghijklmnop", "abcdefghijklmnopq", strings.Repeat("z", 21)}
	taken := 0
	for range 100000 {
		text := parts[r.Intn(len(parts))]
		for range r.Intn(7) {
			text += "/" + parts[r.Intn(len(parts))]
		}
		x, err := coin.Parse(text)
		if err != nil {
			wantErr(t, "Parse", err, api.ErrDenom)
			wantTrace(t, "beside the error", x, coin.Trace{})
			continue
		}
		taken++
		full, err := coin.Full(x)
		wantErr(t, "Full", err, 0)
		if full != text {
			t.Errorf("Full of Parse of %q: %q", text, full)
		}
	}
	if taken < 1000 {
		t.Errorf("only %d texts were taken", taken)
	}
}

// roomy is a Path of n ends with spare capacity, and all the memory that it has.
func roomy(n int) (path, all []string) {
	all = append(way(n).Path, "spare", "spare", "spare")
	return all[:n], all
}

// TestCN4Memory: no call changes a trace that it is given, or what lies behind it, and no result shares memory with it.
func TestCN4Memory(t *testing.T) {
	for n := range 8 {
		path, all := roomy(n)
		x := coin.Trace{Path: path, Base: "atom"}
		before := slices.Clone(all)
		_, _ = coin.Full(x)
		_, _ = coin.Denom(x)
		longer, _ := coin.Into(x, "transfer", "channel-0")
		shorter, _ := coin.From(x, "port-0", "channel-0")
		other, _ := coin.From(x, "transfer", "channel-0")
		if !slices.Equal(all, before) {
			t.Fatalf("%d ends: changed to %q", n, all)
		}
		for _, result := range []coin.Trace{longer, shorter, other} {
			spoil(result.Path)
		}
		if !slices.Equal(all, before) {
			t.Fatalf("%d ends: shared with a result, so that they are %q now", n, all)
		}
		again, _ := coin.Into(x, "transfer", "channel-0")
		spoil(all)
		wantTrace(t, "Into", again, coin.Trace{Path: append([]string{"transfer/channel-0"}, way(n).Path...), Base: "atom"})
	}
}

// spoil changes a Path and all of its spare capacity.
func spoil(path []string) {
	path = path[:cap(path)]
	for i := range path {
		path[i] = "spoilt"
	}
}
