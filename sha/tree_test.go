package sha_test

import (
	"math"
	"slices"
	"strconv"
	"testing"

	"isthmus/api"
	"isthmus/sha"
)

// sample are the leaves of the example trees of Certificate Transparency, the use that RFC 6962 was written for.
func sample() []api.Hash {
	texts := []string{
		"", "\x00", "\x10", "\x20\x21", "\x30\x31", "\x40\x41\x42\x43",
		"\x50\x51\x52\x53\x54\x55\x56\x57", "\x60\x61\x62\x63\x64\x65\x66\x67\x68\x69\x6a\x6b\x6c\x6d\x6e\x6f",
	}
	var l []api.Hash
	for _, s := range texts {
		l = append(l, sha.Leaf([]byte(s)))
	}
	return l
}

// leaves are n leaves that differ.
func leaves(n int) []api.Hash {
	l := make([]api.Hash, n)
	for i := range l {
		l[i] = sha.Leaf([]byte{byte(i), byte(i >> 8)})
	}
	return l
}

// texts are the Texts of hashes.
func texts(l []api.Hash) []string {
	var s []string
	for _, h := range l {
		s = append(s, sha.Text(h))
	}
	return s
}

func TestSH2Leaf(t *testing.T) {
	want := []string{
		"6e340b9cffb37a989ca544e6bb780a2c78901d3fb33738768511a30617afa01d",
		"96a296d224f285c67bee93c30f8a309157f0daa35dc5b87e410b78630a09cfc7",
		"0298d122906dcfc10892cb53a73992fc5b9f493ea4c9badb27b791b4127a7fe7",
		"07506a85fd9dd2f120eb694f86011e5bb4662e5c415a62917033d4a9624487e7",
		"bc1a0643b12e4d2d7c77918f44e0f4f79a838b6cf9ec5b5c283e1f4d88599e6b",
		"4271a26be0d8a84f0bd54c8c302e7cb3a3b5d1fa6780a40bcce2873477dab658",
		"b08693ec2e721597130641e8211e7eedccb4c26413963eee6c1e2ed16ffb1a5f",
		"46f6ffadd3d06a09ff3c5860d2755c8b9819db7df44251788c7d8e3180de8eb1",
	}
	if got := texts(sample()); !slices.Equal(got, want) {
		t.Errorf("leaves: %q", got)
	}
	for n := range 200 {
		if sha.Leaf(pattern(n)) != sha.Sum(append([]byte{0}, pattern(n)...)) {
			t.Errorf("leaf of %d bytes", n)
		}
	}
}

func TestSH2Node(t *testing.T) {
	a, b := sha.Sum([]byte("a")), sha.Sum([]byte("b"))
	if got := sha.Text(sha.Node(a, b)); got != "1fdf7b651907a893865fdf1866cf251d60d527dfafa10a663514f4f9ee34ab22" {
		t.Errorf("node: %s", got)
	}
	if sha.Node(a, b) != sha.Sum(slices.Concat([]byte{1}, a[:], b[:])) {
		t.Error("a node is not the hash of 1 and its children")
	}
	if sha.Node(a, b) == sha.Node(b, a) {
		t.Error("the order of the children makes no difference")
	}
}

func TestSH2Root(t *testing.T) {
	want := []string{
		"e3b0c44298fc1c149afbf4c8996fb92427ae41e4649b934ca495991b7852b855",
		"6e340b9cffb37a989ca544e6bb780a2c78901d3fb33738768511a30617afa01d",
		"fac54203e7cc696cf0dfcb42c92a1d9dbaf70ad9e621f4bd8d98662f00e3c125",
		"aeb6bcfe274b70a14fb067a5e5578264db0fa9b51af5e0ba159158f329e06e77",
		"d37ee418976dd95753c1c73862b9398fa2a2cf9b4ff0fdfe8b30cd95209614b7",
		"4e3bbb1f7b478dcfe71fb631631519a3bca12c9aefca1612bfce4c13a86264d4",
		"76e67dadbcdf1e10e1b74ddc608abd2f98dfb16fbce75277b5232a127f2087ef",
		"ddb89be403809e325750d3d263cd78929c2942b7942a34b77e122c9594a74c8c",
		"5dc9da79a70659a9ad559cb701ded9a2ab9d823aad2f4960cfe370eff4604328",
	}
	for n := range want {
		if got := sha.Text(sha.Root(sample()[:n])); got != want[n] {
			t.Errorf("%d leaves: %s, want %s", n, got, want[n])
		}
	}
	if sha.Root(nil) != sha.Sum(nil) || sha.Root([]api.Hash{}) != sha.Sum(nil) {
		t.Error("no leaf: not the hash of no bytes")
	}
	if one := (api.Hash{5: 5}); sha.Root([]api.Hash{one}) != one {
		t.Error("one leaf: not its hash")
	}
	var all []byte
	for n := range 131 {
		h := sha.Root(leaves(n))
		all = append(all, h[:]...)
	}
	if got := sha.Text(sha.Sum(all)); got != "b7da090e3301259592ce59e9de5209c200fc1f9d4bd6f673d9e3f81e797b99d0" {
		t.Errorf("the roots of 0 to 130 leaves: %s", got)
	}
}

func TestSH2Path(t *testing.T) {
	cases := []struct {
		n, i int
		want []string
	}{
		{1, 0, nil},
		{3, 2, []string{"fac54203e7cc696cf0dfcb42c92a1d9dbaf70ad9e621f4bd8d98662f00e3c125"}},
		{5, 1, []string{
			"6e340b9cffb37a989ca544e6bb780a2c78901d3fb33738768511a30617afa01d",
			"5f083f0a1a33ca076a95279832580db3e0ef4584bdff1f54c8a360f50de3031e",
			"bc1a0643b12e4d2d7c77918f44e0f4f79a838b6cf9ec5b5c283e1f4d88599e6b"}},
		{7, 3, []string{
			"0298d122906dcfc10892cb53a73992fc5b9f493ea4c9badb27b791b4127a7fe7",
			"fac54203e7cc696cf0dfcb42c92a1d9dbaf70ad9e621f4bd8d98662f00e3c125",
			"837dbb152e9b079010717e84e865da4ebc0fa198a806d59d31bf15accef22d0e"}},
		{7, 6, []string{
			"0ebc5d3437fbe2db158b9f126a1d118e308181031d0a949f8dededebc558ef6a",
			"d37ee418976dd95753c1c73862b9398fa2a2cf9b4ff0fdfe8b30cd95209614b7"}},
		{8, 0, []string{
			"96a296d224f285c67bee93c30f8a309157f0daa35dc5b87e410b78630a09cfc7",
			"5f083f0a1a33ca076a95279832580db3e0ef4584bdff1f54c8a360f50de3031e",
			"6b47aaf29ee3c2af9af889bc1fb9254dabd31177f16232dd6aab035ca39bf6e4"}},
		{8, 5, []string{
			"bc1a0643b12e4d2d7c77918f44e0f4f79a838b6cf9ec5b5c283e1f4d88599e6b",
			"ca854ea128ed050b41b35ffc1b87b8eb2bde461e9e3b5596ece6b9d5975a0ae0",
			"d37ee418976dd95753c1c73862b9398fa2a2cf9b4ff0fdfe8b30cd95209614b7"}},
	}
	for _, c := range cases {
		got, err := sha.Path(sample()[:c.n], c.i)
		if err != nil || !slices.Equal(texts(got), c.want) {
			t.Errorf("leaf %d of %d: %q, %v", c.i, c.n, texts(got), err)
		}
	}
	h := sha.New()
	for n := 1; n <= 40; n++ {
		for i := range n {
			path, _ := sha.Path(leaves(n), i)
			for _, sibling := range path {
				h.Write(sibling[:])
			}
			h.Write([]byte("|"))
		}
	}
	if got := sha.Text(h.Sum()); got != "a41b2ef1f9da3e1d6a7b911aba22f0087976253039ecdddf8e6108e92a01766f" {
		t.Errorf("the paths of 1 to 40 leaves: %s", got)
	}
}

func TestSH2PathWrong(t *testing.T) {
	for n := range 10 {
		for _, i := range []int{-1, -n - 1, n, n + 1, 2*n + 1, math.MinInt, math.MaxInt} {
			path, err := sha.Path(leaves(n), i)
			wantErr(t, "leaf "+strconv.Itoa(i)+" of "+strconv.Itoa(n), api.Hash{}, err, api.ErrArg)
			if len(path) != 0 {
				t.Errorf("leaf %d of %d: a path beside the error", i, n)
			}
		}
	}
	if _, err := sha.Path(nil, 0); err == nil {
		t.Error("leaf 0 of no list: no error")
	}
}

// TestSH2Memory: lists stay as they are, and a path is new memory.
func TestSH2Memory(t *testing.T) {
	for n := 1; n < 20; n++ {
		for i := range n {
			l := leaves(n)
			sha.Root(l)
			path, _ := sha.Path(l[:n:n], i)
			kept := slices.Clone(path)
			sha.Fold(l[i], i, n, path)
			if !slices.Equal(l, leaves(n)) || !slices.Equal(path, kept) {
				t.Fatalf("leaf %d of %d: an argument was changed", i, n)
			}
			clear(l)
			if !slices.Equal(path, kept) {
				t.Fatalf("leaf %d of %d: the path is part of the list", i, n)
			}
			clear(path[:cap(path)])
			if again, _ := sha.Path(leaves(n), i); !slices.Equal(again, kept) {
				t.Fatalf("leaf %d of %d: the path was kept", i, n)
			}
		}
	}
}

// TestSH3SH4Fold: Fold of a Path is the Root.
func TestSH3SH4Fold(t *testing.T) {
	for _, n := range []int{1, 2, 3, 4, 5, 6, 7, 8, 9, 15, 16, 17, 31, 32, 33, 100, 129} {
		l := leaves(n)
		root := sha.Root(l)
		for i := range n {
			path, err := sha.Path(l, i)
			if err != nil {
				t.Fatalf("leaf %d of %d: %v", i, n, err)
			}
			if got, err := sha.Fold(l[i], i, n, path); err != nil || got != root {
				t.Errorf("leaf %d of %d: %s, %v", i, n, sha.Text(got), err)
			}
		}
	}
}

// TestSH3FoldOther: another leaf, another path or another place gives another root.
func TestSH3FoldOther(t *testing.T) {
	l := leaves(8)
	root := sha.Root(l)
	for i := range l {
		path, _ := sha.Path(l, i)
		if got, err := sha.Fold(api.Hash{1: 1}, i, len(l), path); err != nil || got == root {
			t.Errorf("leaf %d: another leaf has the same root, or %v", i, err)
		}
		for up := range path {
			path[up][0] ^= 1
			if got, err := sha.Fold(l[i], i, len(l), path); err != nil || got == root {
				t.Errorf("leaf %d: another hash at %d has the same root, or %v", i, up, err)
			}
			path[up][0] ^= 1
		}
		for j := range l {
			if got, err := sha.Fold(l[i], j, len(l), path); err != nil || (got == root) != (i == j) {
				t.Errorf("leaf %d at %d: %s, %v", i, j, sha.Text(got), err)
			}
		}
	}
	a, b := sha.Sum([]byte("a")), sha.Sum([]byte("b"))
	if got, err := sha.Fold(b, 2, 3, []api.Hash{a}); err != nil || got != sha.Node(a, b) {
		t.Error("the last of 3 leaves: not the second child of the root")
	}
	if got, err := sha.Fold(a, 0, 1, nil); err != nil || got != a {
		t.Error("one leaf: not itself")
	}
}

func TestSH3FoldArg(t *testing.T) {
	leaf := sha.Leaf(nil)
	cases := [][2]int{
		{0, 0}, {-1, 0}, {1, 0}, {0, -1}, {-1, -1}, {-2, -1}, {-1, 1}, {1, 1}, {2, 1}, {-1, 8}, {8, 8}, {9, 8},
		{math.MinInt, 8}, {math.MaxInt, 8}, {0, math.MinInt}, {math.MinInt, math.MinInt},
		{-1, math.MaxInt}, {math.MaxInt, math.MaxInt}, {math.MinInt, math.MaxInt},
	}
	for _, c := range cases {
		what := strconv.Itoa(c[0]) + " of " + strconv.Itoa(c[1])
		for _, path := range [][]api.Hash{nil, make([]api.Hash, 3), make([]api.Hash, 100)} {
			got, err := sha.Fold(leaf, c[0], c[1], path)
			wantErr(t, what, got, err, api.ErrArg)
		}
	}
}

func TestSH3FoldLong(t *testing.T) {
	for n := 1; n < 70; n++ {
		l := leaves(n)
		for i := range n {
			path, _ := sha.Path(l, i)
			wrong := [][]api.Hash{append(slices.Clone(path), api.Hash{}), append(slices.Clone(path), path...), make([]api.Hash, 200)}
			if len(path) > 0 {
				wrong = append(wrong, nil, path[1:], path[:len(path)-1])
			} else {
				wrong[1] = make([]api.Hash, 2)
			}
			for _, p := range wrong {
				got, err := sha.Fold(l[i], i, n, p)
				wantErr(t, "leaf "+strconv.Itoa(i)+" of "+strconv.Itoa(n), got, err, api.ErrLong)
			}
		}
	}
}

// TestSH3FoldGreat: trees of as many leaves as an int can tell.
func TestSH3FoldGreat(t *testing.T) {
	leaf := sha.Leaf(nil)
	cases := []struct{ i, n, long int }{
		{0, math.MaxInt, 63}, {math.MaxInt - 1, math.MaxInt, 62}, {1 << 62, math.MaxInt, 63},
		{0, 1 << 62, 62}, {1<<62 - 1, 1 << 62, 62}, {1 << 62, 1<<62 + 1, 1}, {0, 1<<62 + 1, 63},
	}
	for _, c := range cases {
		for long := range 80 {
			got, err := sha.Fold(leaf, c.i, c.n, make([]api.Hash, long))
			if long != c.long {
				wantErr(t, strconv.Itoa(c.i)+" of "+strconv.Itoa(c.n), got, err, api.ErrLong)
			} else if err != nil {
				t.Errorf("%d of %d: %v", c.i, c.n, err)
			}
		}
	}
}
