package avl_test

import (
	"errors"
	"math"
	"slices"
	"strconv"
	"strings"
	"testing"

	"isthmus/api"
	"isthmus/avl"
	"isthmus/pack"
	"isthmus/sha"
)

// wantErr holds that err is the number want.
func wantErr(t *testing.T, what string, err error, want api.Errno) {
	t.Helper()
	var number api.Errno
	if !errors.As(err, &number) || number != want {
		t.Errorf("%s: %v, want error %d", what, err, want)
	}
}

// read is the tree that a drawing shows: a letter is a leaf, and (ab) is a node of a and b.
func read(t *testing.T, drawing string) *avl.Tree {
	t.Helper()
	var shape []bool
	var l []api.Pair
	for _, c := range drawing {
		switch c {
		case '(':
			shape = append(shape, true)
		case ')':
		default:
			shape = append(shape, false)
			l = append(l, api.Pair{Key: string(c), Value: "of " + string(c)})
		}
	}
	x, err := avl.Build(shape, l)
	if err != nil {
		t.Fatalf("%s: %v", drawing, err)
	}
	return x
}

// draw shows a tree as read reads it.
func draw(x *avl.Tree) string {
	shape, l := x.Shape(), x.Range("", "")
	var part func() string
	part = func() string {
		isNode := shape[0]
		shape = shape[1:]
		if isNode {
			return "(" + part() + part() + ")"
		}
		key := l[0].Key
		l = l[1:]
		return key
	}
	if len(shape) == 0 {
		return ""
	}
	return part()
}

// numbered are the keys 000 to n - 1, set in this order.
func numbered(n int) *avl.Tree {
	var x *avl.Tree
	for i := range n {
		x = x.Set(number(i), "v"+strconv.Itoa(i))
	}
	return x
}

// number is i in three digits.
func number(i int) string {
	s := strconv.Itoa(i)
	return strings.Repeat("0", max(3-len(s), 0)) + s
}

// drawer draws numbers that are the same in each run, and outside Go.
type drawer uint64

func (d *drawer) draw(n int) int {
	*d = *d*6364136223846793005 + 1442695040888963407
	return int(uint64(*d) >> 33 % uint64(n))
}

// TestAV1Leaf: hashes that were made outside Go.
func TestAV1Leaf(t *testing.T) {
	cases := []struct{ key, value, want string }{
		{"", "", "412c45d603453521684df8f679c7f68f0f22dd7697d37170385c8c7931636298"},
		{"a", "", "3436a58f7ae07c43548d5775f4e9db9e6901acfe7ccc78184d92439cc0643af2"},
		{"", "a", "e4f781085c83c0e170bf1a58d61f72ed1e9ee0c5fc711cd520bf602d2d4e7b99"},
		{"a", "1", "acdad02b47be70214b29e632013ace7632836e17ab9f3d76fbd90091ee1f86d0"},
		{"key", "value", "efe4d7a829b8ffc66824970f16986e774da62b96b6200c659c531e60c0d2d893"},
		{"\xff\x00", "\x80", "10e5cafabd15f290e9b437f917423c857e6397a0ad625d27bf55540bf9145cf7"},
		{strings.Repeat("k", 127), strings.Repeat("v", 128), "10e7dfce22a3e120a132d24d0e69b2287e60a17cc17f46073be657c73c26de81"},
		{strings.Repeat("k", 300), strings.Repeat("v", 20000), "c07c9c1c4db5267978131876ca582dfeb312d40f1fc2413e46c27e1029434738"},
	}
	for _, c := range cases {
		if got := sha.Text(avl.Leaf(c.key, c.value)); got != c.want {
			t.Errorf("%.10q, %.10q: %s", c.key, c.value, got)
		}
		var x *avl.Tree
		if got := sha.Text(x.Set(c.key, c.value).Root()); got != c.want {
			t.Errorf("the tree of %.10q, %.10q: %s", c.key, c.value, got)
		}
		words := append([]byte{6}, pack.New().Text(c.key).Text(c.value).Done()...)
		if got := sha.Text(sha.Sum(words)); got != c.want {
			t.Errorf("the chapter's bytes of %.10q, %.10q: %s", c.key, c.value, got)
		}
	}
	if avl.Leaf("ab", "c") == avl.Leaf("a", "bc") {
		t.Error("where a key ends makes no difference")
	}
}

// TestAV1Node: hashes that were made outside Go.
func TestAV1Node(t *testing.T) {
	a, b := sha.Sum([]byte("a")), sha.Sum([]byte("b"))
	cases := []struct {
		n, m int
		want string
	}{
		{1, 1, "9cfe7fb2fc9c928eb7dddb688045c69201c79056145a24957f42730bb3a06f2b"},
		{1, 2, "b44421241ff747ad58faa5a9e6d5090d4f6ae93677f596c830bc8bbc5b919017"},
		{2, 1, "07537a26ab9e6a772f818b055622925f750d3611450508db25dc7bb771951030"},
		{127, 128, "e6ba3d3495e25762dbf99dbf4c362f95550dbfd25572eeabead6a4dd92f1ab47"},
		{128, 127, "8cdb1f6c1fc14e9df88a7121f38cc68806ef31ffc823960bd9069d1d7ae211bc"},
		{300, 16384, "fc9177166ae4ba2d144a647dcbcd3f235aef2128ce82b5023550d9d7a54d3576"},
		{0, 0, "78006848b9d80f60ad8a637ae64aacc3b92b0693122f433f292a52a708ca8d94"},
		{1 << 32, 1, "99794001e072cc09ee8a785a444d9e8e1866c508b58b6e00653a9eaa775fb6ba"},
		{math.MaxInt, math.MaxInt, "c394b908db65cba6f190099524676450fcfe7665bd8290c35ad28a5f78ee8e93"},
	}
	for _, c := range cases {
		if got := sha.Text(avl.Node(c.n, a, c.m, b)); got != c.want {
			t.Errorf("%d and %d: %s", c.n, c.m, got)
		}
	}
	if avl.Node(1, a, 1, b) == avl.Node(1, b, 1, a) {
		t.Error("the order of the parts makes no difference")
	}
	// No tree has so few keys, but a call with such numbers returns.
	for _, n := range []int{-1, math.MinInt} {
		if avl.Node(n, a, 1, b) == avl.Node(1, a, 1, b) || avl.Node(1, a, n, b) == avl.Node(1, a, 1, b) {
			t.Errorf("%d keys: the same hash as for 1", n)
		}
	}
}

// TestAV1Root: roots that were made outside Go, of the keys 000, 001 and so on, set in this order.
func TestAV1Root(t *testing.T) {
	cases := []struct {
		n    int
		want string
	}{
		{0, "e3b0c44298fc1c149afbf4c8996fb92427ae41e4649b934ca495991b7852b855"},
		{1, "71df671f8c39b3cbecf86afeebe31a0282c2964c75e8b3d1e635cc2020de70ce"},
		{2, "7af5b87986bc689d19f30856c5412a980defa963c229e922761f01ae2c3dcedc"},
		{3, "7570132c9b9841eb142f634a4fe1f8f1a53ab77f8994a9ec77a737771da736c6"},
		{4, "021ee31497c98e28889f0d633708f51755423d98b8588f8d634260acfaca86f8"},
		{5, "ad6fd9976d796ca4d0531029f148bd7ab9fa5d88fa526da4c7861febb108dda7"},
		{7, "78596116578229976cd7d661e6f36d7f2476da45999bb27316137895fd2eae69"},
		{100, "e30c1bf7fb1a1873d508d47100f2272e0107d5ab061d414d4de8eee9250243c3"},
		{299, "8e8f261dab9ee96b41a60724ed63876fba49022cd64cb6f9c56270d4bfdd76d5"},
	}
	for _, c := range cases {
		if got := sha.Text(numbered(c.n).Root()); got != c.want {
			t.Errorf("%d keys: %s, want %s", c.n, got, c.want)
		}
	}
	a, b, c := avl.Leaf("a", "of a"), avl.Leaf("b", "of b"), avl.Leaf("c", "of c")
	if read(t, "(a(bc))").Root() != avl.Node(1, a, 2, avl.Node(1, b, 1, c)) {
		t.Error("(a(bc)) is not the node of a and the node of b and c")
	}
	if read(t, "(a(bc))").Root() == read(t, "((ab)c)").Root() {
		t.Error("the structure makes no difference")
	}
	var up, down []byte
	var x *avl.Tree
	for i := range 300 {
		h := numbered(i).Root()
		up = append(up, h[:]...)
		x = x.Set(number(299-i), "v"+strconv.Itoa(i))
		h = x.Root()
		down = append(down, h[:]...)
	}
	if got := sha.Text(sha.Sum(up)); got != "5b99ce54285492f1fbf57eec178fb45595a36d888776c06451fa37a6281ddb93" {
		t.Errorf("the roots of 0 to 299 keys upwards: %s", got)
	}
	if got := sha.Text(sha.Sum(down)); got != "6c95230866dbe37c75d85edf789ea56837db99b688363a684d23c8fe56819a31" {
		t.Errorf("the roots of 1 to 300 keys downwards: %s", got)
	}
}

// TestAV1Set: each way in which a node is rebalanced, and the ways in which it is not.
func TestAV1Set(t *testing.T) {
	cases := []struct{ from, key, want string }{
		{"", "a", "a"},
		{"b", "a", "(ab)"},
		{"a", "b", "(ab)"},
		{"(ac)", "b", "((ab)c)"},
		{"(bc)", "a", "((ab)c)"},
		{"(ab)", "c", "(a(bc))"},
		{"((bc)d)", "a", "((ab)(cd))"},
		{"((ab)d)", "c", "((ab)(cd))"},
		{"((ac)d)", "b", "((ab)(cd))"},
		{"(a(bc))", "d", "((ab)(cd))"},
		{"(a(bd))", "c", "((ab)(cd))"},
		{"(b(cd))", "a", "((ab)(cd))"},
		{"(((bc)d)(ef))", "a", "(((ab)(cd))(ef))"},
		{"(((cd)(ef))(gh))", "a", "(((ac)d)((ef)(gh)))"},
		{"(((ab)(ce))(gh))", "f", "(((ab)c)((ef)(gh)))"},
		{"(((ab)(cf))(gh))", "d", "(((ab)(cd))(f(gh)))"},
		{"((ab)((cd)(ef)))", "g", "(((ab)(cd))(e(fg)))"},
		{"((ab)((cd)(gh)))", "e", "(((ab)c)((de)(gh)))"},
		{"((ab)((ce)(gh)))", "d", "(((ab)(cd))(e(gh)))"},
		{"((ab)((cd)(ef)))", "b", "((ab)((cd)(ef)))"},
		{"((ab)(cd))", "d", "((ab)(cd))"},
	}
	for _, c := range cases {
		x := read(t, c.from).Set(c.key, "of "+c.key)
		if got := draw(x); got != c.want {
			t.Errorf("%s with %s: %s, want %s", c.from, c.key, got, c.want)
		}
		if x.Root() != read(t, c.want).Root() {
			t.Errorf("%s with %s: another root than that of %s", c.from, c.key, c.want)
		}
	}
}

// TestAV1SetAgain: a key that there is gets another value, and the structure stays.
func TestAV1SetAgain(t *testing.T) {
	for n := 1; n < 40; n++ {
		for i := range n {
			x := numbered(n)
			y := x.Set(number(i), "new")
			if value, found := y.Get(number(i)); value != "new" || !found {
				t.Fatalf("key %d of %d: %q, %v", i, n, value, found)
			}
			if y.Len() != n || !slices.Equal(x.Shape(), y.Shape()) || x.Root() == y.Root() {
				t.Fatalf("key %d of %d: the structure changes, or the root does not", i, n)
			}
			if y.Set(number(i), "v"+strconv.Itoa(i)).Root() != x.Root() {
				t.Fatalf("key %d of %d: with its old value the root is another", i, n)
			}
		}
	}
}

// TestAV1Order: keys are in the order of their bytes.
func TestAV1Order(t *testing.T) {
	want := []string{"", "\x00", "\x00\x00", "A", "Z", "a", "a\x00", "aa", "b", "é", "\xf0", "\xff", "\xff\x00", "\xff\xff"}
	for turn := range want {
		var x *avl.Tree
		for i := range want {
			x = x.Set(want[(turn+5*i)%len(want)], strconv.Itoa(i))
		}
		var got []string
		for _, pair := range x.Range("", "") {
			got = append(got, pair.Key)
		}
		if !slices.Equal(got, want) {
			t.Errorf("%q", got)
		}
	}
}

// TestAV1Drop: each way in which a part is left without keys or a node is rebalanced.
func TestAV1Drop(t *testing.T) {
	cases := []struct{ from, key, want string }{
		{"a", "a", ""},
		{"(ab)", "a", "b"},
		{"(ab)", "b", "a"},
		{"(a(bc))", "a", "(bc)"},
		{"(a(bc))", "b", "(ac)"},
		{"((ab)c)", "c", "(ab)"},
		{"((ab)(cd))", "c", "((ab)d)"},
		// The first part is higher: its second part is higher, as high, or less high than its first one.
		{"((a(bc))(de))", "e", "((ab)(cd))"},
		{"(((ab)(cd))(ef))", "f", "((ab)((cd)e))"},
		{"(((ab)c)(de))", "d", "((ab)(ce))"},
		// The second part is higher: its first part is higher, as high, or less high than its second one.
		{"((ab)((cd)e))", "a", "((bc)(de))"},
		{"((ab)((cd)(ef)))", "a", "((b(cd))(ef))"},
		{"((ab)(c(de)))", "b", "((ac)(de))"},
		// Two nodes, one above the other.
		{"(((ab)c)((de)(f(gh))))", "c", "(((ab)(de))(f(gh)))"},
		{"(((ab)c)(((de)f)(gh)))", "c", "(((ab)(de))(f(gh)))"},
		{"((a(bc))(((de)(fg))(hi)))", "a", "(((bc)(de))((fg)(hi)))"},
		{"((((ab)(cd))(ef))((gh)i))", "f", "(((ab)((cd)e))((gh)i))"},
		{"((((ab)c)(de))((fg)h))", "h", "(((ab)c)((de)(fg)))"},
		{"(((ab)(c(de)))((fg)h))", "h", "(((ab)c)((de)(fg)))"},
	}
	for _, c := range cases {
		x := read(t, c.from).Drop(c.key)
		if got := draw(x); got != c.want {
			t.Errorf("%s without %s: %s, want %s", c.from, c.key, got, c.want)
		}
		if x.Root() != read(t, c.want).Root() || (x == nil) != (c.want == "") {
			t.Errorf("%s without %s: another root than that of %s", c.from, c.key, c.want)
		}
	}
}

// TestAV1DropNone: without a key that there is not, it is the same tree.
func TestAV1DropNone(t *testing.T) {
	for n := range 40 {
		x := numbered(n)
		for _, key := range []string{"", "0", "0000", "0031", "\xff", number(n), "-01"} {
			if x.Drop(key) != x {
				t.Errorf("%d keys without %q: not the same tree", n, key)
			}
		}
	}
}

// TestAV1FirstKey: where a key goes is told by the first key that the second part has now, not by one it had.
func TestAV1FirstKey(t *testing.T) {
	if got := draw(read(t, "(a(ce))").Drop("c").Set("d", "")); got != "((ad)e)" {
		t.Errorf("c dropped: %s", got)
	}
	if got := draw(read(t, "(a(de))").Set("b", "").Set("c", "")); got != "((a(bc))(de))" {
		t.Errorf("b and c set: %s", got)
	}
}

// TestAV1Walk: the roots and shapes along many changes, made outside Go.
func TestAV1Walk(t *testing.T) {
	cases := []struct {
		seed               drawer
		steps, keys, drops int
		want               string
	}{
		{1, 2000, 10, 45, "8c4e41ec4a90905686ee2f34eac588523b816b065c15bdaee6188fb9b1e3a90c"},
		{2, 2000, 60, 50, "eb0705501dc5d7e38ff5e28a9cef3147bd163fa732792f2259fa425a6607b805"},
		{3, 1500, 400, 40, "bc0e60c6459516a848adf2071edf55c15b494f1c1868af623336a6458cc219a8"},
	}
	for _, c := range cases {
		var x *avl.Tree
		all := sha.New()
		for range c.steps {
			x = change(x, &c.seed, c.keys, c.drops)
			h := x.Root()
			all.Write(h[:])
			for _, isNode := range x.Shape() {
				if isNode {
					all.Write([]byte("1"))
				} else {
					all.Write([]byte("0"))
				}
			}
		}
		if got := sha.Text(all.Sum()); got != c.want {
			t.Errorf("%d keys: %s, want %s", c.keys, got, c.want)
		}
	}
}

// change drops one of so many keys, so often in a hundred times, and otherwise sets it.
func change(x *avl.Tree, d *drawer, keys, drops int) *avl.Tree {
	key := "k" + strconv.Itoa(d.draw(keys))
	if d.draw(100) < drops {
		return x.Drop(key)
	}
	return x.Set(key, "v"+strconv.Itoa(d.draw(1000)))
}

// TestAV1Nil: a tree without keys.
func TestAV1Nil(t *testing.T) {
	var x *avl.Tree
	if x.Root() != sha.Sum(nil) {
		t.Error("Root is not the hash of no bytes")
	}
	if x.Drop("a") != nil || x.Drop("") != nil {
		t.Error("Drop: a tree")
	}
	if one := x.Set("", ""); one.Len() != 1 || one.Root() != avl.Leaf("", "") || one.Drop("") != nil {
		t.Error("the empty key")
	}
}
