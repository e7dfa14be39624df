package proof_test

import (
	"errors"
	"slices"
	"strconv"
	"strings"
	"testing"

	"isthmus/api"
	"isthmus/avl"
	"isthmus/proof"
)

// wantErr holds that err is the number want.
func wantErr(t *testing.T, what string, err error, want api.Errno) {
	t.Helper()
	var number api.Errno
	if !errors.As(err, &number) || number != want {
		t.Errorf("%s: %v, want error %d", what, err, want)
	}
}

// same tells whether two proofs are the same.
func same(p, q proof.Proof) bool {
	return p.Key == q.Key && p.Value == q.Value && slices.Equal(p.Steps, q.Steps)
}

// sameNone tells whether two proofs that a key is not there are the same.
func sameNone(p, q proof.Absent) bool {
	return slices.EqualFunc(p.Left, q.Left, same) && slices.EqualFunc(p.Right, q.Right, same)
}

// number is i in three digits.
func number(i int) string {
	s := strconv.Itoa(i)
	return strings.Repeat("0", max(3-len(s), 0)) + s
}

// odd is the tree of the n keys 001, 003, 005 and so on, set in this order.
func odd(n int) *avl.Tree {
	var x *avl.Tree
	for i := range n {
		x = x.Set(number(2*i+1), "v"+strconv.Itoa(i))
	}
	return x
}

// letters is the tree of these letters, set in this order.
func letters(keys string) *avl.Tree {
	var x *avl.Tree
	for _, c := range keys {
		x = x.Set(string(c), "of "+string(c))
	}
	return x
}

// exist is a proof of a key that is there.
func exist(t *testing.T, x *avl.Tree, key string) proof.Proof {
	t.Helper()
	p, err := proof.Exist(x, key)
	if err != nil {
		t.Fatalf("%q: %v", key, err)
	}
	return p
}

// drawer draws numbers that are the same in each run.
type drawer uint64

func (d *drawer) draw(n int) int {
	*d = *d*6364136223846793005 + 1442695040888963407
	return int(uint64(*d) >> 33 % uint64(n))
}

// samples visits a tree without keys, and some that grew and shrank.
func samples(visit func(x *avl.Tree)) {
	visit(nil)
	for n := 1; n < 20; n++ {
		visit(odd(n))
	}
	for seed := range drawer(4) {
		var x *avl.Tree
		d := seed
		for step := range 100 {
			key := "k" + strconv.Itoa(d.draw(40))
			if d.draw(100) < 40 {
				x = x.Drop(key)
			} else {
				x = x.Set(key, strconv.Itoa(step))
			}
			if step%9 == 0 {
				visit(x)
			}
		}
	}
	visit(letters("ca").Set("", "").Set("\xff", "\xfe").Set("c\x00", ""))
}

// asked are keys to ask for: those of the tree, and others ahead of them, between them and behind them.
func asked(x *avl.Tree) []string {
	keys := []string{"", "\x00", "\xff\xff"}
	for _, pair := range x.Range("", "") {
		keys = append(keys, pair.Key, pair.Key+"\x00", pair.Key+"z", pair.Key[:max(len(pair.Key)-1, 0)])
	}
	return keys
}

// proofsOf are the proofs of all keys of a tree, in order, made of what avl tells.
func proofsOf(t *testing.T, x *avl.Tree) []proof.Proof {
	t.Helper()
	var l []proof.Proof
	for i, pair := range x.Range("", "") {
		steps, err := x.Path(i)
		if err != nil {
			t.Fatal(err)
		}
		l = append(l, proof.Proof{Key: pair.Key, Value: pair.Value, Steps: steps})
	}
	return l
}

// TestPR1Exist: the proof of a key that is there, and the error for one that is not.
func TestPR1Exist(t *testing.T) {
	samples(func(x *avl.Tree) {
		all := proofsOf(t, x)
		for _, key := range asked(x) {
			i := slices.IndexFunc(all, func(p proof.Proof) bool { return p.Key == key })
			got, err := proof.Exist(x, key)
			if i >= 0 {
				if err != nil || !same(got, all[i]) {
					t.Fatalf("%q: %v, %v, want %v", key, got, err, all[i])
				}
				continue
			}
			wantErr(t, key, err, api.ErrNone)
			if !same(got, proof.Proof{}) {
				t.Fatalf("%q: a proof beside the error", key)
			}
		}
	})
}

// TestPR1None: the proofs of the neighbours of a key that is not there, and the error for one that is.
func TestPR1None(t *testing.T) {
	samples(func(x *avl.Tree) {
		all := proofsOf(t, x)
		for _, key := range asked(x) {
			var want proof.Absent
			there := false
			for _, p := range all {
				switch {
				case p.Key < key:
					want.Left = []proof.Proof{p}
				case p.Key > key && want.Right == nil:
					want.Right = []proof.Proof{p}
				case p.Key == key:
					there = true
				}
			}
			got, err := proof.None(x, key)
			if !there {
				if err != nil || !sameNone(got, want) {
					t.Fatalf("%q: %v, %v, want %v", key, got, err, want)
				}
				continue
			}
			wantErr(t, key, err, api.ErrTwice)
			if !sameNone(got, proof.Absent{}) {
				t.Fatalf("%q: a proof beside the error", key)
			}
		}
	})
}

// TestPR1Steps: the proofs of small trees, step by step.
func TestPR1Steps(t *testing.T) {
	leaf := func(key string) api.Hash { return avl.Leaf(key, "of "+key) }
	a := proof.Proof{Key: "a", Value: "of a", Steps: []avl.Step{{Second: false, Many: 1, Other: leaf("c")}}}
	c := proof.Proof{Key: "c", Value: "of c", Steps: []avl.Step{{Second: true, Many: 1, Other: leaf("a")}}}
	x := letters("ac")
	if got := exist(t, x, "a"); !same(got, a) {
		t.Errorf("a: %v", got)
	}
	if got := exist(t, x, "c"); !same(got, c) {
		t.Errorf("c: %v", got)
	}
	cases := []struct {
		key  string
		want proof.Absent
	}{
		{"", proof.Absent{Right: []proof.Proof{a}}},
		{"b", proof.Absent{Left: []proof.Proof{a}, Right: []proof.Proof{c}}},
		{"d", proof.Absent{Left: []proof.Proof{c}}},
	}
	for _, k := range cases {
		if got, err := proof.None(x, k.key); err != nil || !sameNone(got, k.want) {
			t.Errorf("not %q: %v, %v", k.key, got, err)
		}
	}
	// The tree is the node of a and b, and c and d.
	ab := avl.Node(1, leaf("a"), 1, leaf("b"))
	want := []avl.Step{{Second: false, Many: 1, Other: leaf("d")}, {Second: true, Many: 2, Other: ab}}
	if got := exist(t, letters("abcd"), "c"); !slices.Equal(got.Steps, want) {
		t.Errorf("c of four: %v", got)
	}
	if got := exist(t, letters("a"), "a"); got.Key != "a" || got.Value != "of a" || len(got.Steps) != 0 {
		t.Errorf("a alone: %v", got)
	}
}

// TestPR1NoTree: a tree without keys.
func TestPR1NoTree(t *testing.T) {
	for _, key := range []string{"", "a"} {
		if p, err := proof.Exist(nil, key); !errors.Is(err, api.ErrNone) || !same(p, proof.Proof{}) {
			t.Errorf("Exist %q: %v, %v", key, p, err)
		}
		if p, err := proof.None(nil, key); err != nil || len(p.Left) != 0 || len(p.Right) != 0 {
			t.Errorf("None %q: %v, %v", key, p, err)
		}
	}
}

// wipe overwrites a proof, with the spare room of its list.
func wipe(p *proof.Proof) {
	clear(p.Steps[:cap(p.Steps)])
	*p = proof.Proof{Key: "wiped"}
}

// TestPR1Memory: what is answered is the caller's, and none of its lists is part of another one.
func TestPR1Memory(t *testing.T) {
	x := odd(40)
	root, all := x.Root(), proofsOf(t, x)
	for i, want := range all {
		p := exist(t, x, want.Key)
		wipe(&p)
		if got := exist(t, x, want.Key); !same(got, want) {
			t.Fatalf("%s: another proof after the first one was wiped", want.Key)
		}
		none, err := proof.None(x, want.Key+"x")
		if err != nil {
			t.Fatal(err)
		}
		again, _ := proof.None(x, want.Key+"x")
		left := none.Left[:cap(none.Left)]
		for j := range left {
			wipe(&left[j])
		}
		if !slices.EqualFunc(none.Right, again.Right, same) || i < 39 && !same(none.Right[0], all[i+1]) || !same(again.Left[0], want) {
			t.Fatalf("%s: another Right, or another proof, after Left was wiped", want.Key)
		}
	}
	if x.Root() != root || !slices.EqualFunc(proofsOf(t, x), all, same) {
		t.Error("the tree changed")
	}
}
