package proof_test

import (
	"math"
	"slices"
	"strconv"
	"testing"

	"isthmus/api"
	"isthmus/avl"
	"isthmus/proof"
	"isthmus/sha"
)

// climb is the root, index and count of a proof, as the chapter's terms tell them.
func climb(p proof.Proof) (root api.Hash, index, count int) {
	root, index, count = avl.Leaf(p.Key, p.Value), 0, 1
	for _, s := range p.Steps {
		if s.Second {
			root = avl.Node(s.Many, s.Other, count, root)
			index += s.Many
		} else {
			root = avl.Node(count, root, s.Many, s.Other)
		}
		count += s.Many
	}
	return root, index, count
}

// rootOf is a proof's own root.
func rootOf(p proof.Proof) api.Hash {
	root, _, _ := climb(p)
	return root
}

// other is a hash that belongs to no tree here.
func other(i int) api.Hash {
	return sha.Sum([]byte{byte(i), byte(i >> 8), 'o'})
}

// ladder is a proof of k with so many steps, that adds so many keys at each, always on the same side.
func ladder(steps, many int, second bool) proof.Proof {
	p := proof.Proof{Key: "k", Value: "v"}
	for i := range steps {
		p.Steps = append(p.Steps, avl.Step{Second: second, Many: many, Other: other(i)})
	}
	return p
}

// copyOf is a proof with a list of its own.
func copyOf(p proof.Proof) proof.Proof {
	p.Steps = slices.Clone(p.Steps)
	return p
}

// spoilt are proofs that differ from p in one thing each.
func spoilt(p proof.Proof) []proof.Proof {
	var l []proof.Proof
	add := func(change func(q *proof.Proof)) {
		q := copyOf(p)
		change(&q)
		l = append(l, q)
	}
	add(func(q *proof.Proof) { q.Key += "\x00" })
	add(func(q *proof.Proof) { q.Value += "\x00" })
	add(func(q *proof.Proof) { q.Key, q.Value = q.Key+"x", q.Value+"x" })
	for i := range len(p.Steps) + 1 {
		for _, second := range []bool{false, true} {
			more := avl.Step{Second: second, Many: 1, Other: other(i)}
			add(func(q *proof.Proof) { q.Steps = slices.Insert(q.Steps, i, more) })
		}
	}
	for i := range p.Steps {
		add(func(q *proof.Proof) { q.Steps = slices.Delete(q.Steps, i, i+1) })
		add(func(q *proof.Proof) { q.Steps[i].Second = !q.Steps[i].Second })
		add(func(q *proof.Proof) { q.Steps[i].Many++ })
		add(func(q *proof.Proof) { q.Steps[i].Many-- })
		add(func(q *proof.Proof) { q.Steps[i].Many = -q.Steps[i].Many })
		add(func(q *proof.Proof) { q.Steps[i].Many += 1 << 32 })
		add(func(q *proof.Proof) { q.Steps[i].Other[i%32] ^= 1 << (i % 8) })
		add(func(q *proof.Proof) { q.Steps[i].Other = api.Hash{} })
		if i > 0 {
			add(func(q *proof.Proof) { q.Steps[i], q.Steps[i-1] = q.Steps[i-1], q.Steps[i] })
		}
	}
	return l
}

// TestPR2Verify: the proofs of all keys, for what they prove and for what they do not.
func TestPR2Verify(t *testing.T) {
	samples(func(x *avl.Tree) {
		root, all := x.Root(), proofsOf(t, x)
		for _, p := range all {
			if err := proof.Verify(root, p.Key, p.Value, p); err != nil {
				t.Fatalf("%q: %v", p.Key, err)
			}
			wantErr(t, "another root", proof.Verify(x.Set(p.Key, p.Value+"x").Root(), p.Key, p.Value, p), api.ErrProof)
			wantErr(t, "a root of noughts", proof.Verify(api.Hash{}, p.Key, p.Value, p), api.ErrProof)
			wantErr(t, "the root of no keys", proof.Verify(sha.Sum(nil), p.Key, p.Value, p), api.ErrProof)
			wantErr(t, "another key", proof.Verify(root, p.Key+"\x00", p.Value, p), api.ErrProof)
			wantErr(t, "another value", proof.Verify(root, p.Key, p.Value+"\x00", p), api.ErrProof)
			for _, q := range all {
				if q.Key != p.Key {
					wantErr(t, "another key's proof", proof.Verify(root, p.Key, p.Value, q), api.ErrProof)
				}
			}
		}
	})
}

// TestPR2VerifyRoot: each bit of the root counts.
func TestPR2VerifyRoot(t *testing.T) {
	x := odd(9)
	p := exist(t, x, number(7))
	for i := range 256 {
		root := x.Root()
		root[i/8] ^= 1 << (i % 8)
		wantErr(t, "bit "+strconv.Itoa(i), proof.Verify(root, p.Key, p.Value, p), api.ErrProof)
	}
}

// TestPR2VerifyKey: the key and the value are those of the proof, even where the root is that of the proof.
func TestPR2VerifyKey(t *testing.T) {
	p := exist(t, letters("abc"), "b")
	root := rootOf(p)
	cases := []struct{ key, value string }{
		{"", "of b"}, {"a", "of b"}, {"bb", "of b"}, {"B", "of b"}, {"b", ""}, {"b", "of a"}, {"b", "of"}, {"a", "of a"}, {"", ""},
	}
	for _, c := range cases {
		wantErr(t, c.key+" "+c.value, proof.Verify(root, c.key, c.value, p), api.ErrProof)
	}
	if err := proof.Verify(root, "b", "of b", p); err != nil {
		t.Error(err)
	}
}

// TestPR2Spoilt: a proof that differs in one thing is refused.
func TestPR2Spoilt(t *testing.T) {
	for _, n := range []int{1, 2, 3, 7, 12, 50} {
		x := odd(n)
		root := x.Root()
		for _, p := range proofsOf(t, x) {
			for i, q := range spoilt(p) {
				wantErr(t, "change "+strconv.Itoa(i)+" of "+p.Key, proof.Verify(root, p.Key, p.Value, q), api.ErrProof)
				wantErr(t, "change "+strconv.Itoa(i)+" of "+p.Key+", as it says", proof.Verify(root, q.Key, q.Value, q), api.ErrProof)
			}
		}
	}
}

// TestPR2Steps: at most 64 steps are valid, even if they lead to the root.
func TestPR2Steps(t *testing.T) {
	for _, second := range []bool{false, true} {
		for steps := range 65 {
			for _, many := range []int{1, 1 << 32} {
				p := ladder(steps, many, second)
				if err := proof.Verify(rootOf(p), "k", "v", p); err != nil {
					t.Errorf("%d steps: %v", steps, err)
				}
			}
		}
		for _, steps := range []int{65, 66, 128, 1000} {
			p := ladder(steps, 1, second)
			wantErr(t, strconv.Itoa(steps)+" steps", proof.Verify(rootOf(p), "k", "v", p), api.ErrProof)
		}
	}
}

// badMany are numbers of keys that no valid step has.
func badMany() []int {
	return []int{0, -1, -2, 1<<32 + 1, 1 << 33, 1 << 40, 1 << 62, math.MaxInt, -1 << 32, math.MinInt, math.MinInt + 1}
}

// TestPR2Many: at each step there is at least one key more, and at most 2^32, even if the steps lead to the root.
func TestPR2Many(t *testing.T) {
	for i := range 5 {
		for _, second := range []bool{false, true} {
			for _, many := range []int{1, 2, 3, 1000, 1<<32 - 1, 1 << 32} {
				p := ladder(5, 7, false)
				p.Steps[i].Many, p.Steps[i].Second = many, second
				if err := proof.Verify(rootOf(p), "k", "v", p); err != nil {
					t.Errorf("%d keys: %v", many, err)
				}
			}
			for _, many := range badMany() {
				p := ladder(5, 7, false)
				p.Steps[i].Many, p.Steps[i].Second = many, second
				wantErr(t, strconv.Itoa(many)+" keys", proof.Verify(rootOf(p), "k", "v", p), api.ErrProof)
			}
		}
	}
	// A tree has no part without keys; but with one, the count would be the same.
	p := ladder(3, 1, false)
	p.Steps[1].Many, p.Steps[2].Many = -1, 1
	wantErr(t, "fewer keys than before", proof.Verify(rootOf(p), "k", "v", p), api.ErrProof)
}

// TestPR2VerifyNone: the proofs that None makes, for what they prove and for what they do not.
func TestPR2VerifyNone(t *testing.T) {
	samples(func(x *avl.Tree) {
		root := x.Root()
		for _, key := range asked(x) {
			p, err := proof.None(x, key)
			if err != nil {
				continue
			}
			if err := proof.VerifyNone(root, key, p); err != nil {
				t.Fatalf("%q: %v", key, err)
			}
			wantErr(t, "another root", proof.VerifyNone(x.Set("new", "").Root(), key, p), api.ErrProof)
			wantErr(t, "a root of noughts", proof.VerifyNone(api.Hash{}, key, p), api.ErrProof)
			if x != nil {
				wantErr(t, "the root of no keys", proof.VerifyNone(sha.Sum(nil), key, p), api.ErrProof)
			}
			for _, q := range append(p.Left, p.Right...) {
				wantErr(t, "a neighbour", proof.VerifyNone(root, q.Key, p), api.ErrProof)
			}
			for _, pair := range x.Range("", "") {
				wantErr(t, "a key that is there", proof.VerifyNone(root, pair.Key, p), api.ErrProof)
			}
		}
	})
}

// TestPR2NoneNothing: without proofs, only the root of no keys shows something.
func TestPR2NoneNothing(t *testing.T) {
	for _, p := range []proof.Absent{{}, {Left: []proof.Proof{}, Right: []proof.Proof{}}} {
		for _, key := range []string{"", "a", "\xff"} {
			if err := proof.VerifyNone(sha.Sum(nil), key, p); err != nil {
				t.Errorf("%q: %v", key, err)
			}
			for _, root := range []api.Hash{{}, letters("b").Root(), letters("bc").Root(), sha.Sum([]byte{0})} {
				wantErr(t, key, proof.VerifyNone(root, key, p), api.ErrProof)
			}
		}
	}
}

// TestPR2NoneTwo: more than one proof on a side, each of which would do.
func TestPR2NoneTwo(t *testing.T) {
	x := letters("bdf")
	b, d, f := exist(t, x, "b"), exist(t, x, "d"), exist(t, x, "f")
	cases := []struct {
		key         string
		left, right []proof.Proof
	}{
		{"a", nil, []proof.Proof{b, b}},
		{"a", nil, []proof.Proof{b, d}},
		{"c", []proof.Proof{b, b}, []proof.Proof{d}},
		{"c", []proof.Proof{b}, []proof.Proof{d, d}},
		{"c", []proof.Proof{b}, []proof.Proof{d, f}},
		{"c", []proof.Proof{b, b}, []proof.Proof{d, d}},
		{"e", []proof.Proof{d, b}, []proof.Proof{f}},
		{"e", []proof.Proof{b, d}, []proof.Proof{f}},
		{"g", []proof.Proof{f, f}, nil},
		{"g", []proof.Proof{f, d, b}, nil},
	}
	for _, c := range cases {
		wantErr(t, c.key, proof.VerifyNone(x.Root(), c.key, proof.Absent{Left: c.left, Right: c.right}), api.ErrProof)
	}
}

// TestPR2NoneNeighbours: each pair of proofs of a tree, or one of them, for each key: only those of None do.
func TestPR2NoneNeighbours(t *testing.T) {
	for _, n := range []int{0, 1, 2, 3, 4, 5, 8, 13} {
		x := odd(n)
		root := x.Root()
		sides := [][]proof.Proof{nil}
		for _, p := range proofsOf(t, x) {
			sides = append(sides, []proof.Proof{p})
		}
		for i := range 2*n + 1 {
			want, none := proof.None(x, number(i))
			for _, left := range sides {
				for _, right := range sides {
					p := proof.Absent{Left: left, Right: right}
					err := proof.VerifyNone(root, number(i), p)
					if none == nil && sameNone(p, want) {
						if err != nil {
							t.Fatalf("%d of %d: %v", i, n, err)
						}
						continue
					}
					wantErr(t, number(i), err, api.ErrProof)
				}
			}
		}
	}
}

// TestPR2NoneSpoilt: a neighbour's proof that differs in one thing is refused, on either side.
func TestPR2NoneSpoilt(t *testing.T) {
	for _, n := range []int{1, 2, 5, 12} {
		x := odd(n)
		root := x.Root()
		for i := range n + 1 {
			key := number(2 * i)
			p, err := proof.None(x, key)
			if err != nil {
				t.Fatal(err)
			}
			for _, left := range p.Left {
				for j, q := range spoilt(left) {
					wantErr(t, "change "+strconv.Itoa(j)+" of Left of "+key,
						proof.VerifyNone(root, key, proof.Absent{Left: []proof.Proof{q}, Right: p.Right}), api.ErrProof)
				}
			}
			for _, right := range p.Right {
				for j, q := range spoilt(right) {
					wantErr(t, "change "+strconv.Itoa(j)+" of Right of "+key,
						proof.VerifyNone(root, key, proof.Absent{Left: p.Left, Right: []proof.Proof{q}}), api.ErrProof)
				}
			}
		}
	}
}

// TestPR2NoneOtherTree: a neighbour's proof of another tree is refused, whichever of both roots is given.
func TestPR2NoneOtherTree(t *testing.T) {
	x, y := letters("bdf"), letters("bdg")
	p, _ := proof.None(x, "c")
	q, _ := proof.None(y, "c")
	for _, root := range []api.Hash{x.Root(), y.Root()} {
		wantErr(t, "another Right", proof.VerifyNone(root, "c", proof.Absent{Left: p.Left, Right: q.Right}), api.ErrProof)
		wantErr(t, "another Left", proof.VerifyNone(root, "c", proof.Absent{Left: q.Left, Right: p.Right}), api.ErrProof)
	}
}

// TestPR2NoneValid: at most 64 steps, of 1 to 2^32 keys each, even if they lead to the root, at either end of a tree.
func TestPR2NoneValid(t *testing.T) {
	// With the leaf always in the second part it is the last one, and otherwise the first one.
	check := func(p proof.Proof) [2]error {
		behind := proof.VerifyNone(rootOf(p), "z", proof.Absent{Left: []proof.Proof{p}})
		ahead := proof.VerifyNone(rootOf(p), "a", proof.Absent{Right: []proof.Proof{p}})
		if p.Steps[0].Second {
			return [2]error{behind, ahead}
		}
		return [2]error{ahead, behind}
	}
	for _, second := range []bool{false, true} {
		for _, steps := range []int{1, 2, 63, 64} {
			for _, many := range []int{1, 2, 1<<32 - 1, 1 << 32} {
				errs := check(ladder(steps, many, second))
				if errs[0] != nil {
					t.Errorf("%d steps of %d: %v", steps, many, errs[0])
				}
				wantErr(t, "the other end", errs[1], api.ErrProof)
			}
			for _, many := range badMany() {
				p := ladder(steps, 1, second)
				p.Steps[steps-1].Many = many
				wantErr(t, strconv.Itoa(many)+" keys", check(p)[0], api.ErrProof)
			}
		}
		for _, steps := range []int{65, 100} {
			wantErr(t, strconv.Itoa(steps)+" steps", check(ladder(steps, 1, second))[0], api.ErrProof)
		}
	}
}

// TestPR2NoneIndex: neighbours of a tree whose keys are not in order, which nothing but their indices tell.
func TestPR2NoneIndex(t *testing.T) {
	// The leaves are c, a, e, b: a is at 1 and c at 0, a and e are at 1 and 2, b is the last one.
	leaf := func(key string) api.Hash { return avl.Leaf(key, key) }
	first, second := avl.Node(1, leaf("c"), 1, leaf("a")), avl.Node(1, leaf("e"), 1, leaf("b"))
	root := avl.Node(2, first, 2, second)
	side := func(key, other string, isSecond, inSecond bool, part api.Hash) []proof.Proof {
		return []proof.Proof{{Key: key, Value: key, Steps: []avl.Step{
			{Second: isSecond, Many: 1, Other: leaf(other)}, {Second: inSecond, Many: 2, Other: part}}}}
	}
	c, a := side("c", "a", false, false, second), side("a", "c", true, false, second)
	e, b := side("e", "b", false, true, first), side("b", "e", true, true, first)
	cases := []struct {
		key         string
		left, right []proof.Proof
		shown       bool
	}{
		{"aa", a, c, false}, // at 1 and 0
		{"aa", a, b, false}, // at 1 and 3
		{"d", a, e, true},   // at 1 and 2
		{"d", c, e, false},  // at 0 and 2
		{"d", b, e, false},  // at 3 and 2
		{"bb", b, c, false}, // at 3 and 0
		{"bb", b, nil, true},
		{"z", b, nil, true},
		{"z", e, nil, false},
		{"z", a, nil, false},
		{"z", c, nil, false},
		{"0", nil, c, true},
		{"bb", nil, c, true},
		{"0", nil, a, false},
		{"0", nil, e, false},
		{"0", nil, b, false},
	}
	for _, k := range cases {
		err := proof.VerifyNone(root, k.key, proof.Absent{Left: k.left, Right: k.right})
		if k.shown && err != nil {
			t.Errorf("%s: %v", k.key, err)
		}
		if !k.shown {
			wantErr(t, k.key, err, api.ErrProof)
		}
	}
}

// TestPR2NoneOrder: keys are compared byte by byte, and a key is neither less nor greater than itself.
func TestPR2NoneOrder(t *testing.T) {
	x := letters("ac").Set("B", "").Set("\xff", "")
	cases := []struct {
		key  string
		pair [2]string
		good bool
	}{
		{"C", [2]string{"B", "a"}, true},
		{"b", [2]string{"B", "a"}, false},
		{"a", [2]string{"B", "a"}, false},
		{"B", [2]string{"B", "a"}, false},
		{"B\x00", [2]string{"B", "a"}, true},
		{"A\xff", [2]string{"B", "a"}, false},
		{"d", [2]string{"c", "\xff"}, true},
		{"\xfe\xff", [2]string{"c", "\xff"}, true},
		{"\xff", [2]string{"c", "\xff"}, false},
		{"\xff\x00", [2]string{"c", "\xff"}, false},
		{"é", [2]string{"c", "\xff"}, true},
	}
	for _, c := range cases {
		p := proof.Absent{Left: []proof.Proof{exist(t, x, c.pair[0])}, Right: []proof.Proof{exist(t, x, c.pair[1])}}
		err := proof.VerifyNone(x.Root(), c.key, p)
		if c.good && err != nil {
			t.Errorf("%q: %v", c.key, err)
		}
		if !c.good {
			wantErr(t, c.key, err, api.ErrProof)
		}
	}
}

// TestPR2Arguments: what is verified stays as it was.
func TestPR2Arguments(t *testing.T) {
	x := odd(20)
	p := exist(t, x, number(7))
	none, _ := proof.None(x, number(8))
	q := copyOf(p)
	twin := proof.Absent{Left: []proof.Proof{copyOf(none.Left[0])}, Right: []proof.Proof{copyOf(none.Right[0])}}
	for _, root := range []api.Hash{x.Root(), {}} {
		proof.Verify(root, p.Key, p.Value, p)
		proof.VerifyNone(root, number(8), none)
		if !same(p, q) || !sameNone(none, twin) {
			t.Fatal("an argument was changed")
		}
	}
}
