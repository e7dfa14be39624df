package avl_test

import (
	"maps"
	"math"
	"slices"
	"strconv"
	"strings"
	"testing"

	"isthmus/api"
	"isthmus/avl"
)

// sorted are the pairs of a map, in order.
func sorted(m map[string]string) []api.Pair {
	var l []api.Pair
	for _, key := range slices.Sorted(maps.Keys(m)) {
		l = append(l, api.Pair{Key: key, Value: m[key]})
	}
	return l
}

// asked are keys to ask for: those of the tree, and others before, between and behind them.
func asked(l []api.Pair) []string {
	keys := []string{"", "\x00", "\xff\xff"}
	for _, pair := range l {
		keys = append(keys, pair.Key, pair.Key+"\x00", pair.Key[:len(pair.Key)-1], pair.Key+"z")
	}
	return keys
}

// less are how many pairs have a lesser key.
func less(l []api.Pair, key string) int {
	n := 0
	for _, pair := range l {
		if pair.Key < key {
			n++
		}
	}
	return n
}

// samples are trees that grew and shrank, with what they must hold.
func samples(visit func(x *avl.Tree, l []api.Pair)) {
	visit(nil, nil)
	for seed := range drawer(6) {
		var x *avl.Tree
		m := map[string]string{}
		d := seed
		for step := range 120 {
			key, value := "k"+strconv.Itoa(d.draw(40)), strconv.Itoa(step)
			if d.draw(100) < 40 {
				x = x.Drop(key)
				delete(m, key)
			} else {
				x = x.Set(key, value)
				m[key] = value
			}
			if step%6 == 0 {
				visit(x, sorted(m))
			}
		}
	}
}

func TestAV2Get(t *testing.T) {
	samples(func(x *avl.Tree, l []api.Pair) {
		for _, key := range asked(l) {
			i := slices.IndexFunc(l, func(p api.Pair) bool { return p.Key == key })
			value, found := x.Get(key)
			if found != (i >= 0) || i >= 0 && value != l[i].Value || i < 0 && value != "" {
				t.Fatalf("%q of %v: %q, %v", key, l, value, found)
			}
		}
	})
	var x *avl.Tree
	if value, found := x.Set("a", "").Get("a"); value != "" || !found {
		t.Errorf("an empty value: %q, %v", value, found)
	}
	if value, found := x.Set("", "nothing").Get(""); value != "nothing" || !found {
		t.Errorf("the empty key: %q, %v", value, found)
	}
	if value, found := x.Get(""); value != "" || found {
		t.Errorf("no tree: %q, %v", value, found)
	}
}

func TestAV2Len(t *testing.T) {
	samples(func(x *avl.Tree, l []api.Pair) {
		if x.Len() != len(l) {
			t.Fatalf("%v: %d", l, x.Len())
		}
	})
}

func TestAV2Height(t *testing.T) {
	cases := []struct {
		drawing string
		want    int
	}{
		{"", 0}, {"a", 1}, {"(ab)", 2}, {"(a(bc))", 3}, {"((ab)c)", 3}, {"((ab)(cd))", 3}, {"((ab)(c(de)))", 4}, {"((a(bc))(de))", 4},
	}
	for _, c := range cases {
		if got := read(t, c.drawing).Height(); got != c.want {
			t.Errorf("%s: %d, want %d", c.drawing, got, c.want)
		}
	}
	samples(func(x *avl.Tree, l []api.Pair) {
		if height, _, ok := parse(x.Shape()); !ok || x.Height() != height {
			t.Fatalf("%v: %d, want %d", l, x.Height(), height)
		}
	})
}

func TestAV2At(t *testing.T) {
	samples(func(x *avl.Tree, l []api.Pair) {
		for i := range l {
			if pair, err := x.At(i); err != nil || pair != l[i] {
				t.Fatalf("%d of %v: %v, %v", i, l, pair, err)
			}
		}
		for _, i := range []int{-1, -len(l) - 1, len(l), len(l) + 1, math.MinInt, math.MaxInt} {
			pair, err := x.At(i)
			wantErr(t, "At "+strconv.Itoa(i), err, api.ErrArg)
			if pair != (api.Pair{}) {
				t.Errorf("At %d: a pair beside the error", i)
			}
		}
	})
}

func TestAV2Find(t *testing.T) {
	samples(func(x *avl.Tree, l []api.Pair) {
		for _, key := range asked(l) {
			if got := x.Find(key); got != less(l, key) {
				t.Fatalf("%q of %v: %d", key, l, got)
			}
		}
	})
}

func TestAV2Range(t *testing.T) {
	samples(func(x *avl.Tree, l []api.Pair) {
		for _, from := range asked(l) {
			for _, to := range asked(l) {
				var want []api.Pair
				for _, pair := range l {
					if pair.Key >= from && (to == "" || pair.Key < to) {
						want = append(want, pair)
					}
				}
				if got := x.Range(from, to); !slices.Equal(got, want) {
					t.Fatalf("%q to %q of %v: %v", from, to, l, got)
				}
			}
		}
	})
	x := read(t, "((ab)(cd))").Set("", "nothing")
	keys := func(from, to string) string {
		var l []string
		for _, pair := range x.Range(from, to) {
			l = append(l, pair.Key)
		}
		return strings.Join(l, ",")
	}
	cases := []struct{ from, to, want string }{
		{"", "", ",a,b,c,d"}, {"", "a", ""}, {"", "b", ",a"}, {"\x00", "", "a,b,c,d"}, {"a", "a", ""}, {"b", "a", ""}, {"a", "b", "a"},
		{"b", "d", "b,c"}, {"b", "d\x00", "b,c,d"}, {"d", "", "d"}, {"d\x00", "", ""}, {"aa", "cc", "b,c"}, {"e", "z", ""}, {"e", "a", ""},
	}
	for _, c := range cases {
		if got := keys(c.from, c.to); got != c.want {
			t.Errorf("%q to %q: %s", c.from, c.to, got)
		}
	}
	if n := len(x.Range("", "a")); n != 1 {
		t.Errorf("up to a: %d pairs, want that of the empty key", n)
	}
}

// TestAV2Path: the steps lead from the leaf to the root, and tell the index and the number of keys on the way.
func TestAV2Path(t *testing.T) {
	samples(func(x *avl.Tree, l []api.Pair) {
		for i, pair := range l {
			steps, err := x.Path(i)
			if err != nil {
				t.Fatalf("%d of %v: %v", i, l, err)
			}
			hash, index, count := avl.Leaf(pair.Key, pair.Value), 0, 1
			for _, s := range steps {
				if s.Second {
					hash = avl.Node(s.Many, s.Other, count, hash)
					index += s.Many
				} else {
					hash = avl.Node(count, hash, s.Many, s.Other)
				}
				count += s.Many
			}
			if hash != x.Root() || index != i || count != len(l) {
				t.Fatalf("%d of %v: index %d, count %d, or another root", i, l, index, count)
			}
		}
		for _, i := range []int{-1, -len(l) - 1, len(l), len(l) + 1, math.MinInt, math.MaxInt} {
			steps, err := x.Path(i)
			wantErr(t, "Path "+strconv.Itoa(i), err, api.ErrArg)
			if len(steps) != 0 {
				t.Errorf("Path %d: steps beside the error", i)
			}
		}
	})
}

// TestAV2PathSteps: the steps of trees that are drawn.
func TestAV2PathSteps(t *testing.T) {
	a, d := read(t, "a").Root(), read(t, "d").Root()
	ab, bc := read(t, "(ab)").Root(), read(t, "(bc)").Root()
	cases := []struct {
		drawing string
		i       int
		want    []avl.Step
	}{
		{"a", 0, nil},
		{"(a(bc))", 0, []avl.Step{{Second: false, Many: 2, Other: bc}}},
		{"((ab)(cd))", 2, []avl.Step{{Second: false, Many: 1, Other: d}, {Second: true, Many: 2, Other: ab}}},
		{"((a(bc))(de))", 1, []avl.Step{
			{Second: false, Many: 1, Other: read(t, "c").Root()}, {Second: true, Many: 1, Other: a}, {Second: false, Many: 2, Other: read(t, "(de)").Root()}}},
	}
	for _, c := range cases {
		if got, err := read(t, c.drawing).Path(c.i); err != nil || !slices.Equal(got, c.want) {
			t.Errorf("%d of %s: %v, %v", c.i, c.drawing, got, err)
		}
	}
}

// TestAV2Memory: what is answered is the caller's.
func TestAV2Memory(t *testing.T) {
	x := numbered(40)
	wantPairs, wantShape := slices.Clone(x.Range("", "")), slices.Clone(x.Shape())
	wantSteps, _ := x.Path(17)
	wantSteps = slices.Clone(wantSteps)
	pairs, shape := x.Range("", ""), x.Shape()
	steps, _ := x.Path(17)
	clear(pairs[:cap(pairs)])
	clear(shape[:cap(shape)])
	clear(steps[:cap(steps)])
	again, _ := x.Path(17)
	if !slices.Equal(x.Range("", ""), wantPairs) || !slices.Equal(x.Shape(), wantShape) || !slices.Equal(again, wantSteps) {
		t.Error("a list that was answered is part of the tree")
	}
	if x.Root() != numbered(40).Root() {
		t.Error("the root changed")
	}
}
