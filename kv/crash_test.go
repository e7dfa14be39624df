package kv_test

import (
	"maps"
	"math/rand"
	"slices"
	"strconv"
	"strings"
	"testing"

	"isthmus/api"
	"isthmus/files"
	"isthmus/kv"
)

// life is a file of batches that goes through crashes, and what it may hold.
type life struct {
	t     *testing.T
	f     *files.FS
	sure  map[string]string // by the batches for which Apply returned nil, and by those that were found again
	maybe map[string]string // with the batch, too, for which Apply returned an error; nil if there is none
}

func newLife(t *testing.T) *life {
	return &life{t: t, f: files.New(), sure: map[string]string{}}
}

// changed is what a batch makes of keys and values.
func changed(m map[string]string, l []kv.Change) map[string]string {
	m = maps.Clone(m)
	for _, c := range l {
		delete(m, c.Key)
		if !c.Gone {
			m[c.Key] = c.Value
		}
	}
	return m
}

// found are a Store's keys and values.
func found(s *kv.Store) map[string]string {
	m := map[string]string{}
	for _, pair := range s.Range("", "") {
		m[pair.Key] = pair.Value
	}
	return m
}

// open is a Store, or nil after a crash. It has what is sure, or what may be: from then on that is sure.
func (l *life) open() *kv.Store {
	l.t.Helper()
	s, err := kv.Open(l.f, "f")
	if err != nil {
		if !l.f.Down() {
			l.t.Fatalf("Open: %v", err)
		}
		wantErr(l.t, "Open", err, api.ErrDown)
		return nil
	}
	m := found(s)
	if l.maybe != nil && maps.Equal(m, l.maybe) {
		l.sure = m
	}
	l.maybe = nil
	l.same(s)
	if b, _ := l.f.Read("f"); len(b) != s.Size() {
		l.t.Fatalf("Size %d, and the file has %d bytes", s.Size(), len(b))
	}
	return s
}

// same holds that a Store has what is sure.
func (l *life) same(s *kv.Store) {
	l.t.Helper()
	if m := found(s); !maps.Equal(m, l.sure) || s.Len() != len(l.sure) {
		l.t.Fatalf("%d keys %v, want %v or %v", s.Len(), m, l.sure, l.maybe)
	}
}

// apply performs a batch, and tells whether the files are still up.
func (l *life) apply(s *kv.Store, batch []kv.Change) bool {
	l.t.Helper()
	after := changed(l.sure, batch)
	err := s.Apply(batch)
	if err == nil {
		l.sure = after
	} else {
		wantErr(l.t, "Apply", err, api.ErrDown)
		l.maybe = after
	}
	l.same(s)
	return err == nil
}

// compact compacts, and tells whether the files are still up.
func (l *life) compact(s *kv.Store) bool {
	l.t.Helper()
	err := s.Compact()
	if err != nil {
		wantErr(l.t, "Compact", err, api.ErrDown)
	}
	l.same(s)
	return err == nil
}

// run applies some batches, no two of which make the same, with a Compact now and then, until the files crash.
func (l *life) run(s *kv.Store, from int) {
	l.t.Helper()
	for i := from; i < from+4; i++ {
		n := strconv.Itoa(i)
		if !l.apply(s, []kv.Change{set("n", n), set("k"+n, "v"), drop("k" + strconv.Itoa(i-2))}) {
			return
		}
		if i%2 == 1 && !l.compact(s) {
			return
		}
	}
}

// TestKV3Crash: a crash at each step, with many numbers of bytes preserved, then another one at each of the first steps
// (those of Open among them), then a third one.
func TestKV3Crash(t *testing.T) {
	for first := range 15 {
		for second := range 7 {
			for keep := -1; keep < 48; keep++ {
				l := newLife(t)
				for i, allowed := range []int{first, second, keep % 3} {
					must(t, l.f.Arm(max(allowed, 0)))
					if s := l.open(); s != nil {
						l.run(s, 4*i)
					}
					l.f.Start([]int{keep, keep / 2})
				}
				s := l.open()
				l.run(s, 12)
				if !maps.Equal(found(l.open()), l.sure) {
					t.Fatalf("%v, want %v", found(l.open()), l.sure)
				}
				if files := l.f.List(); !slices.Equal(files, []string{"f"}) {
					t.Fatalf("files %q", files)
				}
			}
		}
	}
}

// someBatch is a batch of few keys, that differs from all others by the value of n.
func someBatch(r *rand.Rand, step int) []kv.Change {
	l := []kv.Change{set("n", strconv.Itoa(step))}
	for range r.Intn(6) {
		key := strings.Repeat("k", r.Intn(3)) + strconv.Itoa(r.Intn(8))
		l = append(l, kv.Change{Key: key, Value: strings.Repeat("v", r.Intn(20)), Gone: r.Intn(3) == 0})
	}
	r.Shuffle(len(l), func(i, j int) { l[i], l[j] = l[j], l[i] })
	return l
}

// TestKV3Random: many crashes, whatever they preserve, beside other files.
func TestKV3Random(t *testing.T) {
	for seed := range 60 {
		r := rand.New(rand.NewSource(int64(seed)))
		l := newLife(t)
		step := 0
		for range 60 {
			must(t, l.f.Arm(r.Intn(16)))
			l.f.Append("a-file-ahead", make([]byte, r.Intn(5)))
			for s := l.open(); s != nil; step++ {
				if r.Intn(4) == 0 && !l.compact(s) || !l.apply(s, someBatch(r, step)) {
					break
				}
			}
			keep := make([]int, r.Intn(4))
			for i := range keep {
				keep[i] = r.Intn(120) - 10
			}
			l.f.Start(keep)
		}
		s := l.open()
		must(t, s.Compact())
		l.same(s)
		l.same(l.open())
	}
}

// TestKV3Safe: what Apply and Compact returned nil for is safe: it is there whatever a Start preserves then.
func TestKV3Safe(t *testing.T) {
	l := newLife(t)
	s := l.open()
	for i := range 20 {
		l.apply(s, []kv.Change{set("k"+strconv.Itoa(i), "v"), drop("k" + strconv.Itoa(i-3))})
		if i%5 == 4 {
			l.compact(s)
		}
		twin := l.f.Clone()
		twin.Start(nil)
		l.same(open(t, twin))
	}
}
