package keys_test

import (
	"bytes"
	"errors"
	"math/rand"
	"strconv"
	"testing"

	"isthmus/api"
	"isthmus/files"
	"isthmus/keys"
)

// life is a key in files that crash, and all that it ever signed.
type life struct {
	t     *testing.T
	f     *files.FS
	p     api.Params
	key   api.Hash
	texts map[int]string // by the leaf that signed them
	next  int            // no leaf below it may sign any more
}

func newLife(t *testing.T, p api.Params) *life {
	return &life{t: t, f: files.New(), p: p, key: root(t, "a", p), texts: map[int]string{}}
}

// open is a Signer, or nil after a crash.
func (l *life) open() *keys.Signer {
	s, err := keys.Open(l.f, "k", keys.Seed("a"), l.p)
	if err != nil {
		if !l.f.Down() {
			l.t.Fatalf("Open: %v", err)
		}
		wantErr(l.t, "Open", err, api.ErrDown)
	}
	return s
}

// signAll signs until the files crash or the leaves are used up, at most n times.
func (l *life) signAll(s *keys.Signer, n int) {
	for range n {
		text := "text " + strconv.Itoa(len(l.texts))
		sign, err := s.Sign([]byte(text))
		if err != nil {
			if !errors.Is(err, api.ErrSpent) && !l.f.Down() {
				l.t.Fatalf("Sign: %v", err)
			}
			return
		}
		leaf, err := keys.Leaf(sign)
		must(l.t, err)
		if was, found := l.texts[leaf]; found || leaf < l.next {
			l.t.Fatalf("leaf %d signs %q, and has signed %q", leaf, text, was)
		}
		if err := keys.Verify(l.key, l.p, []byte(text), sign); err != nil {
			l.t.Fatalf("Verify: %v", err)
		}
		l.texts[leaf], l.next = text, leaf+1
	}
}

// TestKY3Crash: a crash at each step, with each number of bytes preserved, and then another one.
func TestKY3Crash(t *testing.T) {
	size := len(record(t, 1))
	for first := range 9 {
		for second := range 5 {
			for keep := range size + 1 {
				l := newLife(t, small)
				for _, allowed := range []int{first, second} {
					must(t, l.f.Arm(allowed))
					if s := l.open(); s != nil {
						l.signAll(s, 8)
					}
					l.f.Start([]int{keep})
				}
				s := l.open()
				// A crash uses up a leaf at the most, and that only if its whole record was preserved.
				if used := 8 - s.Left(); used < len(l.texts) || used > len(l.texts)+2 {
					t.Fatalf("crashes at %d and %d, %d bytes: %d signatures, Left %d", first, second, keep, len(l.texts), s.Left())
				}
				l.signAll(s, 9)
				wantNoSign(t, "all are used", s, api.ErrSpent, 0)
			}
		}
	}
}

// TestKY3Random: many crashes, whatever they preserve, beside another file.
func TestKY3Random(t *testing.T) {
	r := rand.New(rand.NewSource(6))
	for range 20 {
		l := newLife(t, api.Params{Digest: 1, Depth: 5})
		for range 40 {
			must(t, l.f.Arm(r.Intn(12)))
			l.f.Append("a-file-ahead", make([]byte, r.Intn(5)))
			if s := l.open(); s != nil {
				l.signAll(s, 1+r.Intn(6))
			}
			l.f.Start([]int{r.Intn(30) - 5, r.Intn(30) - 5})
		}
		s := l.open()
		l.signAll(s, 33)
		if s.Left() != 0 || len(l.texts) == 0 {
			t.Errorf("Left %d, %d signatures", s.Left(), len(l.texts))
		}
	}
}

// TestKY3CountFirst: the leaf is told, safely, ahead of its signature: whatever a Start preserves then, it is used.
func TestKY3CountFirst(t *testing.T) {
	f := files.New()
	s := open(t, f, small)
	for leaf := range 8 {
		signed(t, s, "text", leaf)
		twin := f.Clone()
		twin.Start(nil)
		if got := open(t, twin, small).Left(); got != 7-leaf {
			t.Errorf("leaf %d has signed: Left %d after a crash", leaf, got)
		}
	}
}

// TestKY3Verify: what was signed is verified, by each leaf, with the greatest and the smallest Params.
func TestKY3Verify(t *testing.T) {
	for _, p := range []api.Params{{Digest: 1, Depth: 0}, {Digest: 32, Depth: 0}, {Digest: 1, Depth: 10}, {Digest: 32, Depth: 3}, {Digest: 3, Depth: 5}} {
		s := open(t, files.New(), p)
		for leaf := range min(1<<p.Depth, 40) {
			text := bytes.Repeat([]byte{byte(leaf)}, leaf)
			sign := signed(t, s, string(text), leaf)
			if err := keys.Verify(s.Root(), p, text, sign); err != nil {
				t.Errorf("%v, leaf %d: %v", p, leaf, err)
			}
			if p.Digest > 1 { // one byte of two digests may well be the same
				wantErr(t, "another text", keys.Verify(s.Root(), p, []byte("another text"), sign), api.ErrSign)
			}
		}
	}
}
