package blocks_test

import (
	"math/rand"
	"testing"

	"isthmus/api"
	"isthmus/blocks"
	"isthmus/files"
)

// life is a file of blocks that goes through crashes, and what it may hold.
type life struct {
	t         *testing.T
	f         *files.FS
	all       []entry // of the heights from 1 on
	base, top int     // what is surely there
	to, more  int     // what the call that failed may have made of base and top; 0: none has failed
}

func newLife(t *testing.T, all []entry) *life {
	return &life{t: t, f: files.New(), all: all}
}

// stored are the heights that are there by what is known.
func (l *life) stored() []entry {
	if l.top == 0 {
		return nil
	}
	return l.all[l.base-1 : l.top]
}

// open is a Store, or nil after a crash. It has what is sure, or what may be: from then on that is sure.
func (l *life) open() *blocks.Store {
	l.t.Helper()
	s, err := blocks.Open(l.f, "f")
	if err != nil {
		if !l.f.Down() {
			l.t.Fatalf("Open: %v", err)
		}
		wantErr(l.t, "Open", err, api.ErrDown)
		return nil
	}
	if l.more != 0 && s.Height() == l.more {
		l.top = l.more
		l.base = max(l.base, 1)
	}
	if l.to != 0 && s.Base() == l.to {
		l.base = l.to
	}
	l.to, l.more = 0, 0
	wantStored(l.t, "opened", s, l.stored())
	return s
}

// save saves the next block, and tells whether the files are still up.
func (l *life) save(s *blocks.Store) bool {
	l.t.Helper()
	e := l.all[l.top]
	if err := s.Save(e.block, e.commit, e.set); err != nil {
		wantErr(l.t, "Save", err, api.ErrDown)
		wantStored(l.t, "Save failed", s, l.stored())
		l.more = l.top + 1
		return false
	}
	l.top++
	l.base = max(l.base, 1)
	wantStored(l.t, "saved", s, l.stored())
	return true
}

// prune removes all below a height, and tells whether the files are still up.
func (l *life) prune(s *blocks.Store, height int) bool {
	l.t.Helper()
	if err := s.Prune(height); err != nil {
		wantErr(l.t, "Prune", err, api.ErrDown)
		l.to = height
		if s.Base() == height { // the heights are gone, but the file could not be compacted
			l.base = height
		}
		wantStored(l.t, "Prune failed", s, l.stored())
		return false
	}
	l.base = height
	wantStored(l.t, "pruned", s, l.stored())
	return true
}

// run saves some blocks, with a Prune now and then, until the files crash.
func (l *life) run(s *blocks.Store) {
	l.t.Helper()
	for i := range 4 {
		if !l.save(s) || i%2 == 1 && !l.prune(s, l.top-1) {
			return
		}
	}
}

// TestBL3Crash: a crash at each step, with many numbers of bytes preserved, then another one at each of the first steps,
// then a third one.
func TestBL3Crash(t *testing.T) {
	all := chain(1, 17)
	for first := range 18 {
		for second := range 6 {
			for keep := range 7 {
				l := newLife(t, all)
				for _, allowed := range []int{first, second, keep % 3} {
					must(t, l.f.Arm(allowed))
					if s := l.open(); s != nil {
						l.run(s)
					}
					l.f.Start([]int{keep * 150, keep * 100})
				}
				s := l.open()
				l.run(s)
				if files := l.f.List(); len(files) != 1 {
					t.Fatalf("files %q", files)
				}
			}
		}
	}
}

// TestBL3Torn: a Save and a Prune that crash, with many numbers of bytes preserved.
func TestBL3Torn(t *testing.T) {
	all := chain(1, 6)
	for allowed := range 3 {
		for keep := 0; keep < 700; keep += 5 {
			l := newLife(t, all)
			s := l.open()
			for range 4 {
				l.save(s)
			}
			must(t, l.f.Arm(allowed))
			if l.save(s) && l.prune(s, 4) {
				t.Fatal("no crash")
			}
			l.f.Start([]int{keep})
			l.save(l.open())
		}
	}
}

// TestBL3Random: many crashes, whatever they preserve, beside other files.
func TestBL3Random(t *testing.T) {
	all := chain(1, 400)
	for seed := range 20 {
		r := rand.New(rand.NewSource(int64(seed)))
		l := newLife(t, all)
		for range 40 {
			must(t, l.f.Arm(r.Intn(16)))
			l.f.Append("a-file-ahead", make([]byte, r.Intn(5)))
			for s := l.open(); s != nil; {
				if r.Intn(4) == 0 && l.top > 0 {
					if !l.prune(s, l.base+r.Intn(l.top-l.base+1)) {
						break
					}
				} else if !l.save(s) {
					break
				}
			}
			keep := make([]int, r.Intn(4))
			for i := range keep {
				keep[i] = r.Intn(1500) - 10
			}
			l.f.Start(keep)
		}
		s := l.open()
		must(t, s.Prune(s.Height()))
		l.base = l.top
		wantStored(t, "at the end", s, l.stored())
		l.open()
	}
}

// TestBL3Safe: what Save and Prune returned nil for is there whatever a Start preserves then.
func TestBL3Safe(t *testing.T) {
	l := newLife(t, chain(1, 20))
	s := l.open()
	for i := range 20 {
		l.save(s)
		if i%5 == 4 {
			l.prune(s, l.top-2)
		}
		twin := l.f.Clone()
		twin.Start(nil)
		wantStored(t, "a twin", open(t, twin), l.stored())
	}
}
