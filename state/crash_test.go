package state_test

import (
	"math/rand"
	"slices"
	"strconv"
	"testing"

	"isthmus/api"
	"isthmus/files"
	"isthmus/state"
)

// life is a file of versions that goes through crashes, and what it may hold.
type life struct {
	t       *testing.T
	f       *files.FS
	keep    int
	turn    int     // how many versions were made, so that no two of a height are equal
	now     []entry // what is surely there
	failed  bool    // whether a call has failed since then
	perhaps []entry // what is there if the call that failed was nevertheless done
}

func newLife(t *testing.T, keep int) *life {
	return &life{t: t, f: files.New(), keep: keep}
}

// open is a Store, or nil after a crash. It has what is sure, or what may be: from then on that is sure.
func (l *life) open() *state.Store {
	l.t.Helper()
	s, err := state.Open(l.f, "f", l.keep)
	if err != nil {
		if !l.f.Down() {
			l.t.Fatalf("Open: %v", err)
		}
		wantErr(l.t, "Open", err, api.ErrDown)
		return nil
	}
	if l.failed && difference(s, l.perhaps) == "" {
		l.now = l.perhaps
	}
	l.failed = false
	wantVersions(l.t, "opened", s, l.now)
	return s
}

// settle takes in what a call that would make then of the versions returned, and tells whether the files are still up.
func (l *life) settle(what string, s *state.Store, err error, then []entry) bool {
	l.t.Helper()
	if err != nil {
		wantErr(l.t, what, err, api.ErrDown)
		l.failed, l.perhaps = true, then
	} else {
		l.now = then
	}
	wantVersions(l.t, what, s, l.now)
	return err == nil
}

// next is a new version behind the last one.
func (l *life) next() entry {
	l.turn++
	e := at(l.turn)
	e.height = 1
	if len(l.now) > 0 {
		e.height = l.now[len(l.now)-1].height + 1
	}
	return e
}

// commit commits the next version.
func (l *life) commit(s *state.Store) bool {
	l.t.Helper()
	e := l.next()
	then := slices.DeleteFunc(append(slices.Clone(l.now), e), func(old entry) bool { return old.height == e.height-l.keep })
	return l.settle("Commit", s, s.Commit(e.height, e.tree, e.note), then)
}

// back goes back to the version at an index.
func (l *life) back(s *state.Store, i int) bool {
	l.t.Helper()
	return l.settle("Back", s, s.Back(l.now[i].height), l.now[:i+1])
}

// restore restores a version where there is none.
func (l *life) restore(s *state.Store) bool {
	l.t.Helper()
	e := l.next()
	e.height = 40
	return l.settle("Restore", s, s.Restore([]byte(encoded(e))), []entry{e})
}

// run begins with a Restore or a Commit, and goes on with Commits and a Back now and then, until the files crash.
func (l *life) run(s *state.Store, restores bool) {
	l.t.Helper()
	if restores && len(l.now) == 0 && !l.restore(s) {
		return
	}
	for i := range 5 {
		if !l.commit(s) || i%3 == 2 && !l.back(s, len(l.now)/2) {
			return
		}
	}
}

// TestST3Crash: a crash at each step, with many numbers of bytes preserved, then another one at each of the first steps,
// then a third one.
func TestST3Crash(t *testing.T) {
	for first := range 15 {
		for second := range 5 {
			for keep := range 7 {
				l := newLife(t, 1+(first+keep)%4)
				for _, allowed := range []int{first, second, keep % 3} {
					must(t, l.f.Arm(allowed))
					if s := l.open(); s != nil {
						l.run(s, keep%2 == 0)
					}
					l.f.Start([]int{keep * 40, keep * 30})
				}
				l.run(l.open(), false)
				if files := l.f.List(); len(files) != 1 {
					t.Fatalf("files %q", files)
				}
			}
		}
	}
}

// TestST3Torn: a Commit, a Back and a Restore that crash, with each number of bytes preserved: nothing of them is done unless
// all of the record is there.
func TestST3Torn(t *testing.T) {
	for what, do := range map[string]func(l *life, s *state.Store) bool{
		"Commit":  func(l *life, s *state.Store) bool { return l.commit(s) },
		"Back":    func(l *life, s *state.Store) bool { return l.back(s, 0) },
		"Restore": func(l *life, s *state.Store) bool { return l.restore(s) },
	} {
		for allowed := range 2 {
			done := false
			for keep := range 300 {
				l := newLife(t, 2)
				s := l.open()
				for range 4 {
					if what != "Restore" {
						l.commit(s)
					}
				}
				must(t, l.f.Arm(allowed))
				if do(l, s) {
					t.Fatalf("%s: no crash", what)
				}
				l.f.Start([]int{keep})
				s = l.open()
				if whole := slices.Equal(l.now, l.perhaps); whole != done {
					done = true
					if !whole || keep < 25 {
						t.Errorf("%s with %d bytes preserved: done %v", what, keep, whole)
					}
				}
				l.commit(s)
				l.open()
			}
			if !done {
				t.Errorf("%s with all bytes preserved: not done", what)
			}
		}
	}
}

// TestST3Random: many crashes, whatever they preserve, beside other files.
func TestST3Random(t *testing.T) {
	for seed := range 20 {
		r := rand.New(rand.NewSource(int64(seed)))
		l := newLife(t, 1+seed%5)
		for range 60 {
			must(t, l.f.Arm(r.Intn(16)))
			l.f.Append("a-file-ahead", make([]byte, r.Intn(5)))
			s := l.open()
			for s != nil {
				up := true
				switch {
				case len(l.now) == 0 && r.Intn(2) == 0:
					up = l.restore(s)
				case len(l.now) > 1 && r.Intn(4) == 0:
					up = l.back(s, r.Intn(len(l.now)))
				default:
					up = l.commit(s)
				}
				if !up {
					break
				}
			}
			keep := make([]int, r.Intn(4))
			for i := range keep {
				keep[i] = r.Intn(400) - 10
			}
			l.f.Start(keep)
		}
		l.run(l.open(), false)
		l.open()
	}
}

// TestST3Safe: what Commit, Back and Restore returned nil for is there whatever a Start preserves then.
func TestST3Safe(t *testing.T) {
	l := newLife(t, 3)
	s := l.open()
	for i := range 20 {
		switch {
		case i == 0:
			l.restore(s)
		case i%5 == 4:
			l.back(s, 1)
		default:
			l.commit(s)
		}
		twin := l.f.Clone()
		twin.Start(nil)
		wantVersions(t, "a twin, step "+strconv.Itoa(i), open(t, twin, 3), l.now)
	}
}
