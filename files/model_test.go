package files_test

import (
	"math/rand"
	"slices"
	"strconv"
	"strings"
	"testing"

	"isthmus/api"
	"isthmus/files"
)

// model follows the words of the chapter: each file is a text of safe bytes and one of the others.
type model struct {
	safe, loose map[string]string
	steps       int
	allowed     int // -1: it is not armed
	down        bool
}

func newModel() *model {
	return &model{safe: map[string]string{}, loose: map[string]string{}, allowed: -1}
}

func (m *model) clone() *model {
	twin := *m
	twin.safe, twin.loose = map[string]string{}, map[string]string{}
	for name := range m.safe {
		twin.put(name, m.safe[name], m.loose[name])
	}
	return &twin
}

func (m *model) put(name, safe, loose string) {
	m.safe[name], m.loose[name] = safe, loose
}

func (m *model) drop(name string) {
	delete(m.safe, name)
	delete(m.loose, name)
}

func (m *model) has(name string) bool {
	_, found := m.safe[name]
	return found
}

func (m *model) names() []string {
	var l []string
	for name := range m.safe {
		l = append(l, name)
	}
	slices.Sort(l)
	return l
}

// crashes counts a step, or tells that it is the one that crashes.
func (m *model) crashes() bool {
	if m.allowed == 0 {
		m.down = true
		return true
	}
	if m.allowed > 0 {
		m.allowed--
	}
	m.steps++
	return false
}

// call is a step: what is called, on which names, with which bytes or which number.
type call struct {
	kind        int
	name, other string
	text        string
	n           int
}

const (
	doAppend = iota
	doSync
	doRename
	doRemove
	doCut
	kinds
)

// do is the error of a step on the model.
func (m *model) do(c call) api.Errno {
	if strings.Contains(c.name+c.other, " ") || c.name == "" {
		return api.ErrArg
	}
	if m.down {
		return api.ErrDown
	}
	if c.kind == doAppend {
		return m.append(c.name, c.text)
	}
	if !m.has(c.name) {
		return api.ErrNone
	}
	safe, loose := m.safe[c.name], m.loose[c.name]
	all := safe + loose
	if c.kind == doCut && (c.n < 0 || c.n > len(all)) {
		return api.ErrArg
	}
	if m.crashes() {
		return api.ErrDown
	}
	switch c.kind {
	case doSync:
		m.put(c.name, all, "")
	case doRename:
		m.drop(c.name)
		m.put(c.other, safe, loose)
	case doRemove:
		m.drop(c.name)
	case doCut:
		m.put(c.name, all[:c.n], "")
	}
	return 0
}

func (m *model) append(name, text string) api.Errno {
	if !m.has(name) && len(m.safe) == api.MaxFiles {
		return api.ErrFull
	}
	crashed := m.crashes()
	m.put(name, m.safe[name], m.loose[name]+text)
	if crashed {
		return api.ErrDown
	}
	return 0
}

func (m *model) start(keep []int) {
	i := 0
	for _, name := range m.names() {
		loose := m.loose[name]
		if loose == "" {
			continue
		}
		kept := ""
		if i < len(keep) && keep[i] > len(loose) {
			kept = loose
		} else if i < len(keep) && keep[i] > 0 {
			kept = loose[:keep[i]]
		}
		i++
		m.put(name, m.safe[name]+kept, "")
	}
	m.down, m.allowed = false, -1
}

// do is a step on a file system.
func do(f *files.FS, c call) error {
	switch c.kind {
	case doAppend:
		return f.Append(c.name, []byte(c.text))
	case doSync:
		return f.Sync(c.name)
	case doRename:
		return f.Rename(c.name, c.other)
	case doRemove:
		return f.Remove(c.name)
	}
	return f.Cut(c.name, c.n)
}

// same holds that a file system is as its model.
func same(t *testing.T, f *files.FS, m *model) {
	t.Helper()
	wantList(t, f, m.steps, m.names()...)
	if f.Down() != m.down {
		t.Fatalf("Down: %v, want %v", f.Down(), m.down)
	}
	for name := range m.safe {
		if m.down {
			wantNoFile(t, f, name, api.ErrDown)
		} else {
			wantFile(t, f, name, m.safe[name]+m.loose[name], len(m.safe[name]))
		}
	}
	if t.Failed() {
		t.FailNow()
	}
}

// someCall is a step on one of few names.
func someCall(r *rand.Rand, step int) call {
	names := []string{"a", "b", "c", "d", "a.new", "b c", ""}
	name := names[r.Intn(5)]
	if r.Intn(40) == 0 {
		name = names[5+r.Intn(2)]
	}
	c := call{kind: r.Intn(kinds), name: name, other: names[r.Intn(5)], n: r.Intn(20) - 1}
	if r.Intn(3) > 0 {
		c.kind = r.Intn(2)
	}
	c.text = strings.Repeat(strconv.Itoa(step)+".", r.Intn(4))
	return c
}

// someKeep are numbers for Start.
func someKeep(r *rand.Rand) []int {
	keep := make([]int, r.Intn(5))
	for i := range keep {
		keep[i] = r.Intn(12) - 2
	}
	return keep
}

// TestFS3Model: file systems and their clones go through steps, crashes and starts as the model does.
func TestFS3Model(t *testing.T) {
	for seed := range 300 {
		r := rand.New(rand.NewSource(int64(seed)))
		all := []*files.FS{files.New()}
		models := []*model{newModel()}
		for step := range 200 {
			at := r.Intn(len(all))
			f, m := all[at], models[at]
			switch r.Intn(25) {
			case 0:
				n := r.Intn(8)
				want := api.Errno(0)
				if m.down {
					want = api.ErrDown
				} else {
					m.allowed = n
				}
				wantErr(t, "Arm", f.Arm(n), want)
			case 1, 2:
				keep := someKeep(r)
				f.Start(keep)
				m.start(keep)
			case 3:
				if len(all) < 6 {
					all, models = append(all, f.Clone()), append(models, m.clone())
				}
			default:
				c := someCall(r, step)
				wantErr(t, "step "+strconv.Itoa(step), do(f, c), m.do(c))
			}
			for i := range all {
				same(t, all[i], models[i])
			}
		}
	}
}

// TestFS3Synced: whatever step crashes, and whatever is preserved, what was synced is there after Start, and what is
// there was written.
func TestFS3Synced(t *testing.T) {
	text := "0123456789"
	for armed := range 2 * len(text) {
		for kept := -1; kept <= len(text); kept++ {
			f := files.New()
			must(t, f.Arm(armed))
			written, synced := 0, 0
			for i := 0; i < len(text) && f.Append("f", []byte{text[i]}) == nil; i++ {
				written++
				if i%3 == 2 && f.Sync("f") == nil {
					synced = written
				}
			}
			f.Start([]int{kept})
			b, err := f.Read("f")
			if err != nil || len(b) < synced || !strings.HasPrefix(text, string(b)) {
				t.Fatalf("Arm(%d), Start(%d): %q, %v; %d bytes were synced", armed, kept, b, err, synced)
			}
			f.Start(nil)
			wantFile(t, f, "f", string(b), len(b))
		}
	}
}
