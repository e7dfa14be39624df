package blocks_test

import (
	"bytes"
	"math"
	"slices"
	"strconv"
	"testing"

	"isthmus/api"
	"isthmus/files"
	"isthmus/kv"
	"isthmus/types"
)

// fault is what makes Save return an error.
type fault struct {
	what   string
	want   api.Errno
	change func(e *entry)
}

// forged gives a block other parts, and the commit for it the hash that it has then.
func forged(e *entry, change func(b *api.Block)) {
	change(&e.block)
	e.commit.Block = types.HeaderHash(e.block.Header)
}

// faults are those of a block behind another one, by the steps of Save that find them.
func faults() [][]fault {
	header := func(what string, want api.Errno, change func(b *api.Block)) fault {
		return fault{what, want, func(e *entry) { forged(e, change) }}
	}
	long := bytes.Repeat([]byte("s"), 1<<16+1)
	return [][]fault{
		{
			header("no chain", api.ErrBlock, func(b *api.Block) { b.Header.Chain = "" }),
			header("no time", api.ErrBlock, func(b *api.Block) { b.Header.Time = -1 }),
			header("a transaction more", api.ErrBlock, func(b *api.Block) { b.Txs = append(slices.Clone(b.Txs), []byte("x")) }),
			header("no last block", api.ErrBlock, func(b *api.Block) { b.Header.Last, b.Last.Block = api.Hash{}, api.Hash{} }),
			header("no last commit", api.ErrBlock, func(b *api.Block) { b.Last = api.Commit{} }),
			header("another height than the last commit's", api.ErrBlock, func(b *api.Block) { b.Header.Height++ }),
		},
		{
			header("a height too high", api.ErrHeight, func(b *api.Block) { b.Header.Height++; b.Last.Height++ }),
			header("a height too low", api.ErrHeight, func(b *api.Block) { b.Header.Height--; b.Last.Height-- }),
			header("the greatest height", api.ErrHeight, func(b *api.Block) {
				b.Header.Height, b.Last.Height = api.MaxHeight, api.MaxHeight-1
			}),
		},
		{
			header("another last block", api.ErrBlock, func(b *api.Block) { b.Header.Last[31]++; b.Last.Block[31]++ }),
			{"a commit for the height behind", api.ErrBlock, func(e *entry) { e.commit.Height++ }},
			{"a commit for the height ahead", api.ErrBlock, func(e *entry) { e.commit.Height-- }},
			{"a commit for another block", api.ErrBlock, func(e *entry) { e.commit.Block[0]++ }},
			{"a commit for none", api.ErrBlock, func(e *entry) { e.commit.Block = api.Hash{} }},
			{"no commit", api.ErrBlock, func(e *entry) { e.commit = api.Commit{} }},
			{"the last commit", api.ErrBlock, func(e *entry) { e.commit = e.block.Last }},
		},
		{
			{"no validators", api.ErrSet, func(e *entry) { e.set = nil }},
			{"a validator twice", api.ErrSet, func(e *entry) { e.set = append(slices.Clone(e.set), e.set[0]) }},
			{"no power", api.ErrSet, func(e *entry) { e.set[0].Power = 0 }},
		},
		{
			{"the validators of another height", api.ErrBlock, func(e *entry) { e.set = members(e.block.Header.Height + 1) }},
			{"a validator fewer", api.ErrBlock, func(e *entry) { e.set = e.set[:1] }},
			{"validators in another order", api.ErrBlock, func(e *entry) { slices.Reverse(e.set) }},
			{"another key", api.ErrBlock, func(e *entry) { e.set[1].Key[5]++ }},
			header("another hash of the validators", api.ErrBlock, func(b *api.Block) { b.Header.Validators[0]++ }),
			{"too many votes", api.ErrBlock, func(e *entry) { e.commit.Votes = make([]api.Vote, 33) }},
			{"too many votes in the last commit", api.ErrBlock, func(e *entry) { e.block.Last.Votes = make([]api.Vote, 33) }},
			{"too long a Sign", api.ErrBlock, func(e *entry) { e.commit.Votes[1].Sign = long }},
			{"too long a Sign in the last commit", api.ErrBlock, func(e *entry) { e.block.Last.Votes[1].Sign = long }},
		},
	}
}

// spoilt is what comes behind heights 4 to 6, with these faults, of which that of the earliest step goes last, since it
// must be what it says then.
func spoilt(l ...fault) entry {
	e := chain(4, 7)[3]
	for _, f := range slices.Backward(l) {
		f.change(&e)
	}
	return e
}

// TestBL2SaveFaults: each fault alone, and nothing changes.
func TestBL2SaveFaults(t *testing.T) {
	f, s := holding(t, chain(4, 6))
	for _, step := range faults() {
		for _, fault := range step {
			e := spoilt(fault)
			wantUnchanged(t, fault.what, f, func() {
				wantErr(t, fault.what, s.Save(e.block, e.commit, e.set), fault.want)
			})
			wantStored(t, fault.what, s, chain(4, 6))
		}
	}
	for _, e := range append(chain(4, 6), chain(1, 1)[0], chain(8, 8)[0]) {
		wantErr(t, "another height", s.Save(e.block, e.commit, e.set), api.ErrHeight)
	}
	save(t, s, chain(4, 7)[3:])
	wantStored(t, "without a fault", s, chain(4, 7))
	wantStored(t, "opened again", open(t, f), chain(4, 7))
}

// TestBL2SaveOrder: of two faults that different steps find, that of the earlier one is told.
func TestBL2SaveOrder(t *testing.T) {
	f, s := holding(t, chain(4, 6))
	must(t, f.Arm(0))
	wantErr(t, "crash", s.Prune(4), api.ErrDown)
	steps := faults()
	for i, early := range steps {
		for _, one := range early {
			e := spoilt(one)
			wantErr(t, one.what+", and the files are down", s.Save(e.block, e.commit, e.set), one.want)
			for _, late := range steps[i+1:] {
				for _, other := range late {
					e := spoilt(one, other)
					wantErr(t, one.what+", and "+other.what, s.Save(e.block, e.commit, e.set), one.want)
				}
			}
		}
	}
	e := spoilt()
	wantErr(t, "no fault, and the files are down", s.Save(e.block, e.commit, e.set), api.ErrDown)
}

// TestBL2SaveFirst: what is asked of a first block, and what is not.
func TestBL2SaveFirst(t *testing.T) {
	for _, c := range []struct {
		what   string
		want   api.Errno
		change func(e *entry)
	}{
		{"another last block", 0, func(e *entry) {
			forged(e, func(b *api.Block) { b.Header.Last[31]++; b.Last.Block[31]++ })
		}},
		{"another height", 0, func(e *entry) {
			forged(e, func(b *api.Block) { b.Header.Height++; b.Last.Height++ })
			e.commit.Height++
		}},
		{"no time", api.ErrBlock, func(e *entry) { forged(e, func(b *api.Block) { b.Header.Time = -1 }) }},
		{"height 0", api.ErrBlock, func(e *entry) {
			forged(e, func(b *api.Block) { b.Header.Height, b.Last.Height = 0, -1 })
			e.commit.Height = 0
		}},
		{"a commit for another height", api.ErrBlock, func(e *entry) { e.commit.Height-- }},
		{"a commit for another block", api.ErrBlock, func(e *entry) { e.commit.Block[0]++ }},
		{"no validators", api.ErrSet, func(e *entry) { e.set = nil }},
		{"other validators", api.ErrBlock, func(e *entry) { e.set = members(1) }},
		{"too many votes", api.ErrBlock, func(e *entry) { e.commit.Votes = make([]api.Vote, 33) }},
		{"too many votes in the last commit", api.ErrBlock, func(e *entry) { e.block.Last.Votes = make([]api.Vote, 33) }},
	} {
		e := chain(4, 4)[0]
		c.change(&e)
		f := files.New()
		s := open(t, f)
		wantErr(t, c.what, s.Save(e.block, e.commit, e.set), c.want)
		if c.want == 0 {
			wantStored(t, c.what, s, []entry{e})
			wantStored(t, c.what, open(t, f), []entry{e})
		} else {
			wantStored(t, c.what, s, nil)
		}
	}
}

// TestBL2SaveUnlooked: what Save does not look at is stored as it is.
func TestBL2SaveUnlooked(t *testing.T) {
	for what, change := range map[string]func(e *entry){
		"no votes":                    func(e *entry) { e.commit.Votes = nil },
		"no votes in the last commit": func(e *entry) { e.block.Last.Votes = nil },
		"as many votes as can be":     func(e *entry) { e.commit.Votes = make([]api.Vote, 32) },
		"as many in the last commit":  func(e *entry) { e.block.Last.Votes = make([]api.Vote, 32) },
		"as long a Sign as can be":    func(e *entry) { e.commit.Votes[1].Sign = bytes.Repeat([]byte("s"), 1<<16) },
		"as long a Sign in the last":  func(e *entry) { e.block.Last.Votes[0].Sign = bytes.Repeat([]byte("s"), 1<<16) },
		"another round":               func(e *entry) { e.commit.Round = math.MinInt },
		"other votes": func(e *entry) {
			e.commit.Votes[0] = api.Vote{Kind: -1, Height: math.MaxInt, Round: math.MinInt, Block: hashOf("x"), Validator: 77}
		},
		"another chain": func(e *entry) { forged(e, func(b *api.Block) { b.Header.Chain = "two" }) },
		"an early time": func(e *entry) { forged(e, func(b *api.Block) { b.Header.Time = 0 }) },
		"a proposer that does not exist": func(e *entry) {
			forged(e, func(b *api.Block) { b.Header.Proposer = math.MaxInt })
		},
		"other next validators": func(e *entry) { forged(e, func(b *api.Block) { b.Header.Next = hashOf("x") }) },
	} {
		f, s := holding(t, chain(4, 6))
		e := chain(4, 7)[3]
		change(&e)
		must(t, s.Save(e.block, e.commit, e.set))
		wantStored(t, what, s, append(chain(4, 6), e))
		wantStored(t, what+", opened again", open(t, f), append(chain(4, 6), e))
		last := after(e.commit)
		save(t, s, []entry{last})
		wantStored(t, what+", and one more", open(t, f), append(chain(4, 6), e, last))
	}
}

// withTxs is what comes behind heights 4 to 6, with transactions of these sizes.
func withTxs(sizes ...int) entry {
	e := chain(4, 7)[3]
	e.block.Txs = nil
	for _, size := range sizes {
		e.block.Txs = append(e.block.Txs, make([]byte, size))
	}
	return sealed(e.block, e.set)
}

// TestBL2SaveLong: a height whose parts are together as long as a batch may be, and those that are longer, which are not
// stored, but are in the way of nothing.
func TestBL2SaveLong(t *testing.T) {
	sizes := slices.Repeat([]int{1 << 16}, 16)
	sizes[15] = 60000
	f, s := holding(t, chain(4, 6))
	before, err := f.Read("f")
	must(t, err)
	e := withTxs(sizes...)
	save(t, s, []entry{e})
	now, err := f.Read("f")
	must(t, err)
	rest := api.MaxBytes - (len(now) - len(before) - 12)
	sizes[15] += rest

	f, s = holding(t, chain(4, 6))
	most := withTxs(slices.Repeat([]int{1 << 16}, api.MaxTxs)...)
	wantErr(t, "as many transactions as can be, as long as can be", s.Save(most.block, most.commit, most.set), api.ErrLong)
	sizes[15]++
	e = withTxs(sizes...)
	wantErr(t, "one byte too long", s.Save(e.block, e.commit, e.set), api.ErrLong)
	wantStored(t, "too long", s, chain(4, 6))
	sizes[15]--
	e = withTxs(sizes...)
	must(t, s.Save(e.block, e.commit, e.set))
	wantStored(t, "as long as can be", s, append(chain(4, 6), e))
	wantStored(t, "opened again", open(t, f), append(chain(4, 6), e))
}

// TestBL2SaveCrash: a Save that crashes stores nothing, and all later ones return its error.
func TestBL2SaveCrash(t *testing.T) {
	for allowed := range 2 {
		f, s := holding(t, chain(4, 6))
		e := chain(4, 7)[3]
		must(t, f.Arm(allowed))
		wantErr(t, "Save", s.Save(e.block, e.commit, e.set), api.ErrDown)
		wantStored(t, "crashed", s, chain(4, 6))
		f.Start(nil)
		wantErr(t, "Save, started again", s.Save(e.block, e.commit, e.set), api.ErrDown)
		wantErr(t, "Prune, started again", s.Prune(5), api.ErrDown)
		wantErr(t, "Prune of nothing, started again", s.Prune(4), api.ErrDown)
		wantErr(t, "Prune of too much", s.Prune(7), api.ErrArg)
		wantStored(t, "started again", s, chain(4, 6))
		s = open(t, f)
		wantStored(t, "opened again", s, chain(4, 6))
		save(t, s, []entry{e})
		wantStored(t, "saved", s, chain(4, 7))
	}
	f := files.New()
	s := open(t, f)
	must(t, f.Arm(0))
	e := chain(1, 1)[0]
	wantErr(t, "Save of a first block", s.Save(e.block, e.commit, e.set), api.ErrDown)
	wantStored(t, "crashed", s, nil)
	wantErr(t, "Prune without blocks", s.Prune(0), api.ErrArg)
}

// TestBL2Prune: the heights that can be pruned, and those that can't.
func TestBL2Prune(t *testing.T) {
	l := chain(4, 8)
	for height := -1; height < 12; height++ {
		f, s := holding(t, l)
		if height < 4 || height > 8 {
			wantUnchanged(t, "Prune", f, func() { wantErr(t, "Prune", s.Prune(height), api.ErrArg) })
			wantStored(t, "not pruned", s, l)
			continue
		}
		wantErr(t, "Prune", s.Prune(height), 0)
		left := l[height-4:]
		for range 2 {
			wantStored(t, "pruned", s, left)
			wantErr(t, "Prune of what is gone", s.Prune(height-1), api.ErrArg)
			wantErr(t, "Prune of what is not there yet", s.Prune(9), api.ErrArg)
			wantErr(t, "Prune again", s.Prune(height), 0)
			s = open(t, f)
		}
		e := after(l[4].commit)
		save(t, s, []entry{e})
		wantStored(t, "one more", open(t, f), append(slices.Clone(left), e))
	}
	_, s := holding(t, l)
	wantErr(t, "the greatest number", s.Prune(math.MaxInt), api.ErrArg)
	wantErr(t, "the least number", s.Prune(math.MinInt), api.ErrArg)
	wantErr(t, "no blocks", open(t, files.New()).Prune(0), api.ErrArg)
	wantErr(t, "no blocks", open(t, files.New()).Prune(1), api.ErrArg)
}

// TestBL2PruneCompacts: a Prune leaves no more in the file than the heights that stay, also if there is nothing to remove.
func TestBL2PruneCompacts(t *testing.T) {
	l := chain(4, 8)
	for height := 4; height <= 8; height++ {
		f, s := holding(t, l)
		twin := f.Clone()
		must(t, s.Prune(height))
		pairs, err := kv.Open(twin, "f")
		must(t, err)
		for h := 4; h < height; h++ {
			n := "000000000000" + strconv.Itoa(h)
			must(t, pairs.Apply([]kv.Change{{Key: "b/" + n, Gone: true}, {Key: "c/" + n, Gone: true}, {Key: "v/" + n, Gone: true}}))
		}
		must(t, pairs.Compact())
		got, err := f.Read("f")
		must(t, err)
		want, err := twin.Read("f")
		must(t, err)
		if !bytes.Equal(got, want) || !slices.Equal(f.List(), []string{"f"}) {
			t.Errorf("Prune(%d): %d bytes, want %d; files %q", height, len(got), len(want), f.List())
		}
	}
}

// TestBL2PruneFull: a Prune that can't compact has removed the heights.
func TestBL2PruneFull(t *testing.T) {
	f, s := holding(t, chain(4, 8))
	for i := range api.MaxFiles - 1 {
		must(t, f.Append("other"+strconv.Itoa(i), nil))
	}
	wantErr(t, "Prune", s.Prune(6), api.ErrFull)
	for range 2 {
		wantStored(t, "not compacted", s, chain(4, 8)[2:])
		wantErr(t, "Prune of what is gone", s.Prune(5), api.ErrArg)
		s = open(t, f)
	}
}

// many is a file with n heights that were not saved one by one.
func many(t *testing.T, n int) *files.FS {
	t.Helper()
	f := files.New()
	pairs, err := kv.Open(f, "f")
	must(t, err)
	set := string(types.EncodeSet(members(1)))
	var l []kv.Change
	for h := 1; h <= n; h++ {
		digits := strconv.Itoa(1e13 + h)[1:]
		b, c := api.Block{Header: api.Header{Height: h}}, api.Commit{Height: h}
		l = append(l,
			kv.Change{Key: "b/" + digits, Value: string(types.EncodeBlock(b))},
			kv.Change{Key: "c/" + digits, Value: string(types.EncodeCommit(c))},
			kv.Change{Key: "v/" + digits, Value: set})
		if len(l) > 3000 || h == n {
			must(t, pairs.Apply(l))
			l = nil
		}
	}
	return f
}

// TestBL2PruneMany: more heights than one batch can remove.
func TestBL2PruneMany(t *testing.T) {
	most := (api.MaxBytes - 3) / (3 * 17)
	f := many(t, most+2)
	s := open(t, f)
	wantUnchanged(t, "too many", f, func() { wantErr(t, "too many", s.Prune(most+2), api.ErrLong) })
	if s.Base() != 1 || s.Height() != most+2 {
		t.Errorf("too many: from %d to %d", s.Base(), s.Height())
	}
	must(t, s.Prune(most+1))
	must(t, s.Prune(most+2))
	for range 2 {
		if s.Base() != most+2 || s.Height() != most+2 {
			t.Errorf("from %d to %d", s.Base(), s.Height())
		}
		wantNone(t, "pruned", s, most+1, api.ErrNone)
		s = open(t, f)
	}
}

// TestBL2SaveAfterPrune: a Store that is pruned now and then goes on.
func TestBL2SaveAfterPrune(t *testing.T) {
	f, s := holding(t, chain(1, 1))
	last := chain(1, 1)[0]
	for h := 2; h < 30; h++ {
		e := after(last.commit)
		save(t, s, []entry{e})
		if h%3 == 0 {
			must(t, s.Prune(h-1))
			wantStored(t, "pruned", s, []entry{last, e})
		}
		if h%5 == 0 {
			s = open(t, f)
		}
		last = e
	}
}
