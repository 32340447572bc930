package store

import (
	"fmt"
	"math/rand"
	"slices"
	"testing"

	"escrow/api"
	"escrow/disk"
)

// call is one of a store's calls: Do of a batch, or else a Checkpoint or a Raise.
type call struct {
	batch      []api.Record
	checkpoint bool
	raise      int64
}

func (c call) of(s *Store) api.Errno {
	switch {
	case c.checkpoint:
		return s.Checkpoint()
	case len(c.batch) > 0:
		return s.Do(c.batch)
	}
	return s.Raise(c.raise)
}

// script is calls that all are OK, one behind the other, on a disk that refuses nothing.
func script() []call {
	do := func(l ...api.Record) call { return call{batch: l} }
	return []call{
		{checkpoint: true},
		do(add(0)),
		do(add(1), signed(1, 2, 0), failed(9)),
		{raise: 0},
		do(came(1, 0, 3)),
		{checkpoint: true},
		{raise: 1},
		do(revoked(0)),
		do(ours(failOf(1, "no")), signed(2, 3, 3)),
		do(revoked(1), came(2, 3, 2)),
		{raise: 4},
		{checkpoint: true},
		{checkpoint: true},
		do(closed(2)),
	}
}

// sector is one of a file's.
type sector struct {
	file   string
	number int
}

// underWay is the sectors that a fate may do something to, be the disk off or on.
func underWay(d *disk.Disk) []sector {
	on := d.Copy()
	on.On()
	var found []sector
	for _, file := range append(on.List(), "check.tmp", "mark.tmp") {
		var probes []api.Fate
		for n := range 64 {
			probes = append(probes, api.Fate{File: file, Sector: n, Kind: api.FateReplace, Bytes: "?"})
		}
		c := d.Copy()
		crash(c, probes...)
		text, _ := c.Read(file, 0, api.MaxFile)
		safe, _ := on.Read(file, 0, api.MaxFile)
		for n := range 64 {
			if at := 64 * n; at < len(text) && text[at] == '?' && !(at < len(safe) && safe[at] == '?') {
				if s := (sector{file, n}); !slices.Contains(found, s) {
					found = append(found, s)
				}
			}
		}
	}
	return found
}

func (s sector) fate(kept bool) api.Fate {
	if kept {
		return api.Fate{File: s.file, Sector: s.number, Kind: api.FateKept}
	}
	return api.Fate{File: s.file, Sector: s.number, Kind: api.FateLost}
}

// ways is all ways in which so many sectors are lost or kept; of many, some of them: all lost and all kept at the ends.
func ways(r *rand.Rand, l []sector) [][]api.Fate {
	var all [][]api.Fate
	way := func(kept func(i int) bool) {
		var fates []api.Fate
		for i, s := range l {
			fates = append(fates, s.fate(kept(i)))
		}
		all = append(all, fates)
	}
	if len(l) <= 5 {
		for bits := range 1 << len(l) {
			way(func(i int) bool { return bits>>i&1 == 1 })
		}
		return all
	}
	way(func(i int) bool { return false })
	for range 6 {
		one := r.Intn(len(l))
		way(func(i int) bool { return i == one })
		way(func(i int) bool { return i != one })
		way(func(i int) bool { return r.Intn(2) == 0 })
	}
	way(func(i int) bool { return true })
	return all
}

// told is what may be told behind a loss of power.
type told struct {
	states []api.State
	marks  []int64
}

func (x told) opened(t *testing.T, what string, d *disk.Disk, c api.Config) *Store {
	t.Helper()
	s := openWith(t, what, d, c)
	got := s.State()
	if !slices.ContainsFunc(x.states, func(want api.State) bool { return sameState(got, want) }) {
		t.Fatalf("%s: of %d states Open tells none: %s", what, len(x.states), shown(got))
	}
	if !slices.Contains(x.marks, s.Mark()) {
		t.Fatalf("%s: Open tells the mark %d, want one of %v", what, s.Mark(), x.marks)
	}
	return s
}

// again: Open tells the same again, wherever the power goes in it and behind it, and whatever the disk refuses.
func again(t *testing.T, what string, r *rand.Rand, d *disk.Disk, c api.Config, x told) {
	t.Helper()
	once := d.Copy()
	s := x.opened(t, "P21.2: "+what, once, c)
	same := told{[]api.State{s.State()}, []int64{s.Mark()}}
	if sectors := underWay(once); len(sectors) > 0 {
		t.Fatalf("P21.3: %s: behind Open %v are dirty", what, sectors)
	}
	crash(once)
	same.opened(t, "P21.3: "+what, once, c)
	same.opened(t, "P21.3: "+what, once, c)
	for n := 1; ; n++ {
		off := d.Copy()
		off.Fall(n)
		y, e := Open(off, c)
		if e == api.OK {
			return
		}
		if y != nil || e != api.ErrOff {
			t.Fatalf("P21.1: %s: Open, with the power gone at %d: %v, %d", what, n, y, e)
		}
		for _, fates := range ways(r, underWay(off)) {
			back := off.Copy()
			crash(back, fates...)
			told{same.states, x.marks}.opened(t, "P21.3: "+what, back, c)
		}
		refused := d.Copy()
		refused.Arm(n, disk.Any)
		fails(t, "P21.1: "+what, refused, c, api.ErrDisk)
		same.opened(t, "P21.5: "+what, refused, c)
	}
}

// fallen runs the script till the power goes at the n-th Write or Sync; it tells at which call, and what may be told then; the length of the script, if it doesn't go.
func fallen(t *testing.T, d *disk.Disk, c api.Config, n int) (int, told) {
	t.Helper()
	begun := start(t)
	d.Fall(n)
	s, e := Open(d, c)
	if e == api.ErrOff {
		return -1, told{[]api.State{begun}, []int64{-1}}
	}
	is(t, "P21.1: Open", e, api.OK)
	for i, x := range script() {
		state, mark := s.State(), s.Mark()
		e := x.of(s)
		if e == api.OK {
			tells(t, "P21.1", s, then(t, state, x.batch...))
			continue
		}
		is(t, fmt.Sprintf("P21.1: call %d, with the power gone", i), e, api.ErrOff)
		tells(t, "P21.5: with the power gone", s, state)
		marks(t, "P21.5: with the power gone", s, mark)
		may := told{[]api.State{state}, []int64{mark}}
		if len(x.batch) > 0 {
			may.states = append(may.states, then(t, state, x.batch...))
		} else if !x.checkpoint {
			may.marks = append(may.marks, x.raise)
		}
		return i, may
	}
	return len(script()), told{[]api.State{s.State()}, []int64{s.Mark()}}
}

// goOn makes the calls from one on, this one too if it isn't done.
func goOn(t *testing.T, what string, s *Store, from int, may told) api.State {
	t.Helper()
	calls := script()
	if len(may.states) == 2 && sameState(s.State(), may.states[1]) {
		from++
	}
	for _, x := range calls[max(from, 0):] {
		is(t, what, x.of(s), api.OK)
	}
	return s.State()
}

// P21.2, P21.3: the power goes at every Write and Sync of a script, and again in the Open behind it, with the ways that the sectors under way may go; then the script goes on, to the same end.
func TestPowerAtEach(t *testing.T) {
	t.Parallel()
	r := rand.New(rand.NewSource(214))
	for _, segment := range []int{64, 192, 1000} {
		c := config()
		c.Segment = segment
		whole := made(t, 1<<20)
		_, end := fallen(t, whole, c, 0)
		for n := 1; ; n++ {
			d := made(t, 1<<20)
			at, may := fallen(t, d, c, n)
			if at == len(script()) {
				break
			}
			l := underWay(d)
			all := ways(r, l)
			for i, fates := range all {
				what := fmt.Sprintf("segments of %d, the power gone at %d, in call %d, %d sectors under way", segment, n, at, len(l))
				back := d.Copy()
				crash(back, fates...)
				again(t, what, r, back, c, may)
				s := openWith(t, "P21.2: "+what, back, c)
				if done := len(may.states) == 2 && len(l) > 0 && i == len(all)-1; done {
					tells(t, "P21.2: all kept: "+what, s, may.states[1])
				} else if i == 0 {
					tells(t, "P21.2: all lost: "+what, s, may.states[0])
				}
				last := goOn(t, what, s, at, may)
				crash(back)
				end.opened(t, "P21.2: in the end: "+what, back, c)
				if !sameState(last, end.states[0]) {
					t.Fatalf("P21.2: %s: in the end the state is %s", what, shown(last))
				}
			}
		}
	}
}

// P21.5: the disk refuses each Write and Sync of the script in turn; nothing is changed by it, and the same call is OK then.
func TestRefusedAtEach(t *testing.T) {
	t.Parallel()
	c := config()
	for _, what := range []int{disk.Any, disk.Writes, disk.Syncs} {
		for n := 1; ; n++ {
			d := made(t, 1<<20)
			s := opens(t, "P21.1", d, start(t))
			d.Arm(n, what)
			refused := 0
			for i, x := range script() {
				state, mark := s.State(), s.Mark()
				e := x.of(s)
				if e == api.OK {
					continue
				}
				refused++
				is(t, fmt.Sprintf("P21.1: call %d, refused", i), e, api.ErrDisk)
				tells(t, "P21.5: refused", s, state)
				marks(t, "P21.5: refused", s, mark)
				may := told{[]api.State{state}, []int64{mark}}
				if len(x.batch) == 0 && !x.checkpoint {
					may.marks = append(may.marks, x.raise)
				}
				may.opened(t, "P21.5: refused", d.Copy(), c)
				lost := d.Copy()
				crash(lost)
				may.opened(t, "P21.5: refused, and a crash", lost, c)
				is(t, "P21.5: behind a refusal", x.of(s), api.OK)
			}
			may := told{[]api.State{s.State()}, []int64{s.Mark()}}
			crash(d)
			may.opened(t, "P21.2", d, c)
			if refused == 0 {
				break
			}
		}
	}
}
