package store

import (
	"fmt"
	"math/rand"
	"slices"
	"testing"

	"escrow/api"
	"escrow/disk"
)

// history goes by P21.2, P21.3 and P21.5 alone: what was answered, and what was under way.
type history struct {
	*rand.Rand
	t     *testing.T
	d     *disk.Disk
	c     api.Config
	s     *Store // nil: none is open
	want  api.State
	under *api.State // with the batch whose Do was under way, if there is one since the last Open
	mark  int64      // the value that it had last
	maybe []int64    // the numbers whose Raise was refused or under way since then
	dead  bool       // the power went in a Do, so that the store's log is dead
	seen  map[string]int
}

func (h *history) saw(what string, e api.Errno) {
	h.seen[fmt.Sprint(what, " ", int(e))]++
}

// fates are of all sectors that may be dirty; none of them gives bytes.
func (h *history) fates() []api.Fate {
	all := pick(h.Rand, 0, 1, 2)
	files := []string{"check.tmp", "check", "mark.tmp", "mark"}
	for i := range 16 {
		files = append(files, fmt.Sprint("log.", i))
	}
	var fates []api.Fate
	for _, file := range files {
		for n := range 60 {
			fates = append(fates, api.Fate{File: file, Sector: n, Kind: pick(h.Rand, api.FateLost, api.FateKept, []int{0, 1, -1, 3}[h.Intn(4)])})
			if all > 0 {
				fates[len(fates)-1].Kind = all - 1
			}
		}
	}
	return fates
}

func (h *history) open() {
	s, e := Open(h.d, h.c)
	h.saw("Open", e)
	if e != api.OK {
		if s != nil || e != api.ErrOff && e != api.ErrDisk && e != api.ErrSpace {
			h.t.Fatalf("P21.2: Open = %v, %d", s, e)
		}
		return
	}
	got := s.State()
	switch {
	case sameState(got, h.want):
	case h.under != nil && sameState(got, *h.under):
		h.seen["the batch under way"]++
	default:
		h.t.Fatalf("P21.2: Open tells %s, want %s", shown(got), shown(h.want))
	}
	if s.Mark() != h.mark && !slices.Contains(h.maybe, s.Mark()) {
		h.t.Fatalf("P21.2: Open tells the mark %d, want %d or one of %v", s.Mark(), h.mark, h.maybe)
	}
	if s.Mark() != h.mark {
		h.seen["a refused number"]++
	}
	h.s, h.want, h.under, h.mark, h.maybe, h.dead = s, got, nil, s.Mark(), nil, false
}

func (h *history) do() {
	l, next, ok := batchFor(h.Rand, h.want)
	e := h.s.Do(l)
	h.saw("Do", e)
	switch {
	case e == api.OK && (!ok || h.dead):
		h.t.Fatalf("P21.1: Do of %+v is OK", l)
	case e == api.OK:
		h.want = next
	case ok && e == api.ErrRecord || !ok && e != api.ErrRecord:
		h.t.Fatalf("P21.1: Do of %+v answers %d", l, e)
	case e == api.ErrOff:
		h.under, h.dead = &next, true
	}
}

func (h *history) raise() {
	before := h.s.Mark()
	n := before + int64(h.Intn(5)) - 1
	e := h.s.Raise(n)
	h.saw("Raise", e)
	switch {
	case n < -1:
		is(h.t, "P21.1: Raise below -1", e, api.ErrArg)
	case n <= before:
		is(h.t, "P21.1: Raise to less", e, api.OK)
	case e == api.OK:
		h.mark, h.maybe = n, nil
	default:
		h.maybe = append(h.maybe, n)
	}
}

func (h *history) step() {
	if h.Intn(2) == 0 {
		h.d.Arm(h.Intn(6), h.Intn(3))
	}
	if h.Intn(2) == 0 {
		h.d.Fall(h.Intn(8))
	}
	switch x := h.Intn(10); {
	case h.s == nil || x == 0:
		h.open()
	case x < 6:
		h.do()
	case x < 8:
		h.raise()
	default:
		h.saw("Checkpoint", h.s.Checkpoint())
	}
	if h.s != nil {
		tells(h.t, "P21.5", h.s, h.want)
		marks(h.t, "P21.5", h.s, h.mark)
	}
	// Others need room too, and give it back.
	if h.Intn(6) == 0 {
		h.d.Remove("other")
		h.d.Write("other", 0, string(make([]byte, h.Intn(6000))))
	}
	if h.d.Off() && h.Intn(4) > 0 || h.Intn(10) == 0 {
		h.power()
	}
}

// power: it goes, if it isn't gone, and comes back; whoever holds the store goes on with it, or opens it anew.
func (h *history) power() {
	crash(h.d, h.fates()...)
	if h.Intn(4) > 0 {
		h.s = nil
	} else {
		h.seen["the same store behind a loss of power"]++
	}
}

// P21.2, P21.3, P21.5 over long histories.
func TestHistories(t *testing.T) {
	t.Parallel()
	seen := map[string]int{}
	for seed := range int64(400) {
		h := &history{Rand: rand.New(rand.NewSource(seed)), t: t, c: config(), want: start(t), mark: -1, seen: seen}
		h.d = made(t, pick(h.Rand, 6000, 9000, 15000, 60000))
		h.c.Segment = pick(h.Rand, 200, 1000, 5000, 1048576)
		for range 150 {
			h.step()
		}
		h.d.Remove("other")
		h.d.Arm(0, 0)
		h.d.Fall(0)
		if h.d.Off() {
			h.power()
		}
		h.s = nil
		h.open()
		if h.s == nil {
			t.Fatalf("P21.2: seed %d: nothing refuses Open, and it isn't OK", seed)
		}
	}
	for _, want := range []string{
		"Open 0", "Open 9", "Open 40", "Do 0", "Do 9", "Do 40", "Do 41", "Do 60", "Do 170", "Raise 0", "Raise 9", "Raise 40",
		"Checkpoint 0", "Checkpoint 9", "Checkpoint 40", "Checkpoint 41", "Checkpoint 60",
		"the batch under way", "a refused number", "the same store behind a loss of power",
	} {
		if seen[want] < 20 {
			t.Errorf("the histories had %q %d times", want, seen[want])
		}
	}
	t.Log(seen)
}
