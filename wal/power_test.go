package wal

import (
	"fmt"
	"math/rand"
	"slices"
	"strings"
	"testing"

	"escrow/api"
	"escrow/disk"
	"escrow/frame"
)

// The fates of these tests name so many files and sectors.
const (
	mostFiles   = 16
	mostSectors = 24
)

// fatesBy are fates of every sector that may be dirty, each as the function says.
func fatesBy(fate func() (int, string)) []api.Fate {
	var fates []api.Fate
	for i := range mostFiles {
		for s := range mostSectors {
			kind, bytes := fate()
			fates = append(fates, api.Fate{File: fmt.Sprint("log.", i), Sector: s, Kind: kind, Bytes: bytes})
		}
	}
	return fates
}

func kept() (int, string) { return api.FateKept, "" }

func junk() (int, string) { return api.FateReplace, strings.Repeat("junk", 16) }

// byChance: sectors are lost, kept or replaced by bytes that make no frame right.
func byChance(r *rand.Rand) func() (int, string) {
	return func() (int, string) {
		b := make([]byte, r.Intn(70))
		r.Read(b)
		return r.Intn(4) - 1, string(b)
	}
}

func text(r *rand.Rand, n int) string {
	b := make([]byte, n)
	for i := range b {
		b[i] = byte(1 + r.Intn(255))
	}
	return string(b)
}

// sectorsUnderWay are the dirty sectors of a disk whose power went: those that a crash may keep.
func sectorsUnderWay(d *disk.Disk) []api.Fate {
	lost, all := d.Copy(), d.Copy()
	crash(lost)
	crash(all, fatesBy(kept)...)
	var fates []api.Fate
	for _, name := range all.List() {
		from, _ := lost.Size(name)
		to, _ := all.Size(name)
		for s := from / 64; s < to/64; s++ {
			fates = append(fates, api.Fate{File: name, Sector: s})
		}
	}
	return fates
}

// patterns are all ways in which sectors are lost, kept and replaced.
func patterns(fates []api.Fate) [][]api.Fate {
	all := [][]api.Fate{nil}
	for _, f := range fates {
		var longer [][]api.Fate
		for kind := range 3 {
			f.Kind, f.Bytes = kind, "junk"
			for _, p := range all {
				longer = append(longer, append(slices.Clone(p), f))
			}
		}
		all = longer
	}
	return all
}

// holdsOpen: the log tells what it should, also if the power goes or the disk refuses at any Sync of Open, and goes on behind it.
func holdsOpen(t *testing.T, what string, d *disk.Disk, segment int, first int64, want []string) {
	t.Helper()
	for n := 1; ; n++ {
		c := d.Copy()
		c.Fall(n)
		l, got, e := Open(c, "log", segment, first)
		if e == api.OK {
			if n != len(l.Names())+1 || !slices.Equal(got, want) {
				t.Fatalf("P6.2: %s: Open, with %d Syncs and the segments %q, tells %q, want %q", what, n-1, l.Names(), got, want)
			}
			break
		}
		if l != nil || len(got) != 0 || e != api.ErrOff {
			t.Fatalf("P6.1: %s: Open, with the power gone at %d, answers %q, %d", what, n, got, e)
		}
		refuses(t, "P6.1: "+what, c, "log", segment, first, api.ErrOff)
		crash(c, fatesBy(junk)...)
		opens(t, "P6.2: "+what, c, segment, first, want...)

		c = d.Copy()
		c.Arm(n, disk.Syncs)
		if l, got, e := Open(c, "log", segment, first); l != nil || len(got) != 0 || e != api.ErrDisk {
			t.Fatalf("P6.1: %s: Open, refused at %d, answers %q, %d", what, n, got, e)
		}
		opens(t, "P6.2: "+what, c, segment, first, want...)
	}
	c := d.Copy()
	opens(t, "P6.2: "+what, c, segment, first, want...)
	safe := whole(c)
	crash(c, fatesBy(junk)...)
	if whole(c) != safe {
		t.Fatalf("P6.4: %s: behind Open not all is safe", what)
	}
	l := opens(t, "P6.4: "+what, c, segment, first, want...)
	appends(t, l, "more")
	crash(c, fatesBy(junk)...)
	opens(t, "P6.2: "+what, c, segment, first, append(slices.Clone(want), "more")...)
}

// P6.2: the power goes at every Write and Sync of some Appends, with every way that the sectors under way may go.
func TestPowerAtEach(t *testing.T) {
	r := rand.New(rand.NewSource(1))
	var payloads []string
	for _, n := range []int{1, 49, 0, 113, 48, 177, 2} {
		payloads = append(payloads, text(r, n))
	}
	for _, segment := range []int{64, 128, 192, 320, 1000} {
		for n := 1; n <= 2*len(payloads); n++ {
			d := made(t, 1<<20)
			l := opens(t, "P6.1", d, segment, 0)
			d.Fall(n)
			ok := (n - 1) / 2
			appends(t, l, payloads[:ok]...)
			files := l.Names()
			is(t, "P6.1: Append", l.Append(payloads[ok]), api.ErrOff)
			dead(t, l, int64(ok), files...)
			underWay := sectorsUnderWay(d)
			frameOf, _ := frame.Frame(int64(ok), payloads[ok])
			if want := (n - 1) % 2 * len(frameOf) / 64; len(underWay) != want {
				t.Fatalf("P6.1: at %d %d sectors are under way, want %d", n, len(underWay), want)
			}
			for _, fates := range patterns(underWay) {
				want := payloads[:ok]
				lost := func(f api.Fate) bool { return f.Kind != api.FateKept }
				if len(fates) > 0 && !slices.ContainsFunc(fates, lost) {
					want = payloads[:ok+1]
				}
				c := d.Copy()
				crash(c, fates...)
				holdsOpen(t, fmt.Sprintf("segments of %d, power gone at %d, %v", segment, n, fates), c, segment, 0, want)
			}
		}
	}
}

// P6.2, P6.4: segments that others laid and nobody synced are safe behind Open, and not told otherwise before.
func TestPowerInOpen(t *testing.T) {
	d := laid(t, file{"log.0", row(3, "a", x(60))}, file{"log.1", ""}, file{"log.2", row(5, "c")}, file{"log.3", row(6, "d") + "tail"})
	want := []string{"a", x(60), "c", "d"}
	for n := 1; n <= 5; n++ {
		for _, arm := range []bool{true, false} {
			c := d.Copy()
			e := api.ErrOff
			if arm {
				c.Arm(n, disk.Any)
				e = api.ErrDisk
			} else {
				c.Fall(n)
			}
			if n == 5 {
				opens(t, "P6.1", c, 64, 3, want...)
				continue
			}
			if l, got, f := Open(c, "log", 64, 3); l != nil || len(got) != 0 || f != e {
				t.Fatalf("P6.1: Open, refused at %d, answers %q, %d, want %d", n, got, f, e)
			}
			safe := c.Copy()
			crash(safe)
			for i := range 4 {
				seen, _ := safe.Size(fmt.Sprint("log.", i))
				wanted := []int{192, 0, 64, 64}[i]
				if i >= n-1 {
					wanted = 0
				}
				if seen != wanted {
					t.Fatalf("P6.1: behind an Open that was refused at %d log.%d has %d safe bytes, want %d", n, i, seen, wanted)
				}
			}
			crash(c, fatesBy(kept)...)
			size(t, c, "log.3", 64)
			opens(t, "P6.2", c, 64, 3, want...)
		}
	}
}

// P6.3: every refusal of an Append leaves the disk and the log as they were; the next one has the same number.
func TestRefusedAppend(t *testing.T) {
	r := rand.New(rand.NewSource(2))
	for _, segment := range []int{64, 128, 192, 1000} {
		d := made(t, 1<<20)
		l := opens(t, "P6.1", d, segment, 0)
		var want []string
		for i, n := range []int{1, 49, 0, 113, 48, 177, 2, 30} {
			for what := range 3 {
				for k := 1; k <= 2; k++ {
					if what != disk.Any && k == 2 {
						continue // that is the next Append's
					}
					before, files := whole(d), l.Names()
					d.Arm(k, what)
					is(t, "P6.3: Append", l.Append(text(r, n)), api.ErrDisk)
					if whole(d) != before || l.Next() != int64(i) || !slices.Equal(l.Names(), files) {
						t.Fatalf("P6.3: segments of %d: Append %d, refused by Arm(%d, %d), left something", segment, i, k, what)
					}
					holdsOpen(t, "behind a refused Append", d, segment, 0, want)
					c := d.Copy()
					crash(c, fatesBy(kept)...)
					opens(t, "P6.3", c, segment, 0, want...)
				}
			}
			want = append(want, text(r, n))
			appends(t, l, want[i])
			opens(t, "P6.3", d.Copy(), segment, 0, want...)
		}
	}
}

// P6.3: a disk that is full, of bytes or of files.
func TestFullDisk(t *testing.T) {
	d := made(t, 64*3+10)
	l := opens(t, "P6.1", d, 128, 0)
	appends(t, l, "a", "b", "c")
	before := whole(d)
	for range 2 {
		is(t, "P6.3: Append", l.Append("d"), api.ErrSpace)
		is(t, "P6.3: Append", l.Append(x(60)), api.ErrSpace)
	}
	if whole(d) != before || l.Next() != 3 {
		t.Fatal("P6.3: Append, with ErrSpace, left something")
	}
	names(t, l, "log.0", "log.1")
	opens(t, "P6.3", d, 128, 0, "a", "b", "c")
	is(t, "P6.1: Reset", l.Reset(2), api.OK)
	appends(t, l, "d")
	opens(t, "P6.3", d, 128, 2, "c", "d")

	d = made(t, 1<<20)
	for i := range 13 {
		d.Write(fmt.Sprint("other", i), 0, "")
	}
	l = opens(t, "P6.1", d, 64, 0)
	appends(t, l, "a", "b", "c")
	before = whole(d)
	is(t, "P6.3: Append", l.Append("d"), api.ErrFull)
	if whole(d) != before || l.Next() != 3 {
		t.Fatal("P6.3: Append, with ErrFull, left something")
	}
	names(t, l, "log.0", "log.1", "log.2")
	is(t, "P6.1: Reset", l.Reset(1), api.OK)
	appends(t, l, "d")
	is(t, "P6.3: Append", l.Append("e"), api.ErrFull)
	opens(t, "P6.3", d, 64, 1, "b", "c", "d")
	names(t, l, "log.1", "log.2", "log.3")
}

// P6.1: Append asks for one Write and one Sync, Reset for none of them.
func TestCounted(t *testing.T) {
	d := made(t, 1<<20)
	l := opens(t, "P6.1", d, 128, 0)
	d.Arm(9, disk.Any)
	appends(t, l, "a", "b", "c", "d")
	is(t, "P6.1: Reset", l.Reset(3), api.OK)
	is(t, "P6.1: Append, the ninth", l.Append("e"), api.ErrDisk)
	d.Arm(2, disk.Writes)
	appends(t, l, "e")
	is(t, "P6.1: Append, the second Write", l.Append("f"), api.ErrDisk)
	d.Arm(2, disk.Syncs)
	appends(t, l, "f")
	is(t, "P6.1: Append, the second Sync", l.Append("g"), api.ErrDisk)
	opens(t, "P6.3", d, 128, 3, "d", "e", "f")
}

// history goes by P6.2 to P6.4 alone: what was answered, what is under way, and from where on it is wanted.
type history struct {
	*rand.Rand
	t       *testing.T
	d       *disk.Disk
	l       *Log
	segment int
	first   int64
	all     []string // all that was answered, from number 0 on
	way     []string // the one that is under way, if any
}

// reopen: the power goes, also in Open, till it doesn't.
func (h *history) reopen() {
	for {
		h.d.Crash(fatesBy(byChance(h.Rand)))
		h.d.On()
		h.d.Fall(h.Intn(8))
		l, got, e := Open(h.d, "log", h.segment, h.first)
		h.d.Fall(0)
		if e == api.ErrOff {
			continue
		}
		want := h.all[h.first:]
		if len(h.way) > 0 && len(got) == len(want)+1 {
			h.all = append(h.all, h.way[0])
			want = h.all[h.first:]
		}
		h.way = nil
		if e != api.OK || !slices.Equal(got, want) || l.Next() != int64(len(h.all)) {
			h.t.Fatalf("P6.2: behind a loss of power Open(%d, %d) tells %d payloads (%d), want %d", h.segment, h.first, len(got), e, len(want))
		}
		h.l = l
		return
	}
}

func (h *history) append() {
	payload := text(h.Rand, []int{0, 1, 48, 49, 112, 113, h.Intn(400)}[h.Intn(7)])
	h.d.Arm(h.Intn(8), h.Intn(3))
	h.d.Fall(h.Intn(12))
	e := h.l.Append(payload)
	h.d.Arm(0, 0)
	h.d.Fall(0)
	switch {
	case e == api.OK:
		h.all = append(h.all, payload)
	case e == api.ErrOff:
		h.way = []string{payload}
		h.reopen()
		return
	}
	if h.l.Next() != int64(len(h.all)) {
		h.t.Fatalf("P6.3: behind an Append that answered %d Next is %d, want %d", e, h.l.Next(), len(h.all))
	}
}

func (h *history) reset() {
	n := h.first + h.Int63n(int64(len(h.all))-h.first+1)
	if h.Intn(4) == 0 {
		h.d.Crash(nil)
	}
	e := h.l.Reset(n)
	h.first = n
	if e != api.OK && e != api.ErrOff {
		h.t.Fatalf("P6.1: Reset(%d) answers %d", n, e)
	}
	if h.d.Off() {
		h.reopen()
	}
}

// P6.2 to P6.4 over long histories: Appends, refusals, losses of power, Resets, in any order.
func TestHistories(t *testing.T) {
	ways, lost := 0, 0
	for seed := range int64(150) {
		h := &history{Rand: rand.New(rand.NewSource(seed)), t: t, d: made(t, 12000)}
		h.segment = []int{64, 128, 200, 640, 1024}[h.Intn(5)]
		h.reopen()
		for range 150 {
			before := len(h.all)
			switch h.Intn(12) {
			case 0:
				h.reset()
			case 1:
				h.reopen()
			default:
				h.append()
			}
			if len(h.all) > before {
				ways++
			} else {
				lost++
			}
		}
		opens(t, "P6.4", h.d, h.segment, h.first, h.all[h.first:]...)
	}
	if ways < 5000 || lost < 5000 {
		t.Errorf("the histories are one-sided: %d, %d", ways, lost)
	}
}
