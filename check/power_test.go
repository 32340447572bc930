package check

import (
	"fmt"
	"math/rand"
	"slices"
	"strings"
	"testing"

	"escrow/api"
	"escrow/disk"
)

// start is what is there ahead of a Save.
type start struct {
	what  string
	old   []string // the payload that is there, if any
	draft []string // what stands in the draft, if any
}

func (s start) laid(t *testing.T, capacity int) *disk.Disk {
	t.Helper()
	d := made(t, capacity)
	d.Write("other", 0, x(70))
	if len(s.old) > 0 {
		saves(t, d, "c", s.old[0])
	}
	if len(s.draft) > 0 {
		d.Write("c.tmp", 0, s.draft[0])
	}
	return d
}

// stillOld: Load tells what was there ahead of the Save.
func (s start) stillOld(t *testing.T, what string, d *disk.Disk) {
	t.Helper()
	if len(s.old) == 0 {
		fails(t, what, d, "c", api.ErrNone)
		return
	}
	loads(t, what, d, "c", s.old[0])
}

var starts = []start{
	{what: "nothing"},
	{what: "a draft", draft: []string{x(150)}},
	{what: "a whole draft", draft: []string{laidFor("draft")}},
	{what: "an old one", old: []string{"old"}},
	{what: "an old one that is long", old: []string{x(400)}},
	{what: "an old one and a draft", old: []string{""}, draft: []string{x(400)}},
	{what: "an old one and the draft of the new one", old: []string{"old"}, draft: []string{laidFor("new")}},
}

var news = []string{"", "new", strings.Repeat("new", 30), strings.Repeat("n", 184)}

// patterns are all ways in which the draft's first sectors are lost, kept and replaced, or what the file has already.
func patterns(sectors int) [][]api.Fate {
	all := [][]api.Fate{{
		{File: "c", Sector: 0, Kind: api.FateReplace, Bytes: "junk"},
		{File: "c", Sector: 1, Kind: api.FateLost},
		{File: "c", Sector: 2, Kind: api.FateKept},
	}}
	for s := range sectors {
		var longer [][]api.Fate
		for kind := range 3 {
			f := api.Fate{File: "c.tmp", Sector: s, Kind: kind, Bytes: "junk"}
			for _, p := range all {
				longer = append(longer, append(slices.Clone(p), f))
			}
		}
		all = longer
	}
	return all
}

// P7.2: the power goes at the n-th Write or Sync of a Save, for every n, with every way that the draft's sectors may go.
func TestPowerAtEach(t *testing.T) {
	for _, s := range starts {
		for _, payload := range news {
			sectors := (8 + len(payload) + 63) / 64
			for n := 1; n <= 2; n++ {
				d := s.laid(t, 1<<20)
				d.Fall(n)
				is(t, "P7.1: Save, the power gone", Save(d, "c", payload), api.ErrOff)
				refused(t, "P7.1", d, "c", payload, api.ErrOff)
				fails(t, "P7.1", d, "c", api.ErrOff)
				for _, fates := range patterns(sectors + 1) {
					c := d.Copy()
					crash(c, fates...)
					what := fmt.Sprintf("P7.2: %s, %d bytes, power gone at %d, %v", s.what, len(payload), n, fates)
					s.stillOld(t, what, c)
					if n == 1 && slices.Contains(c.List(), "c.tmp") {
						t.Fatalf("P7.1: %s: the draft wasn't removed ahead of the Write", what)
					}
					saves(t, c, "c", "next")
					loads(t, what, c, "c", "next")
				}
			}
		}
	}
}

// P7.2: behind a Save that is OK the new payload is there, whatever the fates; the power that is to go at the third goes at none.
func TestPowerBehind(t *testing.T) {
	for _, s := range starts {
		for _, payload := range news {
			d := s.laid(t, 1<<20)
			d.Fall(3)
			saves(t, d, "c", payload)
			lists(t, "P7.1", d, "c", "other")
			holds(t, "P7.2", d, "c", laidFor(payload))
			is(t, "P7.1: the third", d.Sync("other"), api.ErrOff)
			for _, fates := range patterns(3) {
				c := d.Copy()
				crash(c, fates...)
				loads(t, "P7.2: "+s.what, c, "c", payload)
			}
		}
	}
}

// comes is what Writes and Syncs behind a Save answer, taken by turns.
func comes(d *disk.Disk) []api.Errno {
	var errs []api.Errno
	for range 4 {
		errs = append(errs, d.Write("other", 0, ""), d.Sync("other"))
	}
	return errs
}

// P7.1, P7.2: the n-th Write, Sync or either is refused, for every n: at the Write, at the Sync, or behind the Save.
func TestRefusedAtEach(t *testing.T) {
	for _, s := range starts {
		for _, payload := range news {
			for n := 1; n <= 4; n++ {
				for what, at := range map[int]int{disk.Any: 2, disk.Writes: 1, disk.Syncs: 1} {
					d := s.laid(t, 1<<20)
					d.Arm(n, what)
					told := fmt.Sprintf("P7.2: %s, %d bytes, the %d-th of %d refused", s.what, len(payload), n, what)
					if n > at {
						saves(t, d, "c", payload)
						holds(t, told, d, "c", laidFor(payload))
					} else {
						is(t, told+": Save", Save(d, "c", payload), api.ErrDisk)
						s.stillOld(t, told, d)
					}
					want := []string{"c", "other"}
					if n <= at && len(s.old) == 0 {
						want = want[1:]
					}
					lists(t, told, d, want...)
					later := made(t, 1000)
					later.Write("other", 0, "")
					if n > at {
						later.Arm(n-at, what)
					}
					if got := comes(d); !slices.Equal(got, comes(later)) {
						t.Fatalf("P7.1: %s: behind it the disk answers %v", told, got)
					}
					crash(d, patterns(3)[5]...)
					if n > at {
						loads(t, told, d, "c", payload)
					} else {
						s.stillOld(t, told, d)
					}
				}
			}
		}
	}
}

// P7.1: a refusal and a loss of power in one Save, in either order.
func TestRefusedAndPower(t *testing.T) {
	for _, s := range starts {
		for arm := 1; arm <= 3; arm++ {
			for fall := 1; fall <= 3; fall++ {
				d := s.laid(t, 1<<20)
				d.Arm(arm, disk.Any)
				d.Fall(fall)
				want := api.OK
				switch {
				case fall <= 2 && fall <= arm:
					want = api.ErrOff
				case arm <= 2:
					want = api.ErrDisk
				}
				is(t, fmt.Sprint("P7.1: Save with Arm ", arm, ", Fall ", fall), Save(d, "c", "new"), want)
				if want == api.ErrDisk {
					s.stillOld(t, "P7.2", d)
				}
				crash(d, patterns(2)[4]...)
				if want == api.OK {
					loads(t, "P7.2", d, "c", "new")
				} else {
					s.stillOld(t, "P7.2", d)
				}
			}
		}
	}
}

// P7.1: a disk that is full: the file and the draft have to find room beside one another.
func TestNoSpace(t *testing.T) {
	for room := range 40 {
		d := made(t, 18+room)
		saves(t, d, "c", "0123456789")
		d.Write("c.tmp", 0, x(room))
		d.Arm(2, disk.Any)
		want := api.ErrSpace
		if room >= 8+12 {
			want = api.ErrDisk
		}
		is(t, fmt.Sprint("P7.1: Save with room ", room), Save(d, "c", "hello, world"), want)
		lists(t, "P7.1", d, "c")
		loads(t, "P7.2", d, "c", "0123456789")
		crash(d)
		loads(t, "P7.2", d, "c", "0123456789")
	}
	d := made(t, 7)
	is(t, "P7.1: Save", Save(d, "c", ""), api.ErrSpace)
	lists(t, "P7.1", d)
	d = made(t, 8)
	saves(t, d, "c", "")
	is(t, "P7.1: Save", Save(d, "c", ""), api.ErrSpace)
	loads(t, "P7.2", d, "c", "")
}

// P7.1: a disk with all the files that it may have: the draft is one of them.
func TestManyFiles(t *testing.T) {
	d := made(t, 10000)
	saves(t, d, "c", "old")
	for i := range 14 {
		d.Write(fmt.Sprint("f", i), 0, "x")
	}
	saves(t, d, "c", "fifteen files")
	d.Write("f14", 0, "x")
	refused(t, "P7.1", d, "c", "sixteen files", api.ErrFull)
	refused(t, "P7.1", d, "q", "sixteen files", api.ErrFull)
	loads(t, "P7.2", d, "c", "fifteen files")
	d.Remove("f14")
	d.Write("c.tmp", 0, "the sixteenth")
	saves(t, d, "c", "new")
	loads(t, "P7.3", d, "c", "new")
	is(t, "Write", d.Write("c.tmp", 0, "the sixteenth"), api.OK)
	is(t, "P7.1: Save", Save(d, "c.tmp", "another"), api.ErrFull)
	is(t, "P7.1: Save", Save(d, "q", "another"), api.ErrFull)
}

// P7.2 at the longest payload: sectors lost, kept and replaced by chance.
func TestPowerAtTheLongest(t *testing.T) {
	r := rand.New(rand.NewSource(3))
	old, payload := x(1048447), strings.Repeat("y", 1048448)
	for n := 1; n <= 3; n++ {
		d := made(t, 1<<22)
		is(t, "P7.1: Save", Save(d, "c", old), api.OK)
		d.Fall(n)
		want, e := old, api.ErrOff
		if n == 3 {
			want, e = payload, api.OK
		}
		is(t, "P7.1: Save", Save(d, "c", payload), e)
		for range 3 {
			var fates []api.Fate
			for s := range 16384 {
				for _, file := range []string{"c", "c.tmp"} {
					fates = append(fates, api.Fate{File: file, Sector: s, Kind: r.Intn(3), Bytes: "junk"})
				}
			}
			c := d.Copy()
			crash(c, fates...)
			if got, e := Load(c, "c"); got != want || e != api.OK {
				t.Fatalf("P7.2: power gone at %d: Load tells %d bytes, %d", n, len(got), e)
			}
		}
	}
}

// history goes by P7.2 and P7.3 alone: what each name has, and what may be there.
type history struct {
	*rand.Rand
	t   *testing.T
	d   *disk.Disk
	has map[string]string
}

func (h *history) fates() []api.Fate {
	var fates []api.Fate
	for _, file := range []string{"a", "b", "a.tmp", "b.tmp"} {
		for s := range 6 {
			b := make([]byte, h.Intn(70))
			h.Read(b)
			fates = append(fates, api.Fate{File: file, Sector: s, Kind: h.Intn(4) - 1, Bytes: string(b)})
		}
	}
	return fates
}

func (h *history) save() api.Errno {
	name, b := []string{"a", "b"}[h.Intn(2)], make([]byte, h.Intn(300))
	h.Read(b)
	h.d.Arm(h.Intn(6), h.Intn(3))
	h.d.Fall(h.Intn(8))
	e := Save(h.d, name, string(b))
	h.d.Arm(0, 0)
	h.d.Fall(0)
	if e == api.OK {
		h.has[name] = string(b)
	}
	if e == api.ErrOff || h.Intn(5) == 0 {
		crash(h.d, h.fates()...)
		h.may(name, string(b))
	}
	return e
}

// may: behind a loss of power the new payload may be there in the place of the old one.
func (h *history) may(name, payload string) {
	if got, e := Load(h.d, name); e == api.OK && got == payload {
		h.has[name] = payload
	}
}

func (h *history) holds() {
	for _, name := range []string{"a", "b"} {
		if payload, there := h.has[name]; there {
			loads(h.t, "P7.3", h.d, name, payload)
		} else {
			fails(h.t, "P7.2", h.d, name, api.ErrNone)
		}
	}
}

// P7.2 and P7.3 over long histories: Saves of two names, refusals, losses of power, drafts of others, in any order.
func TestHistories(t *testing.T) {
	seen := map[api.Errno]int{}
	for seed := range int64(100) {
		h := &history{Rand: rand.New(rand.NewSource(seed)), t: t, d: made(t, 700), has: map[string]string{}}
		for range 100 {
			seen[h.save()]++
			h.holds()
			if h.Intn(10) == 0 {
				h.d.Write([]string{"a.tmp", "b.tmp"}[h.Intn(2)], 0, x(h.Intn(300)))
				h.holds()
			}
		}
	}
	for _, e := range []api.Errno{api.OK, api.ErrOff, api.ErrDisk, api.ErrSpace} {
		if seen[e] < 100 {
			t.Errorf("the histories are one-sided: %v", seen)
		}
	}
}
