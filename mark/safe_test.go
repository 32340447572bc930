package mark

import (
	"fmt"
	"math/rand"
	"slices"
	"strings"
	"testing"

	"escrow/api"
	"escrow/disk"
)

// most is the greatest number that a Raise is handed in TestEveryWay.
const most = 4

// world is a disk that is on, and what P19.3 speaks of.
type world struct {
	d      *disk.Disk
	m      *Mark // the one that was opened last; nil: none yet
	acked  int64 // what was acknowledged, -1 at first
	handed int   // the bits of the numbers that Raises were handed
}

func (w world) clone() world {
	w.d = w.d.Copy()
	if w.m != nil {
		w.m = &Mark{disk: w.d, name: w.m.name, value: w.m.value, next: w.m.next}
	}
	return w
}

func (w world) key() string {
	var b strings.Builder
	tell(&b, w.d)
	c := w.d.Copy()
	crash(c)
	tell(&b, c)
	if w.m != nil {
		fmt.Fprintln(&b, w.m.value, w.m.next)
	}
	fmt.Fprintln(&b, w.acked, w.handed)
	return b.String()
}

// greatest is the greatest number that a Raise was handed, or -1.
func (w world) greatest() int64 {
	for n := int64(most); n >= 0; n-- {
		if w.handed>>n&1 == 1 {
			return n
		}
	}
	return -1
}

// dirty is the sectors of the file and its spare that a fate may do something to, be the disk off or on.
func dirty(d *disk.Disk) []api.Fate {
	var all, found []api.Fate
	for _, file := range []string{"m", "m.tmp"} {
		for s := range 3 {
			all = append(all, api.Fate{File: file, Sector: s, Kind: api.FateReplace, Bytes: "?"})
		}
	}
	c := d.Copy()
	crash(c, all...)
	for _, f := range all {
		if text, _ := c.Read(f.File, 64*f.Sector, 1); text == "?" {
			found = append(found, f)
		}
	}
	return found
}

// ends is what may become of one dirty sector, as P19.3 lets it.
func (w world) ends(at api.Fate) []api.Fate {
	ends := []api.Fate{{Kind: api.FateLost}, {Kind: api.FateKept}, {Kind: api.FateReplace}, {Kind: api.FateReplace, Bytes: "junk"}, {Kind: api.FateReplace, Bytes: of(-1)}}
	for n := range int64(most + 1) {
		if w.handed>>n&1 == 1 {
			ends = append(ends, api.Fate{Kind: api.FateReplace, Bytes: of(n)})
		}
	}
	for i := range ends {
		ends[i].File, ends[i].Sector = at.File, at.Sector
	}
	return ends
}

// crashes are all worlds behind a crash.
func (w world) crashes() []world {
	ways := [][]api.Fate{nil}
	for _, at := range dirty(w.d) {
		var longer [][]api.Fate
		for _, end := range w.ends(at) {
			for _, way := range ways {
				longer = append(longer, append(slices.Clone(way), end))
			}
		}
		ways = longer
	}
	var all []world
	for _, way := range ways {
		c := w.clone()
		crash(c.d, way...)
		all = append(all, c)
	}
	return all
}

// trouble is one way in which a call of at most two Writes and Syncs may go wrong; none, at first.
type trouble struct{ arm, fall int }

var troubles = []trouble{{0, 0}, {1, 0}, {2, 0}, {0, 1}, {0, 2}}

// behind is the worlds behind a call with trouble, in which the power may have gone.
func (w world) behind(t *testing.T, u trouble, call func(w *world) api.Errno) []world {
	t.Helper()
	c := w.clone()
	c.d.Arm(u.arm, disk.Any)
	c.d.Fall(u.fall)
	e := call(&c)
	c.d.Arm(0, disk.Any)
	c.d.Fall(0)
	if (u == trouble{}) && e != api.OK {
		t.Fatalf("P19.3: a call that nothing refuses answers %d\n%q", e, w.key())
	}
	if c.d.Off() {
		is(t, "P19.1: without power", e, api.ErrOff)
		fails(t, "P19.1: without power", c.d, "m", api.ErrOff)
		return c.crashes()
	}
	if e != api.OK && e != api.ErrDisk {
		t.Fatalf("P19.3: a call answers %d\n%q", e, w.key())
	}
	return []world{c}
}

func (w *world) open(t *testing.T) api.Errno {
	t.Helper()
	before := w.key()
	m, e := Open(w.d, "m")
	if (m == nil) != (e != api.OK) {
		t.Fatalf("P19.1: Open = %v, %d", m, e)
	}
	if m == nil {
		return e
	}
	if m.Value() < w.acked || m.Value() > w.greatest() {
		t.Fatalf("P19.3: Open tells %d, want %d to %d\n%q", m.Value(), w.acked, w.greatest(), before)
	}
	w.m, w.acked = m, m.Value()
	return e
}

func (w *world) raise(t *testing.T, n int64) api.Errno {
	t.Helper()
	value := w.m.Value()
	w.handed |= 1 << n
	e := w.m.Raise(n)
	if e != api.OK {
		values(t, "P19.2: refused", w.m, value)
		return e
	}
	values(t, "P19.2", w.m, max(n, value))
	w.acked = max(w.acked, n)
	return e
}

// next is all worlds one step on.
func (w world) next(t *testing.T) []world {
	all := w.crashes()
	for _, u := range troubles {
		all = append(all, w.behind(t, u, func(w *world) api.Errno { return w.open(t) })...)
		if w.m == nil {
			continue
		}
		for n := range int64(most + 1) {
			all = append(all, w.behind(t, u, func(w *world) api.Errno { return w.raise(t, n) })...)
		}
	}
	return all
}

// P19.2, P19.3, P19.4: all that Opens and Raises of a few numbers come to, with each refusal, fall and crash between them.
func TestEveryWay(t *testing.T) {
	first := world{d: made(t, 128), acked: -1}
	known := map[string]bool{first.key(): true}
	todo := []world{first}
	counts := map[int]int{}
	for len(todo) > 0 {
		w := todo[len(todo)-1]
		todo = todo[:len(todo)-1]
		for _, c := range w.next(t) {
			if key := c.key(); !known[key] {
				known[key] = true
				todo = append(todo, c)
			}
		}
		sane(t, w)
		counts[len(dirty(w.d))]++
	}
	t.Logf("%d worlds; so many sectors are dirty: %v", len(known), counts)
	if len(known) < 1000 {
		t.Errorf("only %d worlds", len(known))
	}
}

// sane: what holds of every world that Opens and Raises come to.
func sane(t *testing.T, w world) {
	t.Helper()
	names := w.d.List()
	if len(names) > 1 {
		t.Fatalf("P19.1: the disk has %q", names)
	}
	if size, e := w.d.Size("m"); e == api.OK && size != 128 {
		t.Fatalf("P19.4: the file has %d bytes", size)
	}
	if w.m != nil && !slices.Equal(names, []string{"m"}) {
		t.Fatalf("P19.3: there was a mark, and the disk has %q", names)
	}
	if w.m != nil && w.m.Value() != w.acked {
		t.Fatalf("P19.2: the value is %d, and %d was acknowledged", w.m.Value(), w.acked)
	}
}

// history goes by P19.2 and P19.3 alone, with numbers from all over, on a disk that others fill.
type history struct {
	*rand.Rand
	t      *testing.T
	d      *disk.Disk
	m      *Mark
	acked  int64
	handed []int64
	seen   map[string]int
}

func (h *history) fates() []api.Fate {
	var fates []api.Fate
	for _, file := range []string{"m", "m.tmp"} {
		for s := range 2 {
			b := make([]byte, h.Intn(70))
			h.Read(b)
			text := string(b)
			if len(h.handed) > 0 && h.Intn(2) == 0 {
				text = of(h.handed[h.Intn(len(h.handed))])
			}
			fates = append(fates, api.Fate{File: file, Sector: s, Kind: h.Intn(4) - 1, Bytes: text})
		}
	}
	return fates
}

func (h *history) greatest() int64 {
	if len(h.handed) == 0 {
		return -1
	}
	return slices.Max(h.handed)
}

func (h *history) open() api.Errno {
	m, e := Open(h.d, "m")
	h.seen[fmt.Sprint("Open ", int(e))]++
	if e == api.ErrMark {
		h.t.Fatalf("P19.3: Open answers ErrMark: %d acknowledged, %v handed", h.acked, h.handed)
	}
	if e != api.OK {
		return e
	}
	if m.Value() < h.acked || m.Value() > h.greatest() {
		h.t.Fatalf("P19.3: Open tells %d, want %d to %d", m.Value(), h.acked, h.greatest())
	}
	if m.Value() > h.acked {
		h.seen["a refused number told"]++
	}
	h.m, h.acked = m, m.Value()
	return e
}

func (h *history) raise() api.Errno {
	if h.m == nil {
		return h.open()
	}
	before := h.m.Value()
	n := []int64{before + 1, before + 1, before + int64(h.Intn(4)), before - int64(h.Intn(3)), h.Int63n(1 << 20), -1, before + h.Int63n(1<<40)}[h.Intn(7)]
	n = min(max(n, -1), maxIndex)
	h.handed = append(h.handed, n)
	used := h.d.Used()
	e := h.m.Raise(n)
	h.seen[fmt.Sprint("Raise ", int(e))]++
	if h.d.Used() != used {
		h.t.Fatalf("P19.4: a Raise made %d bytes of %d", h.d.Used(), used)
	}
	want := before
	if e == api.OK {
		want = max(before, n)
		h.acked = max(h.acked, n)
	}
	values(h.t, "P19.2", h.m, want)
	return e
}

func (h *history) step() {
	h.d.Arm(h.Intn(6), h.Intn(3))
	h.d.Fall(h.Intn(8))
	e := api.OK
	switch h.Intn(5) {
	case 0:
		e = h.open()
	case 1, 2, 3:
		e = h.raise()
	}
	h.d.Arm(0, 0)
	h.d.Fall(0)
	if e == api.ErrOff || h.Intn(10) == 0 {
		crash(h.d, h.fates()...)
	}
	if h.Intn(10) == 0 {
		h.d.Remove("other")
		h.d.Write("other", 0, zeros(h.Intn(200)))
	}
}

// P19.2, P19.3, P19.4 over long histories.
func TestHistories(t *testing.T) {
	seen := map[string]int{}
	for seed := range int64(1000) {
		h := &history{Rand: rand.New(rand.NewSource(seed)), t: t, d: made(t, 300), acked: -1, seen: seen}
		h.d.Write("other", 0, zeros(h.Intn(300)))
		for range 100 {
			h.step()
		}
		h.d.Remove("other")
		is(t, "P19.3: Open in the end", h.open(), api.OK)
	}
	for _, want := range []string{"Open 0", "Open 9", "Open 40", "Open 41", "Raise 0", "Raise 9", "Raise 40", "a refused number told"} {
		if seen[want] < 100 {
			t.Errorf("the histories had %q %d times", want, seen[want])
		}
	}
	for what := range seen {
		if strings.HasPrefix(what, "Raise") && !slices.Contains([]string{"Raise 0", "Raise 9", "Raise 40"}, what) {
			t.Errorf("P19.4: %s: a Raise wants nothing but the file's own bytes", what)
		}
	}
}
