package disk

import (
	"fmt"
	"math/rand"
	"slices"
	"sort"
	"strings"
	"testing"

	"escrow/api"
)

// model is the chapter's words done byte by byte, with whole texts in the place of what the disk keeps.
type model struct {
	capacity, arm, what, fall int
	off, open                 bool
	files                     map[string]modelFile
}

type modelFile struct {
	seen, safe string
	dirty      map[int]bool
}

func newModel(capacity int) *model {
	return &model{capacity: capacity, files: map[string]modelFile{}}
}

func (m *model) copy() *model {
	c := *m
	c.files = map[string]modelFile{}
	for name, f := range m.files {
		dirty := map[int]bool{}
		for s := range f.dirty {
			dirty[s] = true
		}
		f.dirty = dirty
		c.files[name] = f
	}
	return &c
}

func modelName(name string) bool {
	bad := strings.IndexFunc(name, func(r rune) bool { return r < '!' || r > '~' })
	return name != "" && len(name) <= 32 && bad < 0
}

func (m *model) used() int {
	n := 0
	for _, f := range m.files {
		n += len(f.seen)
	}
	return n
}

func (m *model) counted(what int) api.Errno {
	if m.fall == 1 {
		m.fall, m.off, m.open = 0, true, true
		return api.ErrOff
	}
	m.fall--
	if m.arm > 0 && (m.what == Any || m.what == what) {
		if m.arm--; m.arm == 0 {
			return api.ErrDisk
		}
	}
	return api.OK
}

func (m *model) write(name string, at int, text string) api.Errno {
	f, known := m.files[name]
	switch {
	case m.off:
		return api.ErrOff
	case !modelName(name) || at < 0 || at > len(f.seen):
		return api.ErrArg
	case at+len(text) > 1048576:
		return api.ErrLong
	case !known && len(m.files) == 16:
		return api.ErrFull
	}
	seen := f.seen[:at] + text
	if len(seen) < len(f.seen) {
		seen += f.seen[len(seen):]
	}
	if m.used()-len(f.seen)+len(seen) > m.capacity {
		return api.ErrSpace
	}
	if e := m.counted(Writes); e != api.OK {
		return e
	}
	if !known {
		f.dirty = map[int]bool{}
	}
	for i := range len(text) {
		f.dirty[(at+i)/64] = true
	}
	f.seen = seen
	m.files[name] = f
	return api.OK
}

func (m *model) sync(name string) api.Errno {
	f, known := m.files[name]
	switch {
	case m.off:
		return api.ErrOff
	case !known:
		return api.ErrNone
	}
	if e := m.counted(Syncs); e != api.OK {
		return e
	}
	m.files[name] = modelFile{f.seen, f.seen, map[int]bool{}}
	return api.OK
}

func (m *model) truncate(name string, size int) api.Errno {
	f, known := m.files[name]
	switch {
	case m.off:
		return api.ErrOff
	case !known:
		return api.ErrNone
	case size < 0 || size > len(f.seen):
		return api.ErrArg
	}
	f.seen, f.safe = f.seen[:size], f.safe[:min(size, len(f.safe))]
	for s := range f.dirty {
		if 64*s >= size {
			delete(f.dirty, s)
		}
	}
	m.files[name] = f
	return api.OK
}

func (m *model) rename(from, to string) api.Errno {
	f, known := m.files[from]
	switch {
	case m.off:
		return api.ErrOff
	case !known:
		return api.ErrNone
	case !modelName(to):
		return api.ErrArg
	case from != to:
		m.files[to] = f
		delete(m.files, from)
	}
	return api.OK
}

func (m *model) remove(name string) api.Errno {
	if m.off {
		return api.ErrOff
	}
	if _, known := m.files[name]; !known {
		return api.ErrNone
	}
	delete(m.files, name)
	return api.OK
}

func (m *model) doArm(n, what int) {
	m.arm, m.what = n, what
	if n < 1 || what < 0 || what > 2 {
		m.arm = 0
	}
}

func (m *model) doFall(n int) { m.fall = max(n, 0) }

func (m *model) crash(fates []api.Fate) {
	if m.off && !m.open {
		return
	}
	m.off, m.open, m.arm, m.fall = true, false, 0, 0
	for name, f := range m.files {
		left := leftOf(name, f, fates)
		m.files[name] = modelFile{left, left, map[int]bool{}}
	}
}

func leftOf(name string, f modelFile, fates []api.Fate) string {
	fate := map[int]api.Fate{}
	for s := range f.dirty {
		for _, x := range fates {
			if x.File == name && x.Sector == s {
				fate[s] = x
				break
			}
		}
	}
	length := len(f.safe)
	for s := range f.dirty {
		if k := fate[s].Kind; k == 1 || k == 2 {
			length = max(length, min(64*s+64, len(f.seen)))
		}
	}
	left := make([]byte, length)
	for i := range left {
		x := fate[i/64]
		switch {
		case !f.dirty[i/64] || x.Kind == 1:
			left[i] = f.seen[i]
		case x.Kind == 2 && i%64 < len(x.Bytes):
			left[i] = x.Bytes[i%64]
		case x.Kind != 2 && i < len(f.safe):
			left[i] = f.safe[i]
		}
	}
	return string(left)
}

func (m *model) on() {
	if m.open {
		m.crash(nil)
	}
	m.off = false
}

// tell is all that may be asked of the model, as tell of a disk has it.
func (m *model) tell(names []string) string {
	var b strings.Builder
	fmt.Fprintln(&b, m.off, m.used())
	var list []string
	for name := range m.files {
		list = append(list, name)
	}
	sort.Strings(list)
	if m.off {
		list = nil
	}
	fmt.Fprintf(&b, "%q\n", list)
	for _, name := range names {
		f, known := m.files[name]
		switch {
		case m.off:
			fmt.Fprintf(&b, "%q %d %d %d\n", name, api.ErrOff, api.ErrOff, []int{})
		case !known:
			fmt.Fprintf(&b, "%q %d %d %d\n", name, api.ErrNone, api.ErrNone, []int{})
		default:
			dirty := []int{}
			for s := range (len(f.seen) + 63) / 64 {
				if f.dirty[s] {
					dirty = append(dirty, s)
				}
			}
			fmt.Fprintf(&b, "%q %d %q %d\n", name, len(f.seen), f.seen, dirty)
		}
	}
	return b.String()
}

func tell(d *Disk, names []string) string {
	var b strings.Builder
	fmt.Fprintln(&b, d.Off(), d.Used())
	fmt.Fprintf(&b, "%q\n", d.List())
	for _, name := range names {
		fmt.Fprintf(&b, "%q ", name)
		n, e := d.Size(name)
		text, f := d.Read(name, 0, 1<<30)
		if e != api.OK || f != api.OK {
			fmt.Fprintf(&b, "%d %d", e, f)
		} else {
			fmt.Fprintf(&b, "%d %q", n, text)
		}
		fmt.Fprintf(&b, " %d\n", d.Dirty(name))
	}
	return b.String()
}

// safeOf tells what a crash without fates would leave: so are the safe bytes seen.
func safeOf(d *Disk, names []string) string {
	c := d.Copy()
	c.Crash(nil)
	c.On()
	return tell(c, names)
}

func (m *model) safeOf(names []string) string {
	c := m.copy()
	c.crash(nil)
	c.on()
	return c.tell(names)
}

// all tells all that is seen, safe or dirty, and the names.
func all(d *Disk, names []string) string {
	return tell(d, names) + safeOf(d, names)
}

// player makes calls by chance, on a disk and on the model of it.
type player struct {
	*rand.Rand
	d     *Disk
	m     *model
	names []string
}

func (p *player) name() string { return p.names[p.Intn(len(p.names))] }

// near is a number at or about n, or below it.
func (p *player) near(n int) int {
	switch p.Intn(6) {
	case 0:
		return n + 1
	case 1:
		return n - 1
	case 2:
		return p.Intn(n+1) / 64 * 64
	case 3:
		return p.Intn(n + 1)
	}
	return n
}

func (p *player) text() string {
	n := []int{0, 1, 2, 63, 64, 65, 128, 130, p.Intn(300)}[p.Intn(9)]
	b := make([]byte, n)
	for i := range b {
		b[i] = byte(1 + p.Intn(255))
	}
	return string(b)
}

func (p *player) fates() []api.Fate {
	var fates []api.Fate
	for range p.Intn(12) {
		fates = append(fates, api.Fate{File: p.name(), Sector: p.Intn(8) - 1, Kind: p.Intn(5) - 1, Bytes: p.text()})
	}
	return fates
}

// play makes one call, and says which, and what the disk and the model answer.
func (p *player) play() (string, api.Errno, api.Errno) {
	name := p.name()
	size := len(p.m.files[name].seen)
	switch p.Intn(16) {
	case 0, 1, 2, 3, 4:
		at, text := p.near(size), p.text()
		return fmt.Sprintf("Write(%q, %d, %d bytes)", name, at, len(text)), p.d.Write(name, at, text), p.m.write(name, at, text)
	case 5, 6, 7:
		return fmt.Sprintf("Sync(%q)", name), p.d.Sync(name), p.m.sync(name)
	case 8, 9:
		n := p.near(size)
		return fmt.Sprintf("Truncate(%q, %d)", name, n), p.d.Truncate(name, n), p.m.truncate(name, n)
	case 10:
		to := p.name()
		return fmt.Sprintf("Rename(%q, %q)", name, to), p.d.Rename(name, to), p.m.rename(name, to)
	case 11:
		if p.Intn(3) > 0 {
			return p.look(name)
		}
		return fmt.Sprintf("Remove(%q)", name), p.d.Remove(name), p.m.remove(name)
	case 12:
		n, what := p.Intn(5), p.Intn(5)-1
		p.d.Arm(n, what)
		p.m.doArm(n, what)
		return fmt.Sprintf("Arm(%d, %d)", n, what), 0, 0
	case 13:
		n := p.Intn(8) - 1
		p.d.Fall(n)
		p.m.doFall(n)
		return fmt.Sprintf("Fall(%d)", n), 0, 0
	case 14:
		fates := p.fates()
		p.d.Crash(fates)
		p.m.crash(fates)
		return fmt.Sprintf("Crash(%#v)", fates), 0, 0
	}
	p.d.On()
	p.m.on()
	return "On()", 0, 0
}

// look reads a piece of a file: its text is told as its length alone, its bytes are held against the model here.
func (p *player) look(name string) (string, api.Errno, api.Errno) {
	f, known := p.m.files[name]
	at, n := p.near(len(f.seen)), p.near(p.Intn(100))
	got, e := p.d.Read(name, at, n)
	want, w := "", api.OK
	switch {
	case p.m.off:
		w = api.ErrOff
	case !known:
		w = api.ErrNone
	case at < 0 || n < 0:
		w = api.ErrArg
	default:
		for i := at; i < len(f.seen) && i < at+n; i++ {
			want += f.seen[i : i+1]
		}
	}
	if got != want {
		e = -1
	}
	return fmt.Sprintf("Read(%q, %d, %d)", name, at, n), e, w
}

func (p *player) names16() []string {
	names := []string{"", "a b", "\x80", "none"}
	for i := range 15 {
		names = append(names, fmt.Sprint("f", i))
	}
	return names
}

func TestEveryOrder(t *testing.T) {
	for seed := range int64(600) {
		p := &player{Rand: rand.New(rand.NewSource(seed))}
		p.names = []string{"a", "b", "c", "c", "a", ""}
		if seed%5 == 0 {
			p.names = p.names16()
		}
		capacity := []int{0, 10, 300, 1000, 5000, 16777216}[p.Intn(6)]
		p.d, _ = New(capacity)
		p.m = newModel(capacity)
		var other *Disk
		var model *model
		said := ""
		for range 120 {
			what, got, want := p.play()
			said += what + "\n"
			if got != want {
				t.Fatalf("P4.1: the last of these answers %d, want %d:\n%s", got, want, said)
			}
			if got, want := all(p.d, p.names), p.m.tell(p.names)+p.m.safeOf(p.names); got != want {
				t.Fatalf("P4.1: behind these calls there is\n%swant\n%s\n%s", got, want, said)
			}
			switch p.Intn(20) {
			case 0:
				other, model = p.d.Copy(), p.m.copy()
			case 1:
				if other == nil {
					continue
				}
				// From here on the calls are made on the copy: it must have heard nothing of those in between.
				p.d, other = other, p.d
				p.m, model = model, p.m
				said += "the copy\n"
				if got, want := all(p.d, p.names), p.m.tell(p.names)+p.m.safeOf(p.names); got != want {
					t.Fatalf("P4.5: the copy has\n%swant\n%s\n%s", got, want, said)
				}
			}
		}
	}
}

// TestWhatMayCome holds P4.3 by its own words, not by the model.
func TestWhatMayCome(t *testing.T) {
	for seed := range int64(400) {
		p := &player{Rand: rand.New(rand.NewSource(seed)), names: []string{"a", "b", "c"}}
		p.d, _ = New(5000)
		p.m = newModel(5000)
		for range 60 {
			p.play()
		}
		p.d.On()
		fates := p.fates()
		behind := p.d.Copy()
		behind.Crash(fates)
		behind.On()
		none := p.d.Copy()
		none.Crash(nil)
		none.On()
		for _, name := range p.d.List() {
			seen, _ := p.d.Read(name, 0, 5000)
			safe, _ := none.Read(name, 0, 5000)
			left, e := behind.Read(name, 0, 5000)
			dirty := p.d.Dirty(name)
			if e != api.OK || len(left) > len(seen) || len(left) < len(safe) {
				t.Fatalf("P4.3: seed %d: %q has %d bytes behind a crash (%d), seen %d, safe %d", seed, name, len(left), e, len(seen), len(safe))
			}
			if len(dirty) == 0 && left != seen {
				t.Fatalf("P4.3: seed %d: %q has no dirty sector, but was %q and is %q", seed, name, seen, left)
			}
			for s := 0; 64*s < len(left); s++ {
				if !mayCome(s, left, seen, safe, slices.Contains(dirty, s), name, fates) {
					t.Fatalf("P4.3: seed %d: sector %d of %q is of no one kind", seed, s, name)
				}
			}
		}
	}
}

func mayCome(s int, left, seen, safe string, dirty bool, name string, fates []api.Fate) bool {
	end := min(64*s+64, len(left))
	piece := func(text string) string {
		from := min(64*s, len(text))
		return text[from:min(end, len(text))] + strings.Repeat("\x00", end-max(from, min(end, len(text))))
	}
	if !dirty {
		return left[64*s:end] == piece(seen)
	}
	if left[64*s:end] == piece(seen) || left[64*s:end] == piece(safe) {
		return true
	}
	for _, f := range fates {
		if f.File == name && f.Sector == s && left[64*s:end] == piece(strings.Repeat("x", 64*s)+f.Bytes) {
			return true
		}
	}
	return strings.Trim(left[64*s:end], "\x00") == ""
}
