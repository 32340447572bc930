package mark

import (
	"encoding/binary"
	"fmt"
	"hash/crc32"
	"math"
	"math/rand"
	"strings"
	"testing"

	"escrow/api"
	"escrow/disk"
)

// model is the chapter's words done one by one.
type model struct {
	d     *disk.Disk
	name  string
	value int64
	next  int
}

// modelSlot is a slot's value, and whether it is whole.
func modelSlot(text string) (int64, bool) {
	v := int64(binary.BigEndian.Uint64([]byte(text)))
	sum := binary.BigEndian.Uint32([]byte(text[8:]))
	return v, v >= -1 && v <= 281474976710655 && sum == crc32.Checksum([]byte(text[:8]), crc32.MakeTable(crc32.Castagnoli))
}

// firstError makes calls till one answers an error.
func firstError(calls ...func() api.Errno) api.Errno {
	for _, call := range calls {
		if e := call(); e != api.OK {
			return e
		}
	}
	return api.OK
}

func modelNew(d *disk.Disk, name string) (*model, api.Errno) {
	spare := name + ".tmp"
	e := firstError(
		func() api.Errno {
			e := d.Remove(spare)
			if e == api.ErrNone {
				return api.OK
			}
			return e
		},
		func() api.Errno { return d.Write(spare, 0, of(-1)+of(-1)) },
		func() api.Errno { return d.Sync(spare) },
		func() api.Errno { return d.Rename(spare, name) },
	)
	if e != api.OK {
		return nil, e
	}
	return &model{d: d, name: name, value: -1, next: 1}, api.OK
}

func modelOpen(d *disk.Disk, name string) (*model, api.Errno) {
	size, e := d.Size(name)
	if e == api.ErrNone {
		return modelNew(d, name)
	}
	if e != api.OK {
		return nil, e
	}
	if size != 128 {
		return nil, api.ErrMark
	}
	text, e := d.Read(name, 0, 128)
	if e != api.OK {
		return nil, e
	}
	m := &model{d: d, name: name, value: -2, next: 1}
	zero, zeroWhole := modelSlot(text[:64])
	one, oneWhole := modelSlot(text[64:])
	if zeroWhole {
		m.value = max(m.value, zero)
	}
	if oneWhole {
		m.value = max(m.value, one)
	}
	if m.value == -2 {
		return nil, api.ErrMark
	}
	if oneWhole && !zeroWhole || oneWhole && zero < one {
		m.next = 0
	}
	if e := d.Sync(name); e != api.OK {
		return nil, e
	}
	return m, api.OK
}

func (m *model) raise(n int64) api.Errno {
	if n < -1 || n > 281474976710655 {
		return api.ErrArg
	}
	if n <= m.value {
		return api.OK
	}
	e := firstError(
		func() api.Errno { return m.d.Write(m.name, 64*m.next, of(n)) },
		func() api.Errno { return m.d.Sync(m.name) },
	)
	if e == api.OK {
		m.value = n
		m.next = 1 - m.next
	}
	return e
}

// tell is what is seen of a disk, and what is dirty.
func tell(b *strings.Builder, d *disk.Disk) {
	fmt.Fprintln(b, d.Off(), d.Used())
	for _, name := range d.List() {
		text, e := d.Read(name, 0, api.MaxFile)
		fmt.Fprintln(b, name, int(e), d.Dirty(name), len(text), text)
	}
}

// coming is what the coming Writes and Syncs of a disk answer.
func coming(b *strings.Builder, d *disk.Disk) {
	c := d.Copy()
	c.On()
	name := "probe"
	if list := c.List(); len(list) > 0 {
		name = list[0]
	}
	writes, syncs := c.Copy(), c.Copy()
	for range 6 {
		fmt.Fprintln(b, int(writes.Write(name, 0, "")), int(syncs.Sync(name)))
	}
}

// whole is all that may be told of a disk: what is safe too, as a crash without fates leaves it.
func whole(d *disk.Disk) string {
	var b strings.Builder
	tell(&b, d)
	coming(&b, d)
	c := d.Copy()
	c.Crash(nil)
	c.On()
	tell(&b, c)
	return b.String()
}

// player makes the same calls by chance: on one disk those of the package, on another the model's.
type player struct {
	*rand.Rand
	d, e   *disk.Disk
	marks  []*Mark
	models []*model
	said   []string
}

func pick[T any](p *player, of ...T) T { return of[p.Intn(len(of))] }

func (p *player) number() int64 {
	return pick(p, math.MinInt64, -2, -1, 0, 1, 2, 3, int64(p.Intn(10)), int64(p.Intn(100)), int64(p.Intn(1000)), p.Int63n(1<<48), maxIndex-1, maxIndex, maxIndex+1, math.MaxInt64)
}

// sector is such as may stand in a file: a slot, one with a bit turned, one with a rest, junk or zeros.
func (p *player) sector() string {
	b := []byte(of(p.number()))
	switch p.Intn(8) {
	case 0:
		b[p.Intn(13)] ^= 1 << p.Intn(8)
	case 1:
		p.Read(b[12:])
	case 2:
		p.Read(b)
	case 3:
		clear(b)
	}
	return string(b)
}

func (p *player) bytes() string {
	text := p.sector() + p.sector()
	switch p.Intn(8) {
	case 0:
		return text[:p.Intn(128)]
	case 1:
		return text + p.sector()[:1+p.Intn(63)]
	}
	return text
}

func (p *player) name() string {
	return pick(p, "m", "m", "m", "m", "n", "n", "m.tmp", "m.tmp", "n.tmp", "m.tmp.tmp", strings.Repeat("n", 28), strings.Repeat("n", 29), strings.Repeat("n", 33), "", ".tmp", "a b", "\x7f")
}

func (p *player) fates() []api.Fate {
	var fates []api.Fate
	for range p.Intn(20) {
		fates = append(fates, api.Fate{File: p.name(), Sector: p.Intn(3), Kind: pick(p, -1, 0, 1, 1, 2), Bytes: p.sector()})
	}
	return fates
}

// both does one thing to both disks, and says what.
func (p *player) both(what string, do func(d *disk.Disk) api.Errno) {
	got, want := do(p.d), do(p.e)
	p.said = append(p.said, fmt.Sprintf("%s: %d", what, want))
	if got != want {
		panic("the disks aren't the same")
	}
}

// disturb is what others do to the disk, and what the world does to its power.
func (p *player) disturb() {
	file, text, n, what := p.name(), p.bytes(), p.Intn(5), p.Intn(3)
	switch p.Intn(10) {
	case 0, 1:
		p.both(fmt.Sprintf("write %q %q", file, text), func(d *disk.Disk) api.Errno {
			d.Remove(file)
			return d.Write(file, 0, text)
		})
	case 2:
		p.both("remove "+file, func(d *disk.Disk) api.Errno { return d.Remove(file) })
	case 3:
		p.both("truncate "+file, func(d *disk.Disk) api.Errno { return d.Truncate(file, 64*n/2) })
	case 4:
		p.both("sync "+file, func(d *disk.Disk) api.Errno { return d.Sync(file) })
	case 5, 6:
		p.both(fmt.Sprint("arm ", n, what), func(d *disk.Disk) api.Errno { d.Arm(n, what); return 0 })
	case 7:
		p.both(fmt.Sprint("fall ", n), func(d *disk.Disk) api.Errno { d.Fall(n); return 0 })
	case 8:
		fates := p.fates()
		p.both(fmt.Sprintf("crash %#v", fates), func(d *disk.Disk) api.Errno { d.Crash(fates); return 0 })
	}
	if p.Intn(3) > 0 && p.e.Off() {
		fates := p.fates()
		p.both(fmt.Sprintf("crash, on %#v", fates), func(d *disk.Disk) api.Errno { d.Crash(fates); d.On(); return 0 })
	}
}

func (p *player) open() bool {
	name := p.name()
	m, e := Open(p.d, name)
	k, f := modelOpen(p.e, name)
	p.said = append(p.said, fmt.Sprintf("Open(%q): %d", name, f))
	if k != nil {
		p.marks, p.models = append(p.marks, m), append(p.models, k)
	}
	return e == f && (m == nil) == (k == nil)
}

// raise is of any mark that was ever opened, be there another of the same file.
func (p *player) raise() bool {
	if len(p.marks) == 0 {
		return true
	}
	i, n := len(p.marks)-1, p.number()
	if p.Intn(3) == 0 {
		i = p.Intn(len(p.marks))
	}
	if p.Intn(3) == 0 && p.models[i].value < maxIndex {
		n = p.models[i].value + 1
	}
	e, f := p.marks[i].Raise(n), p.models[i].raise(n)
	p.said = append(p.said, fmt.Sprintf("Raise(%d of %d, %d): %d", i, len(p.marks), n, f))
	return e == f
}

// play makes one call of the package and of the model: do they answer the same?
func (p *player) play() bool {
	switch p.Intn(4) {
	case 0:
		return p.open()
	case 1, 2:
		return p.raise()
	}
	p.disturb()
	return true
}

// alike: all marks tell what their models tell.
func (p *player) alike() bool {
	for i, m := range p.marks {
		if m.Value() != p.models[i].value {
			return false
		}
	}
	return whole(p.d) == whole(p.e)
}

// P19.1: every call answers as said, in every order, and does to the disk what is said and nothing else.
func TestAgainstModel(t *testing.T) {
	seen := map[string]int{}
	for seed := range int64(1500) {
		p := &player{Rand: rand.New(rand.NewSource(seed))}
		capacity := pick(p, 100, 128, 300, 1000, 1<<20)
		p.d, p.e = made(t, capacity), made(t, capacity)
		for i := range pick(p, 0, 0, 0, 13, 15) {
			p.both("write", func(d *disk.Disk) api.Errno { return d.Write(fmt.Sprint("f", i), 0, "") })
		}
		for range 60 {
			if !p.play() || !p.alike() {
				t.Fatalf("P19.1: seed %d: not as the model answers:\n%s", seed, strings.Join(p.said, "\n"))
			}
		}
		for _, s := range p.said {
			call, _, _ := strings.Cut(s, "(")
			_, answer, _ := strings.Cut(s, "): ")
			seen[call+" "+answer]++
		}
	}
	for _, want := range []string{
		"Open 0", "Open 1", "Open 6", "Open 9", "Open 40", "Open 41", "Open 190",
		"Raise 0", "Raise 1", "Raise 6", "Raise 9", "Raise 40", "Raise 41",
	} {
		if seen[want] < 20 {
			t.Errorf("the play had %q %d times", want, seen[want])
		}
	}
}
