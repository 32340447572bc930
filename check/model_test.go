package check

import (
	"encoding/binary"
	"fmt"
	"hash/crc32"
	"math/rand"
	"regexp"
	"strings"
	"testing"

	"escrow/api"
	"escrow/disk"
)

func modelName(name string) bool {
	return regexp.MustCompile(`^[!-~]{1,28}$`).MatchString(name)
}

// modelSave is the chapter's words done one by one.
func modelSave(d *disk.Disk, name, payload string) api.Errno {
	if !modelName(name) {
		return api.ErrArg
	}
	if len(payload) > 1048448 {
		return api.ErrLong
	}
	if d.Off() {
		return api.ErrOff
	}
	d.Remove(name + ".tmp")
	if e := d.Write(name+".tmp", 0, laidFor(payload)); e != api.OK {
		return e
	}
	if e := d.Sync(name + ".tmp"); e != api.OK {
		d.Remove(name + ".tmp")
		return e
	}
	d.Rename(name+".tmp", name)
	return api.OK
}

func modelLoad(d *disk.Disk, name string) (string, api.Errno) {
	if !modelName(name) {
		return "", api.ErrArg
	}
	if d.Off() {
		return "", api.ErrOff
	}
	size, e := d.Size(name)
	if e != api.OK {
		return "", api.ErrNone
	}
	text, _ := d.Read(name, 0, size)
	if size < 8 || size > 1048456 || int(binary.BigEndian.Uint32([]byte(text))) != size-8 {
		return "", api.ErrCheck
	}
	sum := crc32.Checksum([]byte(text[:4]+text[8:]), crc32.MakeTable(crc32.Castagnoli))
	if binary.BigEndian.Uint32([]byte(text[4:])) != sum {
		return "", api.ErrCheck
	}
	return text[8:], api.OK
}

// tell is what is seen of a disk, and what is dirty.
func tell(b *strings.Builder, d *disk.Disk) {
	fmt.Fprintln(b, d.Off(), d.Used())
	for _, name := range d.List() {
		text, e := d.Read(name, 0, api.MaxFile)
		fmt.Fprintln(b, name, int(e), d.Dirty(name), len(text), text)
	}
}

// coming is what the coming Writes and Syncs of a disk answer.
func coming(b *strings.Builder, d *disk.Disk) {
	list := d.List()
	if len(list) == 0 {
		return
	}
	writes, syncs := d.Copy(), d.Copy()
	for range 6 {
		fmt.Fprintln(b, int(writes.Write(list[0], 0, "")), int(syncs.Sync(list[0])))
	}
}

// whole is all that may be told of a disk: what is safe too, as a crash without fates leaves it.
func whole(d *disk.Disk) string {
	var b strings.Builder
	tell(&b, d)
	coming(&b, d)
	c := d.Copy()
	c.Crash(nil)
	c.On()
	tell(&b, c)
	return b.String()
}

// player makes the same calls by chance: on one disk those of the package, on another the model's.
type player struct {
	*rand.Rand
	d, e *disk.Disk
	said []string
}

func (p *player) pick(of ...int) int { return of[p.Intn(len(of))] }

func (p *player) text() string {
	b := make([]byte, p.pick(0, 1, 8, 55, 56, 57, 64, p.Intn(300)))
	p.Read(b)
	return string(b)
}

// bytes are such that may stand in a file: whole ones, such with a byte turned, more or fewer, or none.
func (p *player) bytes() string {
	b := []byte(laidFor(p.text()))
	switch p.Intn(6) {
	case 0:
		b[p.Intn(len(b))] ^= byte(1 << p.Intn(8))
	case 1:
		b = append(b, byte(p.Intn(2)))
	case 2:
		b = b[:p.Intn(len(b))]
	case 3:
		return p.text()
	}
	return string(b)
}

func (p *player) name() string {
	return []string{"a", "a", "a", "a.tmp", "a.tmp", "a.tmp.tmp", "b", "b", strings.Repeat("n", 28), strings.Repeat("n", 29), "", "a b", "\x7f"}[p.Intn(13)]
}

func (p *player) fates() []api.Fate {
	var fates []api.Fate
	for range p.Intn(20) {
		fates = append(fates, api.Fate{File: p.name(), Sector: p.Intn(6), Kind: p.pick(-1, 0, 1, 1, 2), Bytes: p.bytes()})
	}
	return fates
}

// both does one thing to both disks, and says what.
func (p *player) both(what string, do func(d *disk.Disk) api.Errno) {
	got, want := do(p.d), do(p.e)
	p.said = append(p.said, fmt.Sprintf("%s: %d", what, want))
	if got != want {
		panic("the disks aren't the same")
	}
}

// disturb is what others do to the disk, and what the world does to its power.
func (p *player) disturb() {
	file, text, n, what := p.name(), p.bytes(), p.Intn(5), p.Intn(3)
	switch p.Intn(10) {
	case 0, 1:
		p.both(fmt.Sprintf("write %q %q", file, text), func(d *disk.Disk) api.Errno {
			d.Remove(file)
			return d.Write(file, 0, text)
		})
	case 2:
		p.both("remove "+file, func(d *disk.Disk) api.Errno { return d.Remove(file) })
	case 3:
		p.both("truncate "+file, func(d *disk.Disk) api.Errno { return d.Truncate(file, 8*n+what) })
	case 4:
		p.both("sync "+file, func(d *disk.Disk) api.Errno { return d.Sync(file) })
	case 5, 6:
		p.both(fmt.Sprint("arm ", n, what), func(d *disk.Disk) api.Errno { d.Arm(n, what); return 0 })
	case 7:
		p.both(fmt.Sprint("fall ", n), func(d *disk.Disk) api.Errno { d.Fall(n); return 0 })
	case 8:
		fates := p.fates()
		p.both(fmt.Sprintf("crash %#v", fates), func(d *disk.Disk) api.Errno { d.Crash(fates); return 0 })
	}
	if p.Intn(3) > 0 && p.e.Off() {
		fates := p.fates()
		p.both(fmt.Sprintf("crash, on %#v", fates), func(d *disk.Disk) api.Errno { d.Crash(fates); d.On(); return 0 })
	}
}

// play makes one call of the package and of the model: do they answer the same?
func (p *player) play() bool {
	name, payload := p.name(), p.text()
	switch p.Intn(4) {
	case 0:
		got, e := Load(p.d, name)
		want, f := modelLoad(p.e, name)
		p.said = append(p.said, fmt.Sprintf("Load(%q): %d", name, f))
		return got == want && e == f
	case 1, 2:
		e, f := Save(p.d, name, payload), modelSave(p.e, name, payload)
		p.said = append(p.said, fmt.Sprintf("Save(%q, %d bytes): %d", name, len(payload), f))
		return e == f
	}
	p.disturb()
	return true
}

// P7.1: both answer as said, on every disk, and do to it what is said and nothing else.
func TestAgainstModel(t *testing.T) {
	seen := map[string]int{}
	for seed := range int64(800) {
		p := &player{Rand: rand.New(rand.NewSource(seed))}
		capacity := p.pick(100, 300, 1000, 1<<20)
		p.d, p.e = made(t, capacity), made(t, capacity)
		for i := range p.pick(0, 0, 0, 13, 15) {
			p.both("write", func(d *disk.Disk) api.Errno { return d.Write(fmt.Sprint("f", i), 0, "") })
		}
		for range 40 {
			if !p.play() || whole(p.d) != whole(p.e) {
				t.Fatalf("P7.1: seed %d: not as the model answers:\n%s", seed, strings.Join(p.said, "\n"))
			}
		}
		for _, s := range p.said {
			call, _, _ := strings.Cut(s, "(")
			_, answer, _ := strings.Cut(s, "): ")
			seen[call+" "+answer]++
		}
	}
	for _, want := range []string{
		"Save 0", "Save 1", "Save 6", "Save 9", "Save 40", "Save 41",
		"Load 0", "Load 1", "Load 5", "Load 9", "Load 70",
	} {
		if seen[want] < 20 {
			t.Errorf("the play had %q %d times", want, seen[want])
		}
	}
}
