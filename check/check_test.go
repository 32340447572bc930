package check

import (
	"encoding/binary"
	"fmt"
	"hash/crc32"
	"slices"
	"strings"
	"testing"
	"unsafe"

	"escrow/api"
	"escrow/disk"
)

func made(t *testing.T, capacity int) *disk.Disk {
	t.Helper()
	d, e := disk.New(capacity)
	if d == nil || e != api.OK {
		t.Fatalf("disk.New(%d) answers %d", capacity, e)
	}
	return d
}

func is(t *testing.T, what string, got, want api.Errno) {
	t.Helper()
	if got != want {
		t.Fatalf("%s answers %d, want %d", what, got, want)
	}
}

func saves(t *testing.T, d *disk.Disk, name, payload string) {
	t.Helper()
	is(t, fmt.Sprintf("P7.1: Save(%q, %d bytes)", name, len(payload)), Save(d, name, payload), api.OK)
}

// loads: Load tells this payload, and does nothing to the disk.
func loads(t *testing.T, what string, d *disk.Disk, name, want string) {
	t.Helper()
	before := whole(d)
	if got, e := Load(d, name); got != want || e != api.OK {
		t.Fatalf("%s: Load(%q) = %.100q, %d, want %.100q", what, name, got, e, want)
	}
	if whole(d) != before {
		t.Fatalf("P7.1: %s: Load(%q) changed the disk", what, name)
	}
}

// fails: Load answers this error and no payload, and does nothing to the disk.
func fails(t *testing.T, what string, d *disk.Disk, name string, want api.Errno) {
	t.Helper()
	before := whole(d)
	if got, e := Load(d, name); got != "" || e != want {
		t.Fatalf("%s: Load(%q) = %.100q, %d, want %d", what, name, got, e, want)
	}
	if whole(d) != before {
		t.Fatalf("P7.1: %s: Load(%q), refused, changed the disk", what, name)
	}
}

// refused: Save answers this error, and leaves the disk as it was.
func refused(t *testing.T, what string, d *disk.Disk, name, payload string, want api.Errno) {
	t.Helper()
	before := whole(d)
	is(t, fmt.Sprintf("%s: Save(%q, %d bytes)", what, name, len(payload)), Save(d, name, payload), want)
	if whole(d) != before {
		t.Fatalf("P7.1: %s: Save(%q), refused with %d, changed the disk", what, name, want)
	}
}

func lists(t *testing.T, what string, d *disk.Disk, want ...string) {
	t.Helper()
	if got := d.List(); !slices.Equal(got, want) {
		t.Fatalf("%s: the disk has %q, want %q", what, got, want)
	}
}

func crash(d *disk.Disk, fates ...api.Fate) {
	d.Crash(fates)
	d.On()
}

func x(n int) string { return strings.Repeat("x", n) }

// laidFor is the chapter's bytes of a payload, with the library's sum.
func laidFor(payload string) string {
	length := binary.BigEndian.AppendUint32(nil, uint32(len(payload)))
	sum := crc32.Checksum(append(slices.Clone(length), payload...), crc32.MakeTable(crc32.Castagnoli))
	return string(binary.BigEndian.AppendUint32(length, sum)) + payload
}

// holds: the file has just these bytes, all safe.
func holds(t *testing.T, what string, d *disk.Disk, name, want string) {
	t.Helper()
	c := d.Copy()
	c.Arm(0, disk.Any)
	c.Fall(0)
	got, e := c.Read(name, 0, api.MaxFile)
	if got != want || e != api.OK || len(c.Dirty(name)) != 0 {
		t.Fatalf("%s: the file %q has % .100x (%d), %d sectors dirty, want % .100x", what, name, got, e, len(c.Dirty(name)), want)
	}
	crash(c)
	if got, e := c.Read(name, 0, api.MaxFile); got != want || e != api.OK {
		t.Fatalf("%s: of the file %q % .100x (%d) is safe, want % .100x", what, name, got, e, want)
	}
}

func TestExample1(t *testing.T) {
	d := made(t, 1000)
	saves(t, d, "c", "ab")
	holds(t, "P7.1", d, "c", laidFor("ab"))
	if got, _ := d.Read("c", 0, 99); len(got) != 10 || got[:4] != "\x00\x00\x00\x02" || got[8:] != "ab" {
		t.Fatalf("P7.1: the file has % x", got)
	}
	lists(t, "P7.1", d, "c")
	loads(t, "P7.3", d, "c", "ab")
	saves(t, d, "c", "")
	lists(t, "P7.1", d, "c")
	holds(t, "P7.1", d, "c", laidFor(""))
	loads(t, "P7.3", d, "c", "")
}

func TestExample2(t *testing.T) {
	for n := 1; n <= 2; n++ {
		for kind := range 3 {
			d := made(t, 1000)
			saves(t, d, "c", "")
			d.Fall(n)
			is(t, "P7.2: Save", Save(d, "c", "new"), api.ErrOff)
			crash(d, api.Fate{File: "c.tmp", Kind: kind, Bytes: "junk"}, api.Fate{File: "c", Kind: kind, Bytes: "junk"})
			loads(t, "P7.2", d, "c", "")
		}
	}
}

func TestExample3(t *testing.T) {
	d := made(t, 1000)
	saves(t, d, "c", "")
	d.Arm(1, disk.Syncs)
	is(t, "P7.2: Save, the Sync refused", Save(d, "c", "new"), api.ErrDisk)
	lists(t, "P7.1", d, "c")
	loads(t, "P7.2", d, "c", "")
	fails(t, "P7.1", d, "q", api.ErrNone)
	saves(t, d, "c", "text")
	c := d.Copy()
	c.Write("c", 9, "E")
	fails(t, "P7.1: a byte turned", c, "c", api.ErrCheck)
	c = d.Copy()
	c.Write("c", 12, "t")
	fails(t, "P7.1: a byte more", c, "c", api.ErrCheck)
	c = d.Copy()
	c.Truncate("c", 11)
	fails(t, "P7.1: a byte fewer", c, "c", api.ErrCheck)
	loads(t, "P7.3", d, "c", "text")
}

func TestExample4(t *testing.T) {
	d := made(t, 1<<22)
	refused(t, "P7.1", d, "", "text", api.ErrArg)
	fails(t, "P7.1", d, strings.Repeat("n", 29), api.ErrArg)
	refused(t, "P7.1", d, "c", x(1048449), api.ErrLong)
	fails(t, "P7.1", d, "c", api.ErrNone)
}

// tries: a Save and a Load under a name answer OK, or ErrArg, as it is one or not.
func tries(t *testing.T, d *disk.Disk, name string, good bool) {
	t.Helper()
	if !good {
		refused(t, "P7.1", d, name, "text", api.ErrArg)
		fails(t, "P7.1", d, name, api.ErrArg)
		return
	}
	fails(t, "P7.1", d, name, api.ErrNone)
	saves(t, d, name, "text")
	lists(t, "P7.1", d, name)
	loads(t, "P7.3", d, name, "text")
	is(t, "Remove", d.Remove(name), api.OK)
}

func TestNames(t *testing.T) {
	d := made(t, 1000)
	for c := range 256 {
		b := string([]byte{byte(c)})
		for _, name := range []string{b, "a" + b, b + "a", "a" + b + "a", strings.Repeat("n", 27) + b} {
			tries(t, d, name, c >= 33 && c <= 126)
		}
	}
	for n, good := range map[int]bool{0: false, 1: true, 2: true, 27: true, 28: true, 29: false, 32: false, 33: false, 5000: false} {
		tries(t, d, strings.Repeat("n", n), good)
	}
	tries(t, d, "\u00e9", false)
	tries(t, d, strings.Repeat("n", 24)+".tmp", true)
}

// P7.1: a file of the disk whose name is none of check's isn't told, though it is whole.
func TestNamesOfTheDiskAlone(t *testing.T) {
	d := made(t, 1000)
	for n := 29; n <= 32; n++ {
		name := strings.Repeat("n", n)
		is(t, "Write", d.Write(name, 0, laidFor("text")), api.OK)
		is(t, "Sync", d.Sync(name), api.OK)
		fails(t, "P7.1", d, name, api.ErrArg)
		refused(t, "P7.1", d, name, "text", api.ErrArg)
	}
}

func TestPayloads(t *testing.T) {
	d := made(t, 1<<22)
	many := make([]byte, 1048448)
	for i := range many {
		many[i] = byte(i * i / 7)
	}
	for _, n := range []int{0, 1, 2, 55, 56, 57, 64, 119, 120, 121, 255, 256, 65535, 65536, 65537, 1048447, 1048448} {
		payload := string(many[:n])
		saves(t, d, "c", payload)
		lists(t, "P7.1", d, "c")
		holds(t, "P7.1", d, "c", laidFor(payload))
		loads(t, "P7.3", d, "c", payload)
	}
	for _, n := range []int{1048449, 1048450, 1048568, 1048576, 1048577, 2000000} {
		refused(t, "P7.1", d, "c", x(n), api.ErrLong)
	}
	loads(t, "P7.2: behind ErrLong", d, "c", string(many))
}

// P7.1: the first of several errors that the chapter names is answered.
func TestOrderOfErrors(t *testing.T) {
	for _, off := range []bool{false, true} {
		d := made(t, 20)
		d.Write("c", 0, "not whole")
		d.Write("c.tmp", 0, "left")
		d.Fall(1)
		d.Arm(1, disk.Any)
		if off {
			d.Crash(nil)
		}
		for _, name := range []string{"", "a b", strings.Repeat("n", 29)} {
			refused(t, "P7.1", d, name, x(1048449), api.ErrArg)
			refused(t, "P7.1", d, name, "text", api.ErrArg)
			fails(t, "P7.1", d, name, api.ErrArg)
		}
		refused(t, "P7.1", d, "c", x(1048449), api.ErrLong)
		if !off {
			fails(t, "P7.1", d, "q", api.ErrNone)
			fails(t, "P7.1", d, "c", api.ErrCheck)
			continue
		}
		refused(t, "P7.1", d, "c", "text", api.ErrOff)
		refused(t, "P7.1", d, "c", x(1000), api.ErrOff)
		fails(t, "P7.1", d, "c", api.ErrOff)
		fails(t, "P7.1", d, "q", api.ErrOff)
		d.On()
		if text, e := d.Read("c.tmp", 0, 99); text != "" || e != api.OK {
			t.Fatalf("P7.1: the draft of a disk that is off is %q, %d", text, e)
		}
	}
}

// P7.1: of two names one may be the other's draft: then the file of that name is what a Save of the other takes away.
func TestNamesThatAreDrafts(t *testing.T) {
	d := made(t, 1<<20)
	saves(t, d, "c.tmp", "under the draft's name")
	lists(t, "P7.1", d, "c.tmp")
	fails(t, "P7.1: a draft is not looked at", d, "c", api.ErrNone)
	saves(t, d, "c", "its own")
	lists(t, "P7.1", d, "c")
	fails(t, "P7.1", d, "c.tmp", api.ErrNone)
	saves(t, d, "c.tmp", "again")
	saves(t, d, "c.tmp.tmp", "and again")
	lists(t, "P7.1", d, "c", "c.tmp", "c.tmp.tmp")
	loads(t, "P7.3", d, "c", "its own")
	loads(t, "P7.3", d, "c.tmp", "again")
	loads(t, "P7.3", d, "c.tmp.tmp", "and again")
	saves(t, d, "c.tmp", "third")
	lists(t, "P7.1", d, "c", "c.tmp")
	loads(t, "P7.3", d, "c", "its own")
	loads(t, "P7.3", d, "c.tmp", "third")
	d.Arm(1, disk.Writes)
	is(t, "P7.1: Save, the Write refused", Save(d, "c", "new"), api.ErrDisk)
	lists(t, "P7.1", d, "c")
	loads(t, "P7.2", d, "c", "its own")
}

// P7.1: what stands in the draft, whole or not, longer or shorter, leaves nothing in the file, and Load goes by the file alone.
func TestDraftIsThere(t *testing.T) {
	for _, left := range []string{"", "left", x(300), laidFor("left"), laidFor(x(300)), laidFor("new")} {
		for _, synced := range []bool{false, true} {
			for _, payload := range []string{"", "new", x(100), x(500)} {
				d := made(t, 1<<20)
				d.Write("c.tmp", 0, left)
				if synced {
					d.Sync("c.tmp")
				}
				fails(t, "P7.1: a draft alone", d, "c", api.ErrNone)
				saves(t, d, "c", payload)
				lists(t, "P7.1", d, "c")
				holds(t, "P7.1", d, "c", laidFor(payload))
				d.Write("c.tmp", 0, left)
				loads(t, "P7.3: beside a draft", d, "c", payload)
				d.Remove("c")
				fails(t, "P7.1: a draft alone", d, "c", api.ErrNone)
			}
		}
	}
}

// P7.3: names have nothing to do with one another, and what stands in the place of a file doesn't matter.
func TestManyNames(t *testing.T) {
	d := made(t, 1<<20)
	d.Write("n3", 0, x(999))
	for round := range 3 {
		for i := range 10 {
			saves(t, d, fmt.Sprint("n", i), x(100*round+i))
		}
		for i := range 10 {
			loads(t, "P7.3", d, fmt.Sprint("n", i), x(100*round+i))
		}
	}
	if len(d.List()) != 10 {
		t.Errorf("P7.1: the disk has %q", d.List())
	}
}

// R3: neither the name nor the payload is kept, and what is answered is new memory.
func TestMemory(t *testing.T) {
	d := made(t, 1000)
	name, payload := []byte("name"), []byte("payload")
	saves(t, d, unsafe.String(&name[0], len(name)), unsafe.String(&payload[0], len(payload)))
	copy(name, "xxxx")
	copy(payload, "xxxxxxx")
	lists(t, "R3", d, "name")
	first, _ := Load(d, "name")
	second, _ := Load(d, "name")
	if first != "payload" || second != "payload" || unsafe.StringData(first) == unsafe.StringData(second) {
		t.Fatalf("R3: Load tells %q and %q", first, second)
	}
	saves(t, d, "name", "another")
	d.Write("name", 8, "written")
	if first != "payload" || second != "payload" {
		t.Fatalf("R3: what was answered is now %q and %q", first, second)
	}
}

// R4: nothing is kept from call to call but on the disk: a copy of it goes on alike.
func TestNothingIsKept(t *testing.T) {
	d := made(t, 1000)
	saves(t, d, "c", "one")
	other := d.Copy()
	saves(t, d, "c", "two")
	loads(t, "P7.3", other, "c", "one")
	saves(t, other, "c", "two")
	if whole(d) != whole(other) {
		t.Fatal("R4: the two disks aren't alike")
	}
}
