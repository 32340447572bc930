package mark

import (
	"encoding/binary"
	"fmt"
	"hash/crc32"
	"math"
	"slices"
	"strings"
	"testing"
	"unsafe"

	"escrow/api"
	"escrow/disk"
)

const maxIndex = 281474976710655

func made(t *testing.T, capacity int) *disk.Disk {
	t.Helper()
	d, e := disk.New(capacity)
	if d == nil || e != api.OK {
		t.Fatalf("disk.New(%d) answers %d", capacity, e)
	}
	return d
}

// laid is a disk with the file m of these bytes, all safe.
func laid(t *testing.T, text string) *disk.Disk {
	t.Helper()
	d := made(t, 10000)
	is(t, "Write", d.Write("m", 0, text), api.OK)
	is(t, "Sync", d.Sync("m"), api.OK)
	return d
}

func is(t *testing.T, what string, got, want api.Errno) {
	t.Helper()
	if got != want {
		t.Fatalf("%s answers %d, want %d", what, got, want)
	}
}

// opens: Open is OK, and tells a mark of this value.
func opens(t *testing.T, what string, d *disk.Disk, name string, want int64) *Mark {
	t.Helper()
	m, e := Open(d, name)
	if m == nil || e != api.OK {
		t.Fatalf("%s: Open(%q) = %v, %d", what, name, m, e)
	}
	values(t, what, m, want)
	return m
}

// fails: Open tells this error and no mark.
func fails(t *testing.T, what string, d *disk.Disk, name string, want api.Errno) {
	t.Helper()
	if m, e := Open(d, name); m != nil || e != want {
		t.Fatalf("%s: Open(%q) = %v, %d, want %d", what, name, m, e, want)
	}
}

// unasked: Open tells this error, and does nothing to the disk.
func unasked(t *testing.T, what string, d *disk.Disk, name string, want api.Errno) {
	t.Helper()
	before := whole(d)
	fails(t, what, d, name, want)
	if whole(d) != before {
		t.Fatalf("P19.1: %s: Open(%q), refused with %d, changed the disk", what, name, want)
	}
}

func values(t *testing.T, what string, m *Mark, want int64) {
	t.Helper()
	if got := m.Value(); got != want {
		t.Fatalf("%s: Value = %d, want %d", what, got, want)
	}
}

// raises: Raise is OK, and the value is n, or what it was if that is more.
func raises(t *testing.T, what string, m *Mark, n int64) {
	t.Helper()
	before := m.Value()
	is(t, fmt.Sprintf("%s: Raise(%d) of %d", what, n, before), m.Raise(n), api.OK)
	values(t, what, m, max(n, before))
}

// refused: Raise answers this error, and the value is as it was.
func refused(t *testing.T, what string, m *Mark, n int64, want api.Errno) {
	t.Helper()
	before := m.Value()
	is(t, fmt.Sprintf("%s: Raise(%d) of %d", what, n, before), m.Raise(n), want)
	values(t, "P19.2: "+what, m, before)
}

func lists(t *testing.T, what string, d *disk.Disk, want ...string) {
	t.Helper()
	if got := d.List(); !slices.Equal(got, want) {
		t.Fatalf("%s: the disk has %q, want %q", what, got, want)
	}
}

func crash(d *disk.Disk, fates ...api.Fate) {
	d.Crash(fates)
	d.On()
}

// seen: the file has just these bytes.
func seen(t *testing.T, what string, d *disk.Disk, name, want string) {
	t.Helper()
	if got, e := d.Read(name, 0, api.MaxFile); got != want || e != api.OK {
		t.Fatalf("%s: the file %q has % x (%d), want % x", what, name, got, e, want)
	}
}

// holds: the file has just these bytes, all safe.
func holds(t *testing.T, what string, d *disk.Disk, name, want string) {
	t.Helper()
	seen(t, what, d, name, want)
	if dirty := d.Dirty(name); len(dirty) != 0 {
		t.Fatalf("%s: of the file %q %v are dirty", what, name, dirty)
	}
	c := d.Copy()
	crash(c)
	seen(t, what+": behind a crash", c, name, want)
}

// of is the chapter's slot of a number, with the library's sum.
func of(v int64) string {
	b := binary.BigEndian.AppendUint64(nil, uint64(v))
	b = binary.BigEndian.AppendUint32(b, crc32.Checksum(b, crc32.MakeTable(crc32.Castagnoli)))
	return string(b) + zeros(52)
}

func zeros(n int) string { return strings.Repeat("\x00", n) }

func TestExample1(t *testing.T) {
	d := made(t, 1000)
	m := opens(t, "P19.1: a missing file", d, "m", -1)
	unraised := "\xff\xff\xff\xff\xff\xff\xff\xff\x48\x67\x4b\xc7" + zeros(52)
	holds(t, "P19.1", d, "m", unraised+unraised)
	lists(t, "P19.1", d, "m")
	raises(t, "P19.1", m, 5)
	values(t, "P19.2", m, 5)
	five := "\x00\x00\x00\x00\x00\x00\x00\x05\xb9\xd9\xa6\x96" + zeros(52)
	holds(t, "P19.1", d, "m", unraised+five)
	is(t, "P19.1: Raise(3)", m.Raise(3), api.OK)
	values(t, "P19.2", m, 5)
	holds(t, "P19.1", d, "m", unraised+five)
	raises(t, "P19.1", m, 7)
	values(t, "P19.2", m, 7)
	holds(t, "P19.1", d, "m", "\x00\x00\x00\x00\x00\x00\x00\x07\x58\xe2\xd6\x61"+zeros(52)+five)
	refused(t, "P19.1", m, -2, api.ErrArg)
	refused(t, "P19.1", m, 281474976710656, api.ErrArg)
	lists(t, "P19.1", d, "m")
}

func TestExample2(t *testing.T) {
	for torn, fate := range map[string]api.Fate{
		of(-1):           {Kind: api.FateLost},
		"junk":           {Kind: api.FateReplace, Bytes: "junk"},
		"":               {Kind: api.FateReplace},
		of(5)[:11] + "x": {Kind: api.FateReplace, Bytes: of(5)[:11] + "x"},
	} {
		d := made(t, 1000)
		m := opens(t, "P19.1", d, "m", -1)
		d.Arm(1, disk.Syncs)
		refused(t, "P19.1: the Sync refused", m, 5, api.ErrDisk)
		fate.File, fate.Sector = "m", 1
		crash(d, fate)
		seen(t, "the crash", d, "m", of(-1)+torn+zeros(64-len(torn)))
		m = opens(t, "P19.3: the second sector torn", d, "m", -1)
		raises(t, "P19.1", m, 5)
		holds(t, "P19.1: next was 1", d, "m", of(-1)+of(5))
		d.Arm(1, disk.Syncs)
		refused(t, "P19.1: the Sync refused", m, 7, api.ErrDisk)
		fate.Sector = 0
		crash(d, fate)
		m = opens(t, "P19.3: the first sector torn", d, "m", 5)
		raises(t, "P19.1", m, 6)
		holds(t, "P19.1: next was 0", d, "m", of(6)+of(5))
	}
}

func TestExample3(t *testing.T) {
	for _, text := range []string{zeros(128), zeros(64), "", zeros(129), of(5), of(5) + of(7) + "x", of(5) + of(7)[:63]} {
		d := laid(t, text)
		unasked(t, fmt.Sprintf("P19.1: %d bytes", len(text)), d, "m", api.ErrMark)
		holds(t, "P19.1", d, "m", text)
	}
}

func TestExample4(t *testing.T) {
	d := made(t, 1000)
	m := opens(t, "P19.1", d, "m", -1)
	raises(t, "P19.1", m, 5)
	d.Arm(1, disk.Syncs)
	refused(t, "P19.1: the Sync refused", m, 9, api.ErrDisk)
	lost := d.Copy()
	crash(lost)
	opens(t, "P19.3: it was lost", lost, "m", 5)
	opens(t, "P19.1: without a crash", d, "m", 9)
	holds(t, "P19.3", d, "m", of(9)+of(5))
	for kind := range 3 {
		c := d.Copy()
		crash(c, api.Fate{File: "m", Kind: kind, Bytes: "junk"}, api.Fate{File: "m", Sector: 1, Kind: kind, Bytes: "junk"})
		opens(t, "P19.3: it is safe", c, "m", 9)
	}
}

func TestExample5(t *testing.T) {
	d := made(t, 1000)
	d.Arm(1, disk.Syncs)
	fails(t, "P19.1: the spare's Sync refused", d, "m", api.ErrDisk)
	lists(t, "P19.1", d, "m.tmp")
	seen(t, "P19.1", d, "m.tmp", of(-1)+of(-1))
	if dirty := d.Dirty("m.tmp"); !slices.Equal(dirty, []int{0, 1}) {
		t.Fatalf("P19.1: of the spare %v are dirty", dirty)
	}
	opens(t, "P19.1: begun anew", d, "m", -1)
	lists(t, "P19.1", d, "m")
	holds(t, "P19.1", d, "m", of(-1)+of(-1))
}

// P19.1: the bounds of what a mark may be raised to.
func TestNumbers(t *testing.T) {
	for _, n := range []int64{-2, -3, -256, math.MinInt64, math.MinInt32, math.MinInt64 + 1, maxIndex + 1, maxIndex + 2, 1 << 49, math.MaxInt64, math.MaxInt64 - 1} {
		for _, from := range []int64{-1, 0, 5, maxIndex} {
			d := made(t, 1000)
			m := opens(t, "P19.1", d, "m", -1)
			raises(t, "P19.1", m, from)
			before := whole(d)
			refused(t, "P19.1", m, n, api.ErrArg)
			d.Crash(nil)
			refused(t, "P19.1: ahead of the disk's errors", m, n, api.ErrArg)
			d.On()
			if whole(d) != before {
				t.Fatalf("P19.1: Raise(%d), refused, changed the disk", n)
			}
		}
	}
	for _, n := range []int64{0, 1, 255, 256, math.MaxInt32, math.MaxInt32 + 1, math.MaxUint32, math.MaxUint32 + 1, 0x0102030405, maxIndex - 1, maxIndex} {
		d := made(t, 1000)
		m := opens(t, "P19.1", d, "m", -1)
		raises(t, "P19.1", m, n)
		holds(t, "P19.1", d, "m", of(-1)+of(n))
		crash(d)
		opens(t, "P19.3", d, "m", n)
	}
}

// P19.1: the slots are written by turns, one by each Raise that rises; others ask nothing of the disk.
func TestTurns(t *testing.T) {
	d := made(t, 1000)
	m := opens(t, "P19.1", d, "m", -1)
	both := [2]string{of(-1), of(-1)}
	next := 1
	for _, n := range []int64{-1, 0, -1, 0, 1, 0, 1, 2, 3, 4, 100, 99, 5, -1, 1 << 40, 100, maxIndex, maxIndex, 0} {
		if n > m.Value() {
			both[next] = of(n)
			next = 1 - next
			raises(t, "P19.1", m, n)
			values(t, "P19.2", m, n)
			holds(t, "P19.1", d, "m", both[0]+both[1])
			continue
		}
		unmoved(t, d, m, n)
	}
}

// unmoved: a Raise to what is no more than the value is OK, and asks nothing of the disk, be it without power.
func unmoved(t *testing.T, d *disk.Disk, m *Mark, n int64) {
	t.Helper()
	d.Arm(1, disk.Any)
	d.Fall(2)
	before, value := whole(d), m.Value()
	is(t, "P19.1: Raise", m.Raise(n), api.OK)
	values(t, "P19.2", m, value)
	if whole(d) != before {
		t.Fatalf("P19.1: Raise(%d) of %d asked something of the disk", n, value)
	}
	d.Crash(nil)
	is(t, "P19.1: Raise, the disk off", m.Raise(n), api.OK)
	values(t, "P19.2", m, value)
	d.On()
}

// P19.1: names that aren't the disk's, or whose spare isn't: the disk says so, at the call at which it does.
func TestNames(t *testing.T) {
	for c := range 256 {
		b := string([]byte{byte(c)})
		for _, name := range []string{b, "a" + b, b + "a", strings.Repeat("n", 27) + b} {
			d := made(t, 1000)
			if c < 33 || c > 126 {
				unasked(t, "P19.1", d, name, api.ErrArg)
				continue
			}
			m := opens(t, "P19.1", d, name, -1)
			lists(t, "P19.1", d, name)
			raises(t, "P19.1", m, 1)
			opens(t, "P19.1", d, name, 1)
		}
	}
	for n, good := range map[int]bool{1: true, 2: true, 27: true, 28: true, 29: false, 30: false, 32: false, 33: false, 5000: false} {
		d := made(t, 1000)
		name := strings.Repeat("n", n)
		if !good {
			unasked(t, "P19.1", d, name, api.ErrArg)
			continue
		}
		opens(t, "P19.1", d, name, -1)
		lists(t, "P19.1", d, name)
	}
}

// P19.1: the spare of no name at all is a name; only the Rename is refused, and the spare is there.
func TestNoName(t *testing.T) {
	d := made(t, 1000)
	fails(t, "P19.1", d, "", api.ErrArg)
	lists(t, "P19.1", d, ".tmp")
	holds(t, "P19.1", d, ".tmp", of(-1)+of(-1))
	fails(t, "P19.1", d, "", api.ErrArg)
	m := opens(t, "P19.1: it is a mark of its own", d, ".tmp", -1)
	raises(t, "P19.1", m, 4)
	opens(t, "P19.1", d, ".tmp", 4)
}

// P19.1: a file is a mark's whether or not its spare could be.
func TestLongNamesThatAreThere(t *testing.T) {
	for n := 29; n <= 32; n++ {
		name := strings.Repeat("n", n)
		d := made(t, 1000)
		is(t, "Write", d.Write(name, 0, of(3)+of(4)), api.OK)
		m := opens(t, "P19.1", d, name, 4)
		raises(t, "P19.1", m, 6)
		holds(t, "P19.1", d, name, of(6)+of(4))
	}
}

// P19.1: of a spare that was left nothing stays, and it is looked at only where there is no file.
func TestSpares(t *testing.T) {
	for _, left := range []string{"", "x", of(9), of(9) + of(8), strings.Repeat("junk", 100)} {
		for _, safe := range []bool{false, true} {
			d := made(t, 1000)
			is(t, "Write", d.Write("m.tmp", 0, left), api.OK)
			if safe {
				is(t, "Sync", d.Sync("m.tmp"), api.OK)
			}
			c := d.Copy()
			opens(t, "P19.1", c, "m", -1)
			lists(t, "P19.1", c, "m")
			holds(t, "P19.1", c, "m", of(-1)+of(-1))
			is(t, "Write", d.Write("m", 0, of(3)+of(2)), api.OK)
			opens(t, "P19.1", d, "m", 3)
			lists(t, "P19.1", d, "m", "m.tmp")
			seen(t, "P19.1", d, "m.tmp", left)
			is(t, "Truncate", d.Truncate("m", 127), api.OK)
			unasked(t, "P19.1: a spare mends nothing", d, "m", api.ErrMark)
		}
	}
}

// call is one of the package's, at a disk with a file m of these bytes ("": without it), and which Writes and Syncs it asks for.
type call struct {
	what, file string
	begun      func(d *disk.Disk) func() api.Errno // what is done ahead of it, and the call
	asks       []int
}

func opening(d *disk.Disk) func() api.Errno {
	return func() api.Errno { _, e := Open(d, "m"); return e }
}

func raising(n int64) func(d *disk.Disk) func() api.Errno {
	return func(d *disk.Disk) func() api.Errno {
		m, _ := Open(d, "m")
		return func() api.Errno { return m.Raise(n) }
	}
}

var calls = []call{
	{"Open of none", "", opening, []int{disk.Writes, disk.Syncs}},
	{"Open", of(4) + of(3), opening, []int{disk.Syncs}},
	{"Raise", of(4) + of(3), raising(5), []int{disk.Writes, disk.Syncs}},
	{"Raise to what it is", of(4) + of(3), raising(4), nil},
	{"Raise to what can't be", of(4) + of(3), raising(-2), nil},
	{"Open of what isn't whole", zeros(128), opening, nil},
	{"Open of what is too long", zeros(129), opening, nil},
}

// ready: the disk, the call that is to be made, and what it answers where nothing is refused.
func (c call) ready(t *testing.T) (*disk.Disk, func() api.Errno, api.Errno) {
	t.Helper()
	ready := func() (*disk.Disk, func() api.Errno) {
		d := made(t, 1000)
		if c.file != "" {
			d = laid(t, c.file)
		}
		return d, c.begun(d)
	}
	_, do := ready()
	free := do()
	d, do := ready()
	return d, do, free
}

// counted is how many of the call's Writes and Syncs an arm for this counts.
func (c call) counted(what int) int {
	n := 0
	for _, ask := range c.asks {
		if what == disk.Any || what == ask {
			n++
		}
	}
	return n
}

// P19.1: each Write and Sync of each call refused: the disk's answer is the call's, and nothing more is asked of the disk.
func TestEachRefused(t *testing.T) {
	for _, c := range calls {
		for n := 1; n <= 4; n++ {
			for _, what := range []int{disk.Any, disk.Writes, disk.Syncs} {
				d, do, want := c.ready(t)
				d.Arm(n, what)
				later := made(t, 1000)
				if n <= c.counted(what) {
					want = api.ErrDisk
				} else {
					later.Arm(n-c.counted(what), what)
				}
				told := fmt.Sprintf("P19.1: %s, the %d-th of %d refused", c.what, n, what)
				is(t, told, do(), want)
				if got := comes(d); !slices.Equal(got, comes(later)) {
					t.Fatalf("%s: behind it the disk answers %v", told, got)
				}
			}
		}
	}
}

// P19.1: the power gone at each Write and Sync of each call.
func TestPowerAtEach(t *testing.T) {
	for _, c := range calls {
		for n := 1; n <= 4; n++ {
			d, do, want := c.ready(t)
			d.Fall(n)
			later := made(t, 1000)
			if n <= len(c.asks) {
				want = api.ErrOff
				later.Crash(nil)
			} else {
				later.Fall(n - len(c.asks))
			}
			told := fmt.Sprintf("P19.1: %s, the power gone at %d", c.what, n)
			is(t, told, do(), want)
			if got := comes(d); !slices.Equal(got, comes(later)) {
				t.Fatalf("%s: behind it the disk answers %v", told, got)
			}
		}
	}
}

// comes is what Writes and Syncs behind a call answer, taken by turns.
func comes(d *disk.Disk) []api.Errno {
	var errs []api.Errno
	for range 4 {
		errs = append(errs, d.Write("probe", 0, ""), d.Sync("probe"))
	}
	return errs
}

// P19.1: a disk that is off answers so, and a mark that was opened ahead of that has its value.
func TestOff(t *testing.T) {
	d := laid(t, of(4)+of(3))
	m := opens(t, "P19.1", d, "m", 4)
	d.Crash(nil)
	for _, name := range []string{"m", "n", "", "a b", strings.Repeat("n", 40)} {
		unasked(t, "P19.1", d, name, api.ErrOff)
	}
	refused(t, "P19.1", m, 5, api.ErrOff)
	d.On()
	raises(t, "P19.1", m, 6)
	holds(t, "P19.1", d, "m", of(4)+of(6))
}

// P19.2: what was refused is written over by what comes next, and the other slot stays.
func TestRefusedIsWrittenOver(t *testing.T) {
	for _, what := range []int{disk.Writes, disk.Syncs} {
		d := laid(t, of(4)+of(3))
		m := opens(t, "P19.1", d, "m", 4)
		for _, n := range []int64{9, 7, 100, maxIndex} {
			d.Arm(1, what)
			refused(t, "P19.2", m, n, api.ErrDisk)
			want := of(4) + of(3)
			if what == disk.Syncs {
				want = of(4) + of(n)
			}
			seen(t, "P19.2", d, "m", want)
			c := d.Copy()
			crash(c)
			seen(t, "P19.2: nothing of it is safe", c, "m", of(4)+of(3))
		}
		raises(t, "P19.2", m, 5)
		holds(t, "P19.2", d, "m", of(4)+of(5))
		raises(t, "P19.2", m, 6)
		holds(t, "P19.2", d, "m", of(6)+of(5))
	}
}

// P19.1: what others did to the file: a Raise is the two calls of the disk that it is said to be.
func TestFileOfOthers(t *testing.T) {
	d := laid(t, of(4)+of(3))
	m := opens(t, "P19.1", d, "m", 4)
	is(t, "Remove", d.Remove("m"), api.OK)
	refused(t, "P19.1: the place 64 of no file", m, 5, api.ErrArg)
	lists(t, "P19.1", d)
	is(t, "Write", d.Write("m", 0, strings.Repeat("x", 200)), api.OK)
	raises(t, "P19.1", m, 5)
	holds(t, "P19.1", d, "m", strings.Repeat("x", 64)+of(5)+strings.Repeat("x", 72))
	is(t, "Rename", d.Rename("m", "n"), api.OK)
	raises(t, "P19.1: the place 0 of no file", m, 6)
	holds(t, "P19.1", d, "m", of(6))
	unasked(t, "P19.1", d, "m", api.ErrMark)
}

// P19.4: a disk without any room, in bytes and in files.
func TestFullDisk(t *testing.T) {
	d := made(t, 128)
	m := opens(t, "P19.4", d, "m", -1)
	for n := range int64(20) {
		raises(t, "P19.4: no byte is free", m, 3*n)
		if d.Used() != 128 {
			t.Fatalf("P19.4: the disk has %d bytes", d.Used())
		}
		opens(t, "P19.4", d, "m", 3*n)
	}
	d = made(t, 127)
	unasked(t, "P19.1", d, "m", api.ErrSpace)
	lists(t, "P19.1", d)
	d = made(t, 1000)
	for i := range 15 {
		d.Write(fmt.Sprint("f", i), 0, "")
	}
	m = opens(t, "P19.4", d, "m", -1)
	raises(t, "P19.4: sixteen files", m, 5)
	unasked(t, "P19.1", d, "n", api.ErrFull)
	opens(t, "P19.4", d, "m", 5)
}

// P19.1: room that the spare of an earlier Open took is free again ahead of the Write.
func TestRoomOfTheSpare(t *testing.T) {
	for _, left := range []int{0, 1, 127, 128, 129, 190} {
		d := made(t, 190)
		is(t, "Write", d.Write("m.tmp", 0, zeros(left)), api.OK)
		opens(t, "P19.1", d, "m", -1)
		lists(t, "P19.1", d, "m")
	}
	d := made(t, 190)
	d.Write("other", 0, zeros(63))
	d.Write("m.tmp", 0, zeros(127))
	fails(t, "P19.1", d, "m", api.ErrSpace)
	lists(t, "P19.1: the spare is gone", d, "other")
}

// R3: the name that was handed in isn't kept.
func TestMemory(t *testing.T) {
	for _, there := range []bool{false, true} {
		d := made(t, 1000)
		if there {
			opens(t, "P19.1", d, "name", -1)
		}
		name := []byte("name")
		m := opens(t, "P19.1", d, unsafe.String(&name[0], len(name)), -1)
		copy(name, "mane")
		raises(t, "R3", m, 5)
		lists(t, "R3", d, "name")
		opens(t, "R3", d, "name", 5)
	}
}

// R4: nothing is kept but in the mark and on the disk: a copy of the disk goes on alike.
func TestNothingElseIsKept(t *testing.T) {
	d := made(t, 1000)
	m := opens(t, "P19.1", d, "m", -1)
	raises(t, "P19.1", m, 5)
	c := d.Copy()
	raises(t, "P19.1", m, 7)
	k := opens(t, "R4", c, "m", 5)
	raises(t, "P19.1", k, 7)
	if whole(d) != whole(c) {
		t.Fatal("R4: the two disks aren't alike")
	}
	raises(t, "P19.1", k, 9)
	values(t, "R4", m, 7)
	opens(t, "R4", d, "m", 7)
}
