package disk

import (
	"fmt"
	"math"
	"slices"
	"strings"
	"testing"
	"unsafe"

	"escrow/api"
)

func made(t *testing.T, capacity int) *Disk {
	t.Helper()
	d, e := New(capacity)
	if d == nil || e != api.OK {
		t.Fatalf("P4.1: New(%d) answers %d", capacity, e)
	}
	return d
}

func is(t *testing.T, what string, got, want api.Errno) {
	t.Helper()
	if got != want {
		t.Fatalf("%s answers %d, want %d", what, got, want)
	}
}

func reads(t *testing.T, what string, d *Disk, name, want string) {
	t.Helper()
	got, e := d.Read(name, 0, math.MaxInt)
	if n, f := d.Size(name); got != want || e != api.OK || n != len(want) || f != api.OK {
		t.Fatalf("%s: %q has %q (%d), want %q", what, name, got, e, want)
	}
}

func crash(d *Disk, fates ...api.Fate) {
	d.Crash(fates)
	d.On()
}

func x(n int) string { return strings.Repeat("x", n) }

func zeros(n int) string { return strings.Repeat("\x00", n) }

func TestExample1(t *testing.T) {
	d := made(t, 1000)
	is(t, "P4.1: Write", d.Write("a", 0, "hello"), api.OK)
	if s, e := d.Read("a", 1, 3); s != "ell" || e != api.OK {
		t.Errorf("P4.1: Read(1, 3) = %q, %d", s, e)
	}
	if s, e := d.Read("a", 5, 9); s != "" || e != api.OK {
		t.Errorf("P4.1: Read(5, 9) = %q, %d", s, e)
	}
	if !slices.Equal(d.Dirty("a"), []int{0}) {
		t.Errorf("P4.1: Dirty = %v", d.Dirty("a"))
	}
	is(t, "P4.1: Sync", d.Sync("a"), api.OK)
	if len(d.Dirty("a")) != 0 {
		t.Errorf("P4.1: Dirty behind Sync = %v", d.Dirty("a"))
	}
	is(t, "P4.1: Write", d.Write("a", 5, " you"), api.OK)
	is(t, "P4.1: Write beyond the end", d.Write("a", 10, "x"), api.ErrArg)
	d.Crash(nil)
	if _, e := d.Read("a", 0, 9); !d.Off() || e != api.ErrOff {
		t.Errorf("P4.1: Read, off: %d", e)
	}
	d.On()
	reads(t, "P4.2: behind the crash", d, "a", "hello")
}

func TestExamples2And3(t *testing.T) {
	d := made(t, 1000)
	is(t, "P4.1: Write", d.Write("b", 0, x(200)), api.OK)
	if !slices.Equal(d.Dirty("b"), []int{0, 1, 2, 3}) {
		t.Errorf("P4.1: Dirty = %v", d.Dirty("b"))
	}
	crash(d, api.Fate{File: "b", Sector: 1, Kind: api.FateKept}, api.Fate{File: "b", Sector: 2, Kind: api.FateReplace, Bytes: "yy"})
	reads(t, "P4.3", d, "b", zeros(64)+x(64)+"yy"+zeros(62))
	is(t, "P4.1: Write", d.Write("c", 0, x(70)), api.OK)
	is(t, "P4.1: Sync", d.Sync("c"), api.OK)
	is(t, "P4.1: Truncate", d.Truncate("c", 10), api.OK)
	crash(d)
	reads(t, "P4.1: truncated is safe at once", d, "c", x(10))
	is(t, "P4.1: Write", d.Write("c", 10, strings.Repeat("z", 90)), api.OK)
	crash(d, api.Fate{File: "c", Sector: 1, Kind: api.FateKept})
	reads(t, "P4.3", d, "c", x(10)+zeros(54)+strings.Repeat("z", 36))
}

func TestExample4(t *testing.T) {
	d := made(t, 1000)
	d.Arm(2, Any)
	is(t, "P4.1: Write", d.Write("d", 0, "1"), api.OK)
	is(t, "P4.1: the second", d.Sync("d"), api.ErrDisk)
	is(t, "P4.1: armed no longer", d.Sync("d"), api.OK)
	d.Arm(1, Syncs)
	is(t, "P4.1: Write", d.Write("d", 0, "2"), api.OK)
	is(t, "P4.1: Write", d.Write("", 0, "x"), api.ErrArg)
	is(t, "P4.1: Sync", d.Sync("none"), api.ErrNone)
	is(t, "P4.1: Sync", d.Sync("d"), api.ErrDisk)
	reads(t, "P4.1: written is seen all the same", d, "d", "2")
	crash(d)
	reads(t, "P4.1: nothing is safe that was not", d, "d", "1")
	d.Fall(2)
	is(t, "P4.1: Write", d.Write("d", 1, "3"), api.OK)
	is(t, "P4.1: the power goes", d.Sync("d"), api.ErrOff)
	if !d.Off() {
		t.Error("P4.1: not off")
	}
	is(t, "P4.1: Write, off", d.Write("d", 0, "4"), api.ErrOff)
	crash(d, api.Fate{File: "d", Sector: 0, Kind: api.FateKept})
	reads(t, "P4.1: what was open", d, "d", "13")
}

func TestExamples5And6(t *testing.T) {
	d := made(t, 1000)
	d.Write("a", 0, "older text")
	d.Write("z", 0, "other")
	is(t, "P4.1: Write", d.Write("e", 0, "new"), api.OK)
	is(t, "P4.1: Sync", d.Sync("e"), api.OK)
	is(t, "P4.1: Rename", d.Rename("e", "a"), api.OK)
	if !slices.Equal(d.List(), []string{"a", "z"}) || d.Used() != 8 {
		t.Errorf("P4.1: List = %q, Used = %d", d.List(), d.Used())
	}
	crash(d)
	reads(t, "P4.2: renamed", d, "a", "new")
	is(t, "P4.1: Rename", d.Rename("q", ""), api.ErrNone)
	is(t, "P4.1: Rename", d.Rename("a", ""), api.ErrArg)
	for _, n := range []int{-1, math.MinInt, 16777217, math.MaxInt} {
		if d, e := New(n); d != nil || e != api.ErrArg {
			t.Errorf("P4.1: New(%d) = %v, %d", n, d, e)
		}
	}
	made(t, 16777216)
	d = made(t, 10)
	is(t, "P4.1: Write", d.Write("a", 0, x(11)), api.ErrSpace)
	if len(d.List()) != 0 {
		t.Errorf("P4.4: List = %q", d.List())
	}
	is(t, "P4.1: Write", d.Write("a", 0, ""), api.OK)
	if !slices.Equal(d.List(), []string{"a"}) {
		t.Errorf("P4.1: List = %q", d.List())
	}
	is(t, "P4.1: Truncate", d.Truncate("a", 1), api.ErrArg)
}

func TestNames(t *testing.T) {
	d := made(t, 1000)
	d.Write("good", 0, "x")
	for c := range 256 {
		for _, name := range []string{string([]byte{byte(c)}), "a" + string([]byte{byte(c)}), string([]byte{byte(c), 'a'})} {
			want := api.OK
			if c < 33 || c > 126 {
				want = api.ErrArg
			}
			is(t, fmt.Sprintf("P4.1: Write(%q)", name), d.Write(name, 0, "x"), want)
			gone := api.ErrNone
			if want == api.OK {
				gone = api.OK
			}
			is(t, "P4.1: Remove", d.Remove(name), gone)
			is(t, fmt.Sprintf("P4.1: Rename to %q", name), d.Rename("good", name), want)
			if want == api.OK {
				is(t, "P4.1: Rename", d.Rename(name, "good"), api.OK)
			}
		}
	}
	for n, want := range map[int]api.Errno{0: api.ErrArg, 1: api.OK, 31: api.OK, 32: api.OK, 33: api.ErrArg, 4000: api.ErrArg} {
		is(t, fmt.Sprintf("P4.1: Write of a name of %d bytes", n), d.Write(strings.Repeat("n", n), 0, "x"), want)
		is(t, fmt.Sprintf("P4.1: Rename to a name of %d bytes", n), d.Rename("good", strings.Repeat("m", n)), want)
		if want == api.OK {
			is(t, "P4.1: Rename", d.Rename(strings.Repeat("m", n), "good"), api.OK)
		}
	}
}

func TestListIsInTheOrderOfBytes(t *testing.T) {
	d := made(t, 1000)
	for _, name := range []string{"b", "a", "B", "aa", "~", "!", "a!", "10", "9"} {
		d.Write(name, 0, "x")
	}
	want := []string{"!", "10", "9", "B", "a", "a!", "aa", "b", "~"}
	for range 20 {
		if !slices.Equal(d.List(), want) {
			t.Fatalf("P4.1: List = %q", d.List())
		}
	}
}

// full has 16 files; "f0" has 1000 bytes, and just 10 more are left of the capacity.
func full(t *testing.T) *Disk {
	d := made(t, 1025)
	d.Write("f0", 0, x(1000))
	for i := range 15 {
		d.Write(fmt.Sprint("f", i+1), 0, "x")
	}
	if d.Used() != 1015 || len(d.List()) != 16 {
		t.Fatalf("P4.1: Used = %d, List = %q", d.Used(), d.List())
	}
	return d
}

func TestOrderOfErrors(t *testing.T) {
	long := x(1048577)
	for _, c := range []struct {
		what string
		on   func(d *Disk) api.Errno
		want api.Errno
	}{
		{"a bad name, at -1, too long", func(d *Disk) api.Errno { return d.Write("a b", -1, long) }, api.ErrArg},
		{"a bad name alone", func(d *Disk) api.Errno { return d.Write("a b", 0, "") }, api.ErrArg},
		{"a place in no file, too long, full", func(d *Disk) api.Errno { return d.Write("new", 1, long) }, api.ErrArg},
		{"a place beyond the end, no text", func(d *Disk) api.Errno { return d.Write("f0", 1001, "") }, api.ErrArg},
		{"the greatest place", func(d *Disk) api.Errno { return d.Write("f0", math.MaxInt, "text") }, api.ErrArg},
		{"the least place", func(d *Disk) api.Errno { return d.Write("f0", math.MinInt, "text") }, api.ErrArg},
		{"too long, full, no space", func(d *Disk) api.Errno { return d.Write("new", 0, long) }, api.ErrLong},
		{"too long by one, no space", func(d *Disk) api.Errno { return d.Write("f0", 1000, long[:1047577]) }, api.ErrLong},
		{"not too long, no space", func(d *Disk) api.Errno { return d.Write("f0", 1000, long[:1047576]) }, api.ErrSpace},
		{"full, no space", func(d *Disk) api.Errno { return d.Write("new", 0, x(100)) }, api.ErrFull},
		{"full, no text", func(d *Disk) api.Errno { return d.Write("new", 0, "") }, api.ErrFull},
		{"no space for one", func(d *Disk) api.Errno { return d.Write("f0", 995, x(16)) }, api.ErrSpace},
		{"no space in another", func(d *Disk) api.Errno { return d.Write("f3", 1, x(11)) }, api.ErrSpace},
		{"Sync of none", func(d *Disk) api.Errno { return d.Sync("new") }, api.ErrNone},
		{"Sync of no name", func(d *Disk) api.Errno { return d.Sync("") }, api.ErrNone},
		{"Truncate of none, below 0", func(d *Disk) api.Errno { return d.Truncate("new", -1) }, api.ErrNone},
		{"Truncate below 0", func(d *Disk) api.Errno { return d.Truncate("f0", -1) }, api.ErrArg},
		{"Truncate beyond the end", func(d *Disk) api.Errno { return d.Truncate("f0", 1001) }, api.ErrArg},
		{"Rename of none to no name", func(d *Disk) api.Errno { return d.Rename("new", "") }, api.ErrNone},
		{"Rename of none to itself", func(d *Disk) api.Errno { return d.Rename("new", "new") }, api.ErrNone},
		{"Rename to no name", func(d *Disk) api.Errno { return d.Rename("f0", "\x7f") }, api.ErrArg},
		{"Remove of none", func(d *Disk) api.Errno { return d.Remove("new") }, api.ErrNone},
		{"Read of none, at -1", func(d *Disk) api.Errno { _, e := d.Read("new", -1, -1); return e }, api.ErrNone},
		{"Read at -1", func(d *Disk) api.Errno { _, e := d.Read("f0", -1, 1); return e }, api.ErrArg},
		{"Read of -1", func(d *Disk) api.Errno { _, e := d.Read("f0", 1, -1); return e }, api.ErrArg},
		{"Size of none", func(d *Disk) api.Errno { _, e := d.Size("new"); return e }, api.ErrNone},
	} {
		d := full(t)
		names := append(d.List(), "new", "a b", "\x7f")
		d.Sync("f0")
		d.Write("f0", 100, "dirty")
		before := all(d, names)
		// Neither an arm nor a fall may show: something else refuses the call, so it doesn't count either.
		d.Arm(1, Any)
		d.Fall(1)
		is(t, "P4.1: "+c.what, c.on(d), c.want)
		if all(d, names) != before {
			t.Errorf("P4.4: %s: refused, but something is changed", c.what)
		}
		d.Fall(0)
		is(t, "P4.1: "+c.what+": the arm is there still", d.Sync("f0"), api.ErrDisk)
		if all(d, names) != before {
			t.Errorf("P4.4: %s: the armed Sync has changed something", c.what)
		}
		d.Fall(1)
		is(t, "P4.1: the power goes", d.Sync("f0"), api.ErrOff)
		is(t, "P4.1: off, "+c.what, c.on(d), api.ErrOff)
		c2 := d.Copy()
		crash(d, api.Fate{File: "f0", Sector: 1, Kind: api.FateKept})
		crash(c2, api.Fate{File: "f0", Sector: 1, Kind: api.FateReplace})
		reads(t, "P4.4: behind the crash", d, "f0", x(100)+"dirty"+x(895))
		reads(t, "P4.5: a copy of what is open", c2, "f0", x(64)+zeros(64)+x(872))
	}
}

func TestZeroResultsBesideErrors(t *testing.T) {
	d := made(t, 1000)
	d.Write("a", 0, "text")
	ask := func(what string, want api.Errno) {
		text, e := d.Read("a", -1, 1)
		size, f := d.Size("none")
		if text != "" || e != want || size != 0 || f == api.OK || len(d.Dirty("none")) != 0 {
			t.Errorf("P4.1: %s: Read = %q, %d, Size = %d, %d", what, text, e, size, f)
		}
	}
	ask("on", api.ErrArg)
	d.Crash(nil)
	ask("off", api.ErrOff)
	if text, e := d.Read("a", 0, 4); text != "" || e != api.ErrOff {
		t.Errorf("P4.1: Read, off = %q, %d", text, e)
	}
	if size, e := d.Size("a"); size != 0 || e != api.ErrOff {
		t.Errorf("P4.1: Size, off = %d, %d", size, e)
	}
}

func TestLimits(t *testing.T) {
	d := made(t, 16777216)
	whole := x(1048576)
	for i := range 16 {
		is(t, "P4.1: Write of a whole file", d.Write(fmt.Sprint("f", i), 0, whole), api.OK)
	}
	if d.Used() != 16777216 || len(d.Dirty("f7")) != 16384 {
		t.Errorf("P4.1: Used = %d, %d sectors are dirty", d.Used(), len(d.Dirty("f7")))
	}
	is(t, "P4.1: Write at the end", d.Write("f0", 1048576, "x"), api.ErrLong)
	is(t, "P4.1: Write of nothing at the end", d.Write("f0", 1048576, ""), api.OK)
	is(t, "P4.1: Write over the end", d.Write("f0", 1048575, "xy"), api.ErrLong)
	is(t, "P4.1: Write of the last byte", d.Write("f0", 1048575, "y"), api.OK)
	is(t, "P4.1: Write of a 17th", d.Write("g", 0, ""), api.ErrFull)
	is(t, "P4.1: Sync", d.Sync("f0"), api.OK)
	is(t, "P4.1: Rename over another", d.Rename("f1", "f2"), api.OK)
	is(t, "P4.1: Write of a 16th", d.Write("g", 0, ""), api.OK)
	crash(d)
	reads(t, "P4.2: the greatest file", d, "f0", whole[1:]+"y")
	if d.Used() != 1048576 || len(d.List()) != 16 {
		t.Errorf("P4.1: Used = %d, List = %q", d.Used(), d.List())
	}
	for _, at := range []int{1048575, 1048576, 1048577, math.MaxInt} {
		if s, e := d.Read("f0", at, math.MaxInt); s != "y"[min(1, max(0, at-1048575)):] || e != api.OK {
			t.Errorf("P4.1: Read at %d = %q, %d", at, s, e)
		}
	}
	is(t, "P4.1: Remove", d.Remove("f0"), api.OK)
	if d.Used() != 0 {
		t.Errorf("P4.1: Used = %d", d.Used())
	}
}

func TestFullDisk(t *testing.T) {
	d := made(t, 0)
	is(t, "P4.1: Write of nothing on a disk of nothing", d.Write("a", 0, ""), api.OK)
	is(t, "P4.1: Write of a byte there", d.Write("a", 0, "x"), api.ErrSpace)
	d = made(t, 10)
	is(t, "P4.1: Write of all", d.Write("a", 0, x(10)), api.OK)
	is(t, "P4.1: Write over it", d.Write("a", 3, "abcdefg"), api.OK)
	is(t, "P4.1: Write of one more", d.Write("a", 3, "abcdefgh"), api.ErrSpace)
	is(t, "P4.1: Write of another's", d.Write("b", 0, "x"), api.ErrSpace)
	is(t, "P4.1: Write of another, of nothing", d.Write("b", 0, ""), api.OK)
	is(t, "P4.1: Truncate", d.Truncate("a", 9), api.OK)
	is(t, "P4.1: Write of one", d.Write("b", 0, "x"), api.OK)
	is(t, "P4.1: Write of one more", d.Write("a", 9, "x"), api.ErrSpace)
	// What a crash takes is free again.
	is(t, "P4.1: Sync", d.Sync("b"), api.OK)
	d.Crash(nil)
	if d.Used() != 1 {
		t.Errorf("P4.1: Used, off = %d", d.Used())
	}
	d.On()
	is(t, "P4.1: Write of nine", d.Write("a", 0, x(9)), api.OK)
	is(t, "P4.1: Write of one more", d.Write("b", 1, "x"), api.ErrSpace)
}

func TestEmptyWrites(t *testing.T) {
	d := made(t, 1000)
	d.Write("a", 0, x(130))
	d.Sync("a")
	for _, at := range []int{0, 1, 64, 65, 128, 130} {
		is(t, "P4.1: Write of nothing", d.Write("a", at, ""), api.OK)
		if len(d.Dirty("a")) != 0 {
			t.Errorf("P4.1: Write of nothing at %d: %v is dirty", at, d.Dirty("a"))
		}
	}
	d.Arm(2, Writes)
	is(t, "P4.1: Write of nothing counts", d.Write("a", 0, ""), api.OK)
	is(t, "P4.1: Write of nothing is refused", d.Write("b", 0, ""), api.ErrDisk)
	if !slices.Equal(d.List(), []string{"a"}) {
		t.Errorf("P4.4: List = %q", d.List())
	}
	is(t, "P4.1: Write of nothing", d.Write("b", 0, ""), api.OK)
	crash(d)
	reads(t, "P4.2: that it is there is safe at once", d, "b", "")
}

func TestDirtySectors(t *testing.T) {
	for _, c := range []struct {
		at, n int
		want  []int
	}{
		{0, 1, []int{0}}, {63, 1, []int{0}}, {64, 1, []int{1}}, {63, 2, []int{0, 1}}, {0, 64, []int{0}}, {0, 65, []int{0, 1}},
		{64, 64, []int{1}}, {127, 66, []int{1, 2, 3}}, {200, 1, []int{3}}, {200, 56, []int{3}}, {200, 57, []int{3, 4}}, {0, 200, []int{0, 1, 2, 3}},
	} {
		d := made(t, 1000)
		d.Write("a", 0, x(200))
		d.Write("b", 0, x(200))
		d.Sync("a")
		d.Write("a", c.at, x(c.n))
		if got := d.Dirty("a"); !slices.Equal(got, c.want) {
			t.Errorf("P4.1: behind Write at %d of %d bytes %v is dirty, want %v", c.at, c.n, got, c.want)
		}
		if d.Crash(nil); len(d.Dirty("a")) != 0 || len(d.Dirty("b")) != 0 {
			t.Error("P4.1: something is dirty, off")
		}
		if d.On(); len(d.Dirty("a")) != 0 || len(d.Dirty("b")) != 0 {
			t.Error("P4.1: something is dirty behind a crash")
		}
	}
}

func TestDirtyWhereOpen(t *testing.T) {
	d := made(t, 1000)
	d.Write("a", 0, x(200))
	d.Fall(1)
	is(t, "P4.1: the power goes", d.Write("b", 0, "new"), api.ErrOff)
	if len(d.Dirty("a")) != 0 || len(d.List()) != 0 || d.Used() != 200 {
		t.Errorf("P4.1: off: Dirty = %v, List = %q, Used = %d", d.Dirty("a"), d.List(), d.Used())
	}
	d.On()
	reads(t, "P4.1: On is as a crash with no fates", d, "a", "")
	if !slices.Equal(d.List(), []string{"a"}) || d.Used() != 0 {
		t.Errorf("P4.4: List = %q, Used = %d", d.List(), d.Used())
	}
}

func TestTruncate(t *testing.T) {
	for size := range 201 {
		d := made(t, 1000)
		d.Write("a", 0, x(100))
		d.Sync("a")
		d.Write("a", 60, strings.Repeat("y", 140))
		is(t, "P4.1: Truncate", d.Truncate("a", size), api.OK)
		var dirty []int
		for s := range (size + 63) / 64 {
			dirty = append(dirty, s)
		}
		if got := d.Dirty("a"); !slices.Equal(got, dirty) {
			t.Errorf("P4.1: truncated to %d: %v is dirty, want %v", size, got, dirty)
		}
		reads(t, "P4.1: truncated", d, "a", (x(60) + strings.Repeat("y", 140))[:size])
		c := d.Copy()
		crash(c)
		reads(t, "P4.1: truncated, the safe bytes", c, "a", x(min(size, 100)))
		// What was cut off is nowhere any more, not even as safe bytes below new ones.
		d.Write("a", size, strings.Repeat("z", 300-size))
		crash(d, api.Fate{File: "a", Sector: 4, Kind: api.FateKept})
		reads(t, "P4.3: truncated and written again", d, "a", x(min(size, 100))+zeros(256-min(size, 100))+strings.Repeat("z", 44))
	}
}

func TestFates(t *testing.T) {
	// Sectors 0 and 2 are dirty; 1 isn't; 3 (of 8 bytes) is new and dirty.
	safe, over := x(64)+strings.Repeat("s", 64)+x(40), strings.Repeat("y", 64)
	for _, c := range []struct {
		what  string
		fates []api.Fate
		want  string
	}{
		{"none", nil, safe},
		{"lost", []api.Fate{{File: "a", Sector: 0, Kind: 0}, {File: "a", Sector: 3, Kind: 0, Bytes: "q"}}, safe},
		{"the last is kept", []api.Fate{{File: "a", Sector: 3, Kind: 1}}, safe + zeros(24) + "yyyyyyyy"},
		{"the last is replaced", []api.Fate{{File: "a", Sector: 3, Kind: 2}}, safe + zeros(32)},
		{"the last is replaced by too much", []api.Fate{{File: "a", Sector: 3, Kind: 2, Bytes: "123456789"}}, safe + zeros(24) + "12345678"},
		{"the third is kept", []api.Fate{{File: "a", Sector: 2, Kind: 1}}, safe[:128] + over},
		{"the third is replaced by few", []api.Fate{{File: "a", Sector: 2, Kind: 2, Bytes: "123"}}, safe[:128] + "123" + zeros(61)},
		{"replaced by 64", []api.Fate{{File: "a", Sector: 0, Kind: 2, Bytes: strings.Repeat("r", 64)}}, strings.Repeat("r", 64) + safe[64:]},
		{"replaced by 65", []api.Fate{{File: "a", Sector: 0, Kind: 2, Bytes: strings.Repeat("r", 65)}}, strings.Repeat("r", 64) + safe[64:]},
		{"replaced by none", []api.Fate{{File: "a", Sector: 0, Kind: 2}}, zeros(64) + safe[64:]},
		{"not dirty", []api.Fate{{File: "a", Sector: 1, Kind: 2, Bytes: "q"}, {File: "a", Sector: 1, Kind: 1}}, safe},
		{"lost, then kept", []api.Fate{{File: "a", Sector: 0, Kind: 0}, {File: "a", Sector: 0, Kind: 1}}, safe},
		{"of no kind, then kept", []api.Fate{{File: "a", Sector: 0, Kind: 3}, {File: "a", Sector: 0, Kind: 1}}, safe},
		{"of no kind, -1", []api.Fate{{File: "a", Sector: 0, Kind: -1, Bytes: "q"}}, safe},
		{"kept, then lost", []api.Fate{{File: "a", Sector: 0, Kind: 1}, {File: "a", Sector: 0, Kind: 0}}, over + safe[64:]},
		{"kept, then replaced", []api.Fate{{File: "a", Sector: 0, Kind: 1}, {File: "a", Sector: 0, Kind: 2}}, over + safe[64:]},
		{"replaced twice", []api.Fate{{File: "a", Sector: 0, Kind: 2, Bytes: "1"}, {File: "a", Sector: 0, Kind: 2, Bytes: "23"}}, "1" + zeros(63) + safe[64:]},
		{"another file's", []api.Fate{{File: "b", Sector: 0, Kind: 1}, {File: "", Sector: 0, Kind: 1}, {File: "A", Sector: 0, Kind: 1}}, safe},
		{"another file's first", []api.Fate{{File: "b", Sector: 0, Kind: 0}, {File: "a", Sector: 0, Kind: 1}}, over + safe[64:]},
		{"sectors that aren't there", []api.Fate{{File: "a", Sector: -1, Kind: 1}, {File: "a", Sector: 4, Kind: 2, Bytes: "q"}, {File: "a", Sector: math.MaxInt, Kind: 1}, {File: "a", Sector: math.MinInt, Kind: 2}}, safe},
		{"all are kept", []api.Fate{{File: "a", Sector: 3, Kind: 1}, {File: "a", Sector: 2, Kind: 1}, {File: "a", Sector: 1, Kind: 1}, {File: "a", Sector: 0, Kind: 1}}, over + safe[64:128] + over + "yyyyyyyy"},
	} {
		for _, open := range []bool{false, true} {
			d := made(t, 1000)
			d.Write("a", 0, safe)
			d.Sync("a")
			d.Write("a", 0, over)
			d.Write("a", 128, over+"yyyyyyyy")
			if open {
				d.Fall(1)
				is(t, "P4.1: the power goes", d.Sync("a"), api.ErrOff)
			}
			crash(d, c.fates...)
			reads(t, "P4.3: "+c.what, d, "a", c.want)
			if len(d.Dirty("a")) != 0 {
				t.Errorf("P4.1: %s: %v is dirty behind the crash", c.what, d.Dirty("a"))
			}
			crash(d, api.Fate{File: "a", Sector: 0, Kind: 2}, api.Fate{File: "a", Sector: 3, Kind: 2})
			reads(t, "P4.2: what a crash leaves is safe: "+c.what, d, "a", c.want)
		}
	}
}

func TestCrashWhereOff(t *testing.T) {
	d := made(t, 1000)
	d.Write("a", 0, "text")
	d.Crash(nil)
	d.Arm(1, Syncs)
	d.Fall(2)
	d.Crash([]api.Fate{{File: "a", Kind: api.FateKept}})
	d.On()
	reads(t, "P4.1: the second crash does nothing", d, "a", "")
	is(t, "P4.1: armed off, the arm is there", d.Sync("a"), api.ErrDisk)
	is(t, "P4.1: said off, the fall is there", d.Write("a", 0, "x"), api.ErrOff)
	d.Arm(1, Any)
	d.Fall(1)
	d.On()
	is(t, "P4.1: where something was open On ends the arm and the fall", d.Sync("a"), api.OK)
	d.Fall(1)
	is(t, "P4.1: the power goes", d.Sync("a"), api.ErrOff)
	d.Arm(1, Any)
	d.Fall(1)
	crash(d)
	is(t, "P4.1: Crash ends the arm and the fall", d.Sync("a"), api.OK)
	d.Arm(1, Any)
	d.Fall(2)
	d.On()
	is(t, "P4.1: On, on, ends no arm", d.Sync("a"), api.ErrDisk)
	is(t, "P4.1: On, on, ends no fall", d.Sync("a"), api.ErrOff)
}

func TestOpenWithNothingDirty(t *testing.T) {
	d := made(t, 1000)
	d.Write("a", 0, "text")
	d.Sync("a")
	d.Fall(1)
	is(t, "P4.1: the power goes", d.Sync("a"), api.ErrOff)
	d.Arm(1, Any)
	d.Crash(nil)
	if !d.Off() {
		t.Error("P4.1: on behind Crash")
	}
	d.On()
	if d.Off() {
		t.Error("P4.1: off behind On")
	}
	is(t, "P4.1: it was open, so Crash has ended the arm", d.Sync("a"), api.OK)
	reads(t, "P4.3: nothing was dirty", d, "a", "text")
}

func TestArms(t *testing.T) {
	play := func(d *Disk, calls string) string {
		said := ""
		for _, c := range calls {
			e := api.OK
			switch c {
			case 'W':
				e = d.Write("a", 0, "x")
			case 'S':
				e = d.Sync("a")
			case 'w':
				e = d.Write("a", -1, "x")
			case 's':
				e = d.Sync("none")
			case 't':
				e = d.Truncate("a", 1)
			case 'r':
				e = d.Rename("a", "a")
			}
			said += fmt.Sprint(int(e), " ")
		}
		return said
	}
	for _, c := range []struct {
		n, what int
		calls   string
		want    string
	}{
		{1, Any, "WWS", "40 0 0 "},
		{1, Any, "SWS", "40 0 0 "},
		{3, Any, "WSWSW", "0 0 40 0 0 "},
		{2, Any, "wsWstrSW", "1 5 0 5 0 0 40 0 "},
		{2, Writes, "SWSSWSW", "0 0 0 0 40 0 0 "},
		{2, Syncs, "WSWWSWS", "0 0 0 0 40 0 0 "},
		{2, Writes, "wWwsSW", "1 0 1 5 0 40 "},
		{2, Syncs, "sSwWsS", "5 0 1 0 5 40 "},
		{0, Any, "WSWS", "0 0 0 0 "},
		{-1, Any, "WSWS", "0 0 0 0 "},
		{math.MinInt, Writes, "WSWS", "0 0 0 0 "},
		{math.MaxInt, Any, "WSWS", "0 0 0 0 "},
		{1, 3, "WSWS", "0 0 0 0 "},
		{1, -1, "WSWS", "0 0 0 0 "},
		{1, math.MaxInt, "WSWS", "0 0 0 0 "},
	} {
		d := made(t, 1000)
		d.Write("a", 0, "x")
		d.Arm(1, Any)
		d.Arm(c.n, c.what)
		if got := play(d, c.calls); got != c.want {
			t.Errorf("P4.1: Arm(%d, %d), %s: %s, want %s", c.n, c.what, c.calls, got, c.want)
		}
	}
	for _, c := range []struct {
		fall, arm, what int
		calls           string
		want            string
	}{
		{1, 0, Any, "WSW", "9 9 9 "},
		{2, 0, Any, "SWS", "0 9 9 "},
		{2, 0, Any, "wsWtrS", "1 5 0 0 0 9 "},
		{1, 1, Any, "WS", "9 9 "},              // the arm doesn't count it
		{2, 1, Any, "WS", "40 9 "},             // what an arm refuses counts for the fall
		{3, 2, Writes, "SWW", "0 0 9 "},        // both at once: the power goes
		{4, 2, Writes, "SWWSW", "0 0 40 9 9 "}, // one behind the other
		{0, 2, Syncs, "WSWS", "0 0 0 40 "},     // no fall
		{-1, 0, Any, "WSWS", "0 0 0 0 "},       // no fall
		{math.MinInt, 0, Any, "WSWS", "0 0 0 0 "},
		{math.MaxInt, 1, Syncs, "WSWS", "0 40 0 0 "},
	} {
		d := made(t, 1000)
		d.Write("a", 0, "x")
		d.Fall(2)
		d.Fall(c.fall)
		d.Arm(c.arm, c.what)
		if got := play(d, c.calls); got != c.want {
			t.Errorf("P4.1: Fall(%d), Arm(%d, %d), %s: %s, want %s", c.fall, c.arm, c.what, c.calls, got, c.want)
		}
	}
}

func TestRefusedByArmOrFall(t *testing.T) {
	for _, fall := range []bool{false, true} {
		for _, write := range []bool{false, true} {
			d := made(t, 1000)
			names := []string{"a", "b"}
			d.Write("a", 0, x(100))
			d.Sync("a")
			d.Write("a", 80, strings.Repeat("y", 100))
			before := all(d, names)
			kept := d.Copy()
			crash(kept, api.Fate{File: "a", Sector: 1, Kind: 1}, api.Fate{File: "a", Sector: 2, Kind: 2, Bytes: "z"})
			e := api.ErrDisk
			if fall {
				d.Fall(1)
				e = api.ErrOff
			} else {
				d.Arm(1, Any)
			}
			if write {
				is(t, "P4.1: Write", d.Write("a", 0, x(300)), e)
			} else {
				is(t, "P4.1: Sync", d.Sync("a"), e)
			}
			if !fall && all(d, names) != before {
				t.Error("P4.4: a call that an arm refused has changed something")
			}
			crash(d, api.Fate{File: "a", Sector: 1, Kind: 1}, api.Fate{File: "a", Sector: 2, Kind: 2, Bytes: "z"})
			if all(d, names) != all(kept, names) {
				t.Error("P4.4: a refused call has changed what is seen, safe or dirty")
			}
		}
	}
}

func TestSafeStays(t *testing.T) {
	var fates []api.Fate
	for _, name := range []string{"a", "b", "c"} {
		for s := range 8 {
			fates = append(fates, api.Fate{File: name, Sector: s, Kind: api.FateReplace, Bytes: "wrong"})
		}
	}
	for kind := range 4 {
		for i := range fates {
			fates[i].Kind = kind
		}
		d := made(t, 5000)
		d.Write("a", 0, x(300))
		d.Write("a", 100, "more")
		is(t, "P4.2: Sync", d.Sync("a"), api.OK)
		want := x(100) + "more" + x(196)
		for range 3 {
			d.Write("b", 0, x(500))
			d.Rename("b", "c")
			d.Write("b", 0, x(10))
			d.Truncate("c", 20)
			d.Write("a", -1, "wrong")
			d.Truncate("a", 301)
			crash(d, fates...)
			reads(t, "P4.2: synced", d, "a", want)
			d.Remove("b")
		}
		is(t, "P4.2: Rename", d.Rename("a", "b"), api.OK)
		d.Crash(fates)
		d.On()
		reads(t, "P4.2: synced and renamed", d, "b", want)
		if !slices.Equal(d.List(), []string{"b", "c"}) {
			t.Errorf("P4.2: List = %q", d.List())
		}
	}
}

func TestRename(t *testing.T) {
	d := made(t, 1000)
	d.Write("a", 0, x(100))
	d.Sync("a")
	d.Write("a", 64, "dirty")
	d.Write("b", 0, strings.Repeat("b", 300))
	is(t, "P4.1: Rename", d.Rename("a", "b"), api.OK)
	if !slices.Equal(d.Dirty("b"), []int{1}) || len(d.Dirty("a")) != 0 || d.Used() != 100 {
		t.Errorf("P4.1: Dirty = %v, %v, Used = %d", d.Dirty("b"), d.Dirty("a"), d.Used())
	}
	is(t, "P4.1: Rename to itself", d.Rename("b", "b"), api.OK)
	reads(t, "P4.1: renamed to itself", d, "b", x(64)+"dirty"+x(31))
	c := d.Copy()
	crash(c, api.Fate{File: "a", Sector: 1, Kind: api.FateKept})
	reads(t, "P4.1: the old name's fate", c, "b", x(100))
	crash(d, api.Fate{File: "b", Sector: 1, Kind: api.FateKept})
	reads(t, "P4.1: the new name's fate", d, "b", x(64)+"dirty"+x(31))
}

func TestRemove(t *testing.T) {
	d := made(t, 1000)
	d.Write("a", 0, x(100))
	d.Sync("a")
	d.Write("a", 0, "dirty")
	is(t, "P4.1: Remove", d.Remove("a"), api.OK)
	is(t, "P4.1: Remove again", d.Remove("a"), api.ErrNone)
	c := d.Copy()
	crash(c, api.Fate{File: "a", Sector: 0, Kind: api.FateKept})
	if len(c.List()) != 0 || c.Used() != 0 {
		t.Errorf("P4.1: removed is safe at once: %q", c.List())
	}
	is(t, "P4.1: Write", d.Write("a", 0, "new"), api.OK)
	crash(d)
	reads(t, "P4.1: nothing is left of the removed one", d, "a", "")
}

func TestMemory(t *testing.T) {
	d := made(t, 1000)
	name, text := []byte("name"), []byte("text")
	is(t, "P4.1: Write", d.Write(unsafe.String(&name[0], 4), 0, unsafe.String(&text[0], 4)), api.OK)
	to := []byte("other")
	d.Write("b", 0, x(200))
	is(t, "P4.1: Rename", d.Rename("b", unsafe.String(&to[0], 5)), api.OK)
	name[0], text[0], to[0] = '!', '!', '!'
	if !slices.Equal(d.List(), []string{"name", "other"}) {
		t.Errorf("P4.5: a name that was handed in is kept: %q", d.List())
	}
	reads(t, "P4.5: a text that was handed in is kept", d, "name", "text")
	read, _ := d.Read("name", 0, 4)
	d.Write("name", 0, "over")
	if read != "text" {
		t.Errorf("P4.5: what was read has become %q", read)
	}
	list, dirty := d.List(), d.Dirty("other")
	list[0], dirty[0] = "wrong", 9
	if !slices.Equal(d.List(), []string{"name", "other"}) || !slices.Equal(d.Dirty("other"), []int{0, 1, 2, 3}) {
		t.Errorf("P4.5: a list that was written over shows: %q, %v", d.List(), d.Dirty("other"))
	}
	bytes := []byte("bytes")
	fates := make([]api.Fate, 1, 4)
	fates[0] = api.Fate{File: "other", Sector: 0, Kind: 2, Bytes: unsafe.String(&bytes[0], 5)}
	fates[:2][1] = api.Fate{File: "name", Sector: 0, Kind: 1}
	d.Crash(fates)
	if fates[0] != (api.Fate{File: "other", Sector: 0, Kind: 2, Bytes: "bytes"}) || fates[:2][1].File != "name" || fates[:4][3] != (api.Fate{}) {
		t.Error("P4.5: the fates are changed")
	}
	bytes[0], fates[0] = '!', api.Fate{}
	d.On()
	reads(t, "P4.5: a fate that was handed in is kept", d, "other", "bytes"+zeros(59))
	reads(t, "P4.5: spare room of the fates was looked at", d, "name", "")
}

func TestCopies(t *testing.T) {
	names := []string{"a", "b", "c"}
	make2 := func() (*Disk, *Disk) {
		d := made(t, 1000)
		d.Write("a", 0, x(100))
		d.Sync("a")
		d.Write("a", 90, strings.Repeat("y", 50))
		d.Write("b", 0, "b")
		d.Arm(3, Writes)
		d.Fall(9)
		return d, d.Copy()
	}
	for i, change := range []func(d *Disk){
		func(d *Disk) { d.Write("a", 0, "zz"); d.Write("a", 140, x(500)) },
		func(d *Disk) { d.Sync("a") },
		func(d *Disk) { d.Truncate("a", 3); d.Write("a", 3, "zzzz") },
		func(d *Disk) { d.Rename("a", "c") },
		func(d *Disk) { d.Remove("a"); d.Write("c", 0, "") },
		func(d *Disk) { d.Arm(1, Any) },
		func(d *Disk) { d.Fall(1) },
		func(d *Disk) { d.Crash([]api.Fate{{File: "a", Sector: 1, Kind: 2}}) },
		func(d *Disk) { d.Crash(nil); d.On(); d.Write("a", 0, "z"); d.Sync("a") },
	} {
		for _, first := range []bool{true, false} {
			d, c := make2()
			if !first {
				d, c = c, d
			}
			before := all(c, names)
			change(d)
			if all(c, names) != before {
				t.Errorf("P4.5: change %d of one disk shows in the other", i)
			}
			for j, want := range []api.Errno{0, 0, api.ErrDisk, 0, 0, 0, 0, 0, api.ErrOff} {
				if got := c.Write("a", 0, "q"); got != want {
					t.Errorf("P4.5: change %d of one disk: Write %d of the other answers %d, want %d", i, j, got, want)
				}
			}
		}
	}
	d, _ := make2()
	d.Crash(nil)
	c := d.Copy()
	if !c.Off() {
		t.Error("P4.1: the copy of a disk that is off is on")
	}
	if c.On(); !d.Off() || c.Off() {
		t.Error("P4.5: On of one disk shows in the other")
	}
	c = made(t, 10).Copy()
	is(t, "P4.1: a copy has the capacity", c.Write("a", 0, x(11)), api.ErrSpace)
	is(t, "P4.1: a copy has the capacity", c.Write("a", 0, x(10)), api.OK)
}
