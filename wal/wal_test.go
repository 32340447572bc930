package wal

import (
	"fmt"
	"math"
	"slices"
	"strings"
	"testing"
	"unsafe"

	"escrow/api"
	"escrow/disk"
	"escrow/frame"
)

func made(t *testing.T, capacity int) *disk.Disk {
	t.Helper()
	d, e := disk.New(capacity)
	if d == nil || e != api.OK {
		t.Fatalf("disk.New(%d) answers %d", capacity, e)
	}
	return d
}

// file is one that others laid.
type file struct{ name, text string }

func laid(t *testing.T, files ...file) *disk.Disk {
	t.Helper()
	d := made(t, 1<<24)
	for _, f := range files {
		if e := d.Write(f.name, 0, f.text); e != api.OK {
			t.Fatalf("Write(%q) answers %d", f.name, e)
		}
	}
	return d
}

// row is the frames of payloads, from a number on.
func row(n int64, payloads ...string) string {
	var b strings.Builder
	for i, payload := range payloads {
		text, _ := frame.Frame(n+int64(i), payload)
		b.WriteString(text)
	}
	return b.String()
}

// opens: Open of "log" is OK, tells these payloads, and goes on behind them.
func opens(t *testing.T, promise string, d *disk.Disk, segment int, first int64, want ...string) *Log {
	t.Helper()
	l, got, e := Open(d, "log", segment, first)
	if l == nil || e != api.OK || !slices.Equal(got, want) {
		t.Fatalf("%s: Open(%d, %d) = %.300q, %d, want %.300q", promise, segment, first, got, e, want)
	}
	if l.Next() != first+int64(len(want)) {
		t.Fatalf("%s: Open(%d, %d): Next is %d, want %d", promise, segment, first, l.Next(), first+int64(len(want)))
	}
	return l
}

// refuses: Open answers this error, and nothing else, and leaves the disk as it was.
func refuses(t *testing.T, promise string, d *disk.Disk, name string, segment int, first int64, want api.Errno) {
	t.Helper()
	before := whole(d)
	if l, got, e := Open(d, name, segment, first); l != nil || len(got) != 0 || e != want {
		t.Fatalf("%s: Open(%q, %d, %d) = %.300q, %d, want %d", promise, name, segment, first, got, e, want)
	}
	if whole(d) != before {
		t.Fatalf("%s: Open(%q, %d, %d), refused, changed the disk", promise, name, segment, first)
	}
}

func is(t *testing.T, what string, got, want api.Errno) {
	t.Helper()
	if got != want {
		t.Fatalf("%s answers %d, want %d", what, got, want)
	}
}

func appends(t *testing.T, l *Log, payloads ...string) {
	t.Helper()
	for _, payload := range payloads {
		is(t, fmt.Sprintf("P6.1: Append(%d bytes)", len(payload)), l.Append(payload), api.OK)
	}
}

func names(t *testing.T, l *Log, want ...string) {
	t.Helper()
	if got := l.Names(); !slices.Equal(got, want) {
		t.Fatalf("P6.1: Names = %q, want %q", got, want)
	}
}

func lists(t *testing.T, d *disk.Disk, want ...string) {
	t.Helper()
	if got := d.List(); !slices.Equal(got, want) {
		t.Fatalf("P6.1: the disk has %q, want %q", got, want)
	}
}

func size(t *testing.T, d *disk.Disk, name string, want int) {
	t.Helper()
	if got, e := d.Size(name); got != want || e != api.OK {
		t.Fatalf("P6.1: %s has %d bytes (%d), want %d", name, got, e, want)
	}
}

func crash(d *disk.Disk, fates ...api.Fate) {
	d.Crash(fates)
	d.On()
}

func x(n int) string { return strings.Repeat("x", n) }

// example1 is the log of the first example: a and b, a segment each.
func example1(t *testing.T) (*disk.Disk, *Log) {
	t.Helper()
	d := made(t, 1<<20)
	l := opens(t, "P6.1", d, 64, 0)
	names(t, l)
	lists(t, d)
	appends(t, l, "a", "b")
	return d, l
}

func TestExample1(t *testing.T) {
	d, l := example1(t)
	lists(t, d, "log.0", "log.1")
	names(t, l, "log.0", "log.1")
	size(t, d, "log.0", 64)
	if l.Next() != 2 {
		t.Errorf("P6.1: Next is %d", l.Next())
	}
	opens(t, "P6.1", d, 64, 0, "a", "b")
	opens(t, "P6.1", d, 64, 1, "b")
	opens(t, "P6.1", d, 64, 2)
	refuses(t, "P6.1", d, "log", 64, 3, api.ErrLog)
}

func TestExample2(t *testing.T) {
	d := made(t, 1<<20)
	l := opens(t, "P6.1", d, 1000, 0)
	appends(t, l, "a")
	size(t, d, "log.0", 64)
	appends(t, l, x(100))
	size(t, d, "log.0", 192)
	d.Arm(1, disk.Syncs)
	is(t, "P6.3: Append", l.Append("c"), api.ErrDisk)
	size(t, d, "log.0", 192)
	if l.Next() != 2 {
		t.Errorf("P6.3: Next is %d", l.Next())
	}
	appends(t, l, "d")
	opens(t, "P6.3", d, 1000, 0, "a", x(100), "d")
}

func TestExample3(t *testing.T) {
	other, _ := frame.Frame(1, "not c")
	for _, c := range []struct {
		fate api.Fate
		want []string
	}{
		{api.Fate{}, []string{"a"}},
		{api.Fate{File: "log.0", Sector: 1, Kind: api.FateKept}, []string{"a", "c"}},
		{api.Fate{File: "log.0", Sector: 1, Kind: api.FateLost}, []string{"a"}},
		{api.Fate{File: "log.0", Sector: 1, Kind: api.FateReplace}, []string{"a"}},
		{api.Fate{File: "log.0", Sector: 1, Kind: api.FateReplace, Bytes: "junk"}, []string{"a"}},
		{api.Fate{File: "log.0", Sector: 1, Kind: api.FateReplace, Bytes: other[:63] + "x"}, []string{"a"}},
		{api.Fate{File: "log.0", Sector: 1, Kind: api.FateReplace, Bytes: row(2, "c")}, []string{"a"}},
		{api.Fate{File: "log.0", Sector: 1, Kind: api.FateReplace, Bytes: row(1, "c")}, []string{"a", "c"}},
	} {
		d := made(t, 1<<20)
		l := opens(t, "P6.1", d, 1000, 0)
		appends(t, l, "a")
		d.Fall(2)
		is(t, "P6.1: Append", l.Append("c"), api.ErrOff)
		is(t, "P6.1: Append, dead", l.Append("d"), api.ErrLog)
		crash(d, c.fate)
		is(t, "P6.1: Append, dead, with the power back", l.Append("d"), api.ErrLog)
		opens(t, "P6.2", d, 1000, 0, c.want...)
		size(t, d, "log.0", 64*len(c.want))
	}
}

func TestExample4(t *testing.T) {
	d, l := example1(t)
	is(t, "P6.1: Reset", l.Reset(2), api.OK)
	lists(t, d)
	names(t, l)
	appends(t, l, "c")
	lists(t, d, "log.0")
	opens(t, "P6.4", d, 64, 2, "c")
	refuses(t, "P6.1", d, "log", 64, 0, api.ErrLog)
}

func TestExample5(t *testing.T) {
	refuses(t, "P6.1", laid(t, file{"log.0", row(0, "a")}, file{"log.2", row(1, "b")}), "log", 64, 0, api.ErrLog)
	refuses(t, "P6.1", laid(t, file{"log.0", x(64)}, file{"log.1", row(0, "a")}), "log", 64, 0, api.ErrLog)
	refuses(t, "P6.1", laid(t, file{"log.0", x(64)}, file{"log.1", ""}), "log", 64, 0, api.ErrLog)
	d := laid(t, file{"log.0", x(64)})
	opens(t, "P6.1", d, 64, 0)
	size(t, d, "log.0", 0)
	d = laid(t, file{"log.00", x(64)}, file{"log.x", x(64)}, file{"log.", x(64)})
	before := whole(d)
	names(t, opens(t, "P6.1", d, 64, 0))
	if whole(d) != before {
		t.Error("P6.1: Open changed files that are no segments")
	}
}

// P6.1: what is a log's name.
func TestNames(t *testing.T) {
	long := strings.Repeat("n", 24)
	for _, name := range []string{"l", "!", "~", ".", "..", "log.0", "0", "-1", long, long[:23] + "~"} {
		d := made(t, 1<<20)
		l, _, e := Open(d, name, 64, 0)
		is(t, fmt.Sprintf("P6.1: Open(%q)", name), e, api.OK)
		appends(t, l, "a", "b")
		lists(t, d, name+".0", name+".1")
		names(t, l, name+".0", name+".1")
		if _, got, e := Open(d, name, 64, 0); e != api.OK || !slices.Equal(got, []string{"a", "b"}) {
			t.Errorf("P6.1: Open(%q) again = %q, %d", name, got, e)
		}
	}
	d := made(t, 1<<20)
	for _, name := range []string{"", " ", "a b", "log ", "\x7f", "log\x7f", "a\x1f", "\x00", "\x80", "\xff", "é", long + "n", x(32), x(1000)} {
		refuses(t, "P6.1", d, name, 64, 0, api.ErrArg)
	}
	for b := range 256 {
		want := api.ErrArg
		if b >= 33 && b <= 126 {
			want = api.OK
		}
		_, _, e := Open(d, "a"+string([]byte{byte(b)})+"c", 64, 0)
		is(t, fmt.Sprintf("P6.1: Open of a name with the byte %d", b), e, want)
	}
}

// P6.1: the edges of segment and first; ErrArg goes ahead of ErrOff, and ErrOff of ErrLog.
func TestArguments(t *testing.T) {
	d := laid(t, file{"log.0", x(10)}, file{"log.5", x(10)})
	off := d.Copy()
	off.Crash(nil)
	empty := made(t, 1000)
	for _, c := range []struct {
		segment int
		first   int64
		arg     bool
	}{
		{64, 0, false}, {65, 1, false}, {api.MaxFile, 1 << 60, false}, {64, 1<<60 - 1, false},
		{63, 0, true}, {0, 0, true}, {-64, 0, true}, {math.MinInt, 0, true}, {api.MaxFile + 1, 0, true}, {math.MaxInt, 0, true},
		{64, -1, true}, {64, math.MinInt64, true}, {64, 1<<60 + 1, true}, {64, math.MaxInt64, true},
	} {
		if c.arg {
			refuses(t, "P6.1", d, "log", c.segment, c.first, api.ErrArg)
			refuses(t, "P6.1", off, "log", c.segment, c.first, api.ErrArg)
			refuses(t, "P6.1", empty, "log", c.segment, c.first, api.ErrArg)
			continue
		}
		refuses(t, "P6.1", d, "log", c.segment, c.first, api.ErrLog)
		refuses(t, "P6.1", off, "log", c.segment, c.first, api.ErrOff)
		opens(t, "P6.1", empty, c.segment, c.first)
	}
	refuses(t, "P6.1", off, "lo g", 64, 0, api.ErrArg)
}

// P6.1: which files are segments: a file that is one is in the way of log.5, if it isn't log.4 or log.6.
func TestWhichFiles(t *testing.T) {
	for _, suffix := range []string{".0", ".1", ".9", ".10", ".123", ".9999999", ".1000000"} {
		refuses(t, "P6.1", laid(t, file{"log.5", row(0, "a")}, file{"log" + suffix, ""}), "log", 64, 0, api.ErrLog)
	}
	for _, suffix := range []string{"", ".", ".x", ".00", ".01", ".05", ".0x1", ".+1", ".-1", ".-0", ".1.", ".1.1", "..1", ".1x", ".1_0", ".10000000", ".99999999", ".99999999999999999999999", ".0000001", "1", "s.1"} {
		d := laid(t, file{"log.5", row(0, "a")}, file{"log" + suffix, x(70)})
		l := opens(t, "P6.1", d, 64, 0, "a")
		names(t, l, "log.5")
		size(t, d, "log"+suffix, 70)
		if len(d.Dirty("log"+suffix)) != 2 {
			t.Errorf("P6.1: %q was synced", "log"+suffix)
		}
		is(t, "P6.1: Reset", l.Reset(1), api.OK)
		lists(t, d, "log"+suffix)
	}
	d := laid(t, file{"Log.0", x(1)}, file{"log", x(1)}, file{"a.log.3", x(1)}, file{"lo.g.0", x(1)}, file{"7", x(1)}, file{".8", x(1)}, file{"log.4", ""})
	names(t, opens(t, "P6.1", d, 64, 0), "log.4")
}

// P6.1: segments go by their numbers, not by the order of their names' bytes; the numbers may begin anywhere.
func TestOrder(t *testing.T) {
	d := laid(t, file{"log.9", row(4, "a")}, file{"log.10", row(5, "b", "c")}, file{"log.11", ""}, file{"log.8", ""})
	l := opens(t, "P6.1", d, 64, 4, "a", "b", "c")
	names(t, l, "log.8", "log.9", "log.10", "log.11")
	d = laid(t, file{"log.99", row(4, "a")}, file{"log.100", row(5, "b") + "tail"}, file{"log.98", row(3, "z")})
	names(t, opens(t, "P6.1", d, 64, 3, "z", "a", "b"), "log.98", "log.99", "log.100")
	size(t, d, "log.100", 64)
	var all []file
	var want []string
	for i := range 16 {
		all = append(all, file{fmt.Sprint("log.", 9999984+i), row(int64(i), fmt.Sprint(i))})
		want = append(want, fmt.Sprint(i))
	}
	opens(t, "P6.1", laid(t, all...), 64, 0, want...)
}

// P6.1: gaps in the segments' numbers, at any place.
func TestGaps(t *testing.T) {
	for _, numbers := range [][]int{{0, 2}, {1, 3}, {0, 1, 3}, {0, 2, 3}, {0, 9999999}, {9, 11}, {0, 1, 2, 4, 5}, {0, 10}, {1, 10, 11}} {
		var empty, full []file
		for i, n := range numbers {
			empty = append(empty, file{fmt.Sprint("log.", n), ""})
			full = append(full, file{fmt.Sprint("log.", n), row(int64(i), "a")})
		}
		refuses(t, "P6.1", laid(t, empty...), "log", 64, 0, api.ErrLog)
		refuses(t, "P6.1", laid(t, full...), "log", 64, 0, api.ErrLog)
	}
}

// found is what a log may find, and what Open makes of it.
type found struct {
	texts []string // of log.0, log.1 and so on
	first int64
	want  []string
	e     api.Errno
	cut   int // bytes of the last segment behind Open
}

// P6.1: what stands in the segments: frames that go on, empty segments, something else in the last one and in another.
func TestFound(t *testing.T) {
	a, b, c := row(7, "a"), row(8, "b"), row(9, x(100))
	for i, f := range []found{
		{[]string{a, b, c}, 7, []string{"a", "b", x(100)}, 0, 128},
		{[]string{a + b, c}, 8, []string{"b", x(100)}, 0, 128},
		{[]string{a + b + c}, 9, []string{x(100)}, 0, 256},
		{[]string{a + b + c}, 10, nil, 0, 256},
		{[]string{a + b + c}, 11, nil, api.ErrLog, 256},
		{[]string{a + b + c}, 6, nil, api.ErrLog, 256},
		{[]string{a + b + c}, 0, nil, api.ErrLog, 256},
		{[]string{"", a, b}, 7, []string{"a", "b"}, 0, 64},
		{[]string{"", "", a + b, "", c, "", ""}, 7, []string{"a", "b", x(100)}, 0, 0},
		{[]string{"", "", ""}, 5, nil, 0, 0},
		{[]string{""}, 1 << 60, nil, 0, 0},
		{[]string{a, c}, 7, []string{"a"}, 0, 0},
		{[]string{a, "", c}, 7, []string{"a"}, 0, 0},
		{[]string{a, c, ""}, 7, nil, api.ErrLog, 0},
		{[]string{a, a}, 7, []string{"a"}, 0, 0},
		{[]string{a, c, b}, 7, nil, api.ErrLog, 64},
		{[]string{b, a}, 8, []string{"b"}, 0, 0},
		{[]string{b, a}, 7, nil, api.ErrLog, 64},
		{[]string{a + a, b}, 7, nil, api.ErrLog, 64},
		{[]string{a + "x", b}, 7, nil, api.ErrLog, 64},
		{[]string{a + "x", ""}, 7, nil, api.ErrLog, 0},
		{[]string{a + "\x00", b}, 7, nil, api.ErrLog, 64},
		{[]string{a, b + "x"}, 7, []string{"a", "b"}, 0, 64},
		{[]string{a, b + c[:127]}, 7, []string{"a", "b"}, 0, 64},
		{[]string{a, b + c[:64]}, 7, []string{"a", "b"}, 0, 64},
		{[]string{a, b[:63]}, 7, []string{"a"}, 0, 0},
		{[]string{a, "x"}, 7, []string{"a"}, 0, 0},
		{[]string{a, "x" + b}, 7, []string{"a"}, 0, 0},
		{[]string{"x"}, 3, nil, 0, 0},
		{[]string{a[:63]}, 3, nil, 0, 0},
		{[]string{a[:15]}, 3, nil, 0, 0},
		{[]string{a[:16]}, 3, nil, 0, 0},
		{[]string{a[:12]}, 3, nil, 0, 0},
		{[]string{a[:11]}, 3, nil, 0, 0},
		{[]string{"", "x"}, 3, nil, 0, 0},
		{[]string{"x", ""}, 3, nil, api.ErrLog, 0},
		{[]string{"", "x", a}, 7, nil, api.ErrLog, 64},
		{[]string{strings.Repeat("\x00", 64)}, 0, nil, 0, 0},
		{[]string{strings.Repeat("\x00", 64), row(0, "")}, 0, nil, api.ErrLog, 64},
		{[]string{strings.Repeat("\xff", 640)}, 0, nil, 0, 0},
		{[]string{row(0, ""), row(1, "")}, 0, []string{"", ""}, 0, 64},
	} {
		checkFound(t, fmt.Sprint("case ", i), f)
	}
}

// P6.1: the first number is one below 1 << 60; those that follow may be greater.
func TestGreatNumbers(t *testing.T) {
	const end = 1 << 60
	for i, f := range []found{
		{[]string{row(end-1, "a")}, end - 1, []string{"a"}, 0, 64},
		{[]string{row(end-1, "a")}, end, nil, 0, 64},
		{[]string{row(end, "a")}, end, nil, 0, 0},
		{[]string{row(end, "a")}, 3, nil, 0, 0},
		{[]string{row(end, "a"), ""}, end, nil, api.ErrLog, 0},
		{[]string{row(math.MaxInt64, "a", "b")}, end, nil, 0, 0},
		{[]string{row(end-1, "a", "b", "c"), row(end+2, "d")}, end, []string{"b", "c", "d"}, 0, 64},
		{[]string{row(end-1, "a", "b", "c"), row(end+2, "d")}, end - 1, []string{"a", "b", "c", "d"}, 0, 64},
		{[]string{row(end-2, "a"), row(end, "b")}, end - 2, []string{"a"}, 0, 0},
	} {
		checkFound(t, fmt.Sprint("case ", i), f)
	}
	d := laid(t, file{"log.0", row(end-1, "a", "b", "c")})
	l, got, e := Open(d, "log", 64, end)
	if e != api.OK || !slices.Equal(got, []string{"b", "c"}) || l.Next() != end+2 {
		t.Fatalf("P6.1: Open = %q, %d, Next %d", got, e, l.Next())
	}
	before := whole(d)
	is(t, "P6.1: Append", l.Append("d"), api.ErrFull)
	is(t, "P6.1: Append", l.Append(x(65537)), api.ErrLong)
	if whole(d) != before {
		t.Error("P6.1: Append, with ErrFull, changed the disk")
	}
	is(t, "P6.1: Reset", l.Reset(end+3), api.ErrArg)
	is(t, "P6.1: Reset", l.Reset(end+1), api.OK)
	lists(t, d, "log.0")
	is(t, "P6.1: Reset", l.Reset(end+2), api.OK)
	lists(t, d)
	is(t, "P6.1: Append", l.Append("d"), api.ErrFull)
	l = opens(t, "P6.1", made(t, 1000), 64, end-1)
	appends(t, l, "last")
	is(t, "P6.1: Append", l.Append("more"), api.ErrFull)
	is(t, "P6.1: Append", l.Append(x(65537)), api.ErrLong)
	if l.Next() != end {
		t.Errorf("P6.1: Next is %d", l.Next())
	}
}

func checkFound(t *testing.T, what string, f found) {
	t.Helper()
	var files []file
	for i, text := range f.texts {
		files = append(files, file{fmt.Sprint("log.", i), text})
	}
	d := laid(t, files...)
	if f.e != api.OK {
		refuses(t, "P6.1: "+what, d, "log", 64, f.first, f.e)
		return
	}
	l := opens(t, "P6.1: "+what, d, 64, f.first, f.want...)
	for i, text := range f.texts {
		want := text
		if i == len(f.texts)-1 {
			want = text[:f.cut]
		}
		if got, _ := d.Read(files[i].name, 0, 1<<20); got != want {
			t.Fatalf("P6.1: %s: log.%d has %.200q, want %.200q", what, i, got, want)
		}
		if dirty := d.Dirty(files[i].name); len(dirty) != 0 {
			t.Fatalf("P6.2: %s: log.%d is dirty: %d", what, i, dirty)
		}
	}
	crash(d, fatesOfAll(api.FateReplace)...)
	opens(t, "P6.4: "+what, d, 64, f.first, f.want...)
	if l.Next() >= 1<<60 {
		return
	}
	appends(t, l, "more")
	opens(t, "P6.2: "+what, d, 64, f.first, append(slices.Clone(f.want), "more")...)
}

// fatesOfAll are fates of the first sectors of the first segments.
func fatesOfAll(kind int) []api.Fate {
	var fates []api.Fate
	for i := range 8 {
		for s := range 16 {
			fates = append(fates, api.Fate{File: fmt.Sprint("log.", i), Sector: s, Kind: kind, Bytes: "junk"})
		}
	}
	return fates
}

// P6.1: every byte of a segment changed, and every length of it: in the last segment what follows is cut off, in another it is ErrLog.
func TestEveryByte(t *testing.T) {
	text := row(3, "ab", x(60), "")
	ends := []int{0, 64, 192, 256}
	payloads := []string{"ab", x(60), ""}
	for i := range len(text) {
		k := 0
		for ends[k+1] <= i {
			k++
		}
		changed := []byte(text)
		changed[i] ^= 0x41
		for what, bytes := range map[string]string{"changed": string(changed), "cut": text[:i]} {
			d := laid(t, file{"log.0", bytes})
			opens(t, fmt.Sprintf("P6.1: byte %d %s", i, what), d, 64, 3, payloads[:k]...)
			size(t, d, "log.0", ends[k])
			if len(bytes) > ends[k] {
				refuses(t, fmt.Sprintf("P6.1: byte %d %s", i, what), laid(t, file{"log.0", bytes}, file{"log.1", ""}), "log", 64, 3, api.ErrLog)
			}
		}
	}
}

// P6.1: where a frame goes: behind the others as long as the segment isn't greater than said, in a new one else.
func TestPlaces(t *testing.T) {
	for _, c := range []struct {
		segment int
		sizes   []int // of payloads
		want    []int // bytes of log.0, log.1 and so on
	}{
		{64, []int{48, 48, 0}, []int{64, 64, 64}},
		{64, []int{49, 48}, []int{128, 64}},
		{64, []int{1000, 1000}, []int{1024, 1024}},
		{127, []int{0, 0}, []int{64, 64}},
		{128, []int{0, 0, 0}, []int{128, 64}},
		{129, []int{0, 0, 0}, []int{128, 64}},
		{191, []int{0, 49}, []int{64, 128}},
		{192, []int{0, 49, 0}, []int{192, 64}},
		{192, []int{49, 0, 0}, []int{192, 64}},
		{192, []int{0, 113, 0, 0}, []int{64, 192, 128}},
		{1 << 20, []int{65536, 65536, 0}, []int{131264}},
		{64, []int{65536, 65536}, []int{65600, 65600}},
		{65664, []int{0, 65536, 0}, []int{65664, 64}},
		{65663, []int{0, 65536, 0}, []int{64, 65600, 64}},
	} {
		d := made(t, 1<<24)
		l := opens(t, "P6.1", d, c.segment, 0)
		var want []string
		for i, n := range c.sizes {
			want = append(want, strings.Repeat(string(rune('a'+i)), n))
		}
		appends(t, l, want...)
		var got []int
		for _, name := range l.Names() {
			n, _ := d.Size(name)
			got = append(got, n)
		}
		if !slices.Equal(got, c.want) || !slices.Equal(d.List(), l.Names()) {
			t.Errorf("P6.1: segments of %d with %v: %v in %q, want %v", c.segment, c.sizes, got, d.List(), c.want)
		}
		opens(t, "P6.2", d, 64, 0, want...)
	}
}

// P6.1: behind Open a frame goes where it would have gone, but an empty last segment takes any.
func TestPlacesBehindOpen(t *testing.T) {
	for _, c := range []struct {
		texts   []string
		segment int
		want    string // where the next frame goes
		size    int
	}{
		{nil, 64, "log.0", 128},
		{[]string{""}, 64, "log.0", 128},
		{[]string{"", ""}, 64, "log.1", 128},
		{[]string{row(0, "a")}, 64, "log.1", 128},
		{[]string{row(0, "a")}, 191, "log.1", 128},
		{[]string{row(0, "a")}, 192, "log.0", 192},
		{[]string{row(0, "a"), ""}, 192, "log.1", 128},
		{[]string{row(0, "a"), ""}, 64, "log.1", 128},
		{[]string{row(0, "a"), "torn"}, 64, "log.1", 128},
		{[]string{row(0, "a") + x(128)}, 192, "log.0", 192},
		{[]string{x(640)}, 64, "log.0", 128},
		{[]string{row(0, "a", "b", "c", "d")}, 64, "log.1", 128},
	} {
		var files []file
		for i, text := range c.texts {
			files = append(files, file{fmt.Sprint("log.", i), text})
		}
		d := laid(t, files...)
		l, _, e := Open(d, "log", c.segment, 0)
		is(t, "P6.1: Open", e, api.OK)
		next := l.Next()
		appends(t, l, x(49))
		size(t, d, c.want, c.size)
		if text, _ := d.Read(c.want, c.size-128, 128); text != row(next, x(49)) {
			t.Errorf("P6.1: %q, segments of %d: the frame isn't in %s", c.texts, c.segment, c.want)
		}
		if got := l.Names(); !slices.Equal(got, d.List()) || got[len(got)-1] != c.want {
			t.Errorf("P6.1: %q, segments of %d: Names %q", c.texts, c.segment, got)
		}
	}
}

// P6.1: a segment of the greatest size is filled to its last byte, and no further.
func TestGreatestSegment(t *testing.T) {
	d := made(t, 1<<24)
	var files strings.Builder
	for i := range int64(api.MaxFile/64 - 2) {
		files.WriteString(row(i, ""))
	}
	d.Write("log.0", 0, files.String())
	l, _, e := Open(d, "log", api.MaxFile, 0)
	is(t, "P6.1: Open", e, api.OK)
	appends(t, l, "a", "b")
	size(t, d, "log.0", api.MaxFile)
	appends(t, l, "c")
	names(t, l, "log.0", "log.1")
	opens(t, "P6.2", d, 64, api.MaxFile/64-2, "a", "b", "c")
}

// P6.1: behind segment 9999999 there is none, but segment 0 when all are gone.
func TestLastNumber(t *testing.T) {
	d := laid(t, file{"log.9999998", row(0, "a")}, file{"log.9999999", row(1, "b")}, file{"log.10000000", "other"})
	l := opens(t, "P6.1", d, 128, 0, "a", "b")
	names(t, l, "log.9999998", "log.9999999")
	before := whole(d)
	is(t, "P6.1: Append", l.Append(x(49)), api.ErrFull)
	is(t, "P6.1: Append", l.Append(x(65537)), api.ErrLong)
	if whole(d) != before || l.Next() != 2 {
		t.Error("P6.1: Append, with ErrFull, did something")
	}
	appends(t, l, "c")
	is(t, "P6.1: Append", l.Append("d"), api.ErrFull)
	opens(t, "P6.3", d, 64, 0, "a", "b", "c")
	is(t, "P6.1: Reset", l.Reset(2), api.OK)
	names(t, l, "log.9999999")
	is(t, "P6.1: Append", l.Append("d"), api.ErrFull)
	is(t, "P6.1: Reset", l.Reset(3), api.OK)
	appends(t, l, "d")
	names(t, l, "log.0")
	lists(t, d, "log.0", "log.10000000")
	l = opens(t, "P6.1", laid(t, file{"log.9999999", ""}), 64, 0)
	appends(t, l, x(200))
	is(t, "P6.1: Append", l.Append(""), api.ErrFull)
}

// P6.1: payloads of every length about the edges; one too long is refused, dead logs answer ErrLog ahead of it.
func TestPayloads(t *testing.T) {
	d := made(t, 1<<24)
	l := opens(t, "P6.1", d, 1<<20, 0)
	var want []string
	for _, n := range []int{0, 1, 47, 48, 49, 111, 112, 113, 65535, 65536} {
		want = append(want, strings.Repeat("\x00\xff", n/2)+x(n%2))
		appends(t, l, want[len(want)-1])
	}
	before := whole(d)
	is(t, "P6.1: Append", l.Append(x(65537)), api.ErrLong)
	is(t, "P6.1: Append", l.Append(x(1<<20+1)), api.ErrLong)
	if whole(d) != before {
		t.Error("P6.3: Append, with ErrLong, changed the disk")
	}
	opens(t, "P6.1", d, 1<<20, 0, want...)
	d.Crash(nil)
	is(t, "P6.1: Append, off", l.Append(x(65537)), api.ErrLong)
	is(t, "P6.1: Append, off", l.Append(""), api.ErrOff)
	is(t, "P6.1: Append, dead", l.Append(x(65537)), api.ErrLog)
}

// P6.1: Reset below, at and above the next number, and at every number between.
func TestReset(t *testing.T) {
	// Numbers 5 and 6 stand in log.0, 7 in log.1, 8 and 9 in log.2.
	for n, want := range map[int64][]string{
		-1: nil, math.MinInt64: nil, 11: nil, math.MaxInt64: nil,
		0: {"log.0", "log.1", "log.2"}, 4: {"log.0", "log.1", "log.2"}, 5: {"log.0", "log.1", "log.2"}, 6: {"log.0", "log.1", "log.2"},
		7: {"log.1", "log.2"}, 8: {"log.2"}, 9: {"log.2"}, 10: {},
	} {
		d := made(t, 1<<20)
		l := opens(t, "P6.1", d, 128, 5)
		all := []string{"5", "6", x(100), "8", "9"}
		appends(t, l, all...)
		if want == nil {
			before := whole(d)
			is(t, fmt.Sprintf("P6.1: Reset(%d)", n), l.Reset(n), api.ErrArg)
			names(t, l, "log.0", "log.1", "log.2")
			if whole(d) != before {
				t.Errorf("P6.1: Reset(%d), refused, changed the disk", n)
			}
			continue
		}
		is(t, fmt.Sprintf("P6.1: Reset(%d)", n), l.Reset(n), api.OK)
		names(t, l, want...)
		lists(t, d, want...)
		if l.Next() != 10 {
			t.Errorf("P6.1: behind Reset(%d) Next is %d", n, l.Next())
		}
		crash(d, fatesOfAll(api.FateReplace)...)
		if n < 5 {
			refuses(t, "P6.1", d, "log", 128, n, api.ErrLog)
			n = 5
		}
		opens(t, "P6.4", d, 128, n, all[n-5:]...)
		appends(t, l, "10")
		opens(t, "P6.4", d, 128, n, append(all[n-5:], "10")...)
	}
}

// P6.1: segments without frames go too, ahead of others, among them and behind them, as far as Reset comes.
func TestResetEmpty(t *testing.T) {
	files := []file{{"log.3", ""}, {"log.4", row(7, "a")}, {"log.5", ""}, {"log.6", ""}, {"log.7", row(8, "b", "c")}, {"log.8", "torn"}}
	for n, want := range map[int64][]string{
		0:  {"log.4", "log.5", "log.6", "log.7", "log.8"},
		7:  {"log.4", "log.5", "log.6", "log.7", "log.8"},
		8:  {"log.7", "log.8"},
		9:  {"log.7", "log.8"},
		10: {},
	} {
		d := laid(t, files...)
		l, _, e := Open(d, "log", 64, 9)
		is(t, "P6.1: Open", e, api.OK)
		is(t, "P6.1: Reset", l.Reset(n), api.OK)
		names(t, l, want...)
		lists(t, d, want...)
	}
	d := laid(t, file{"log.3", ""}, file{"log.4", ""})
	l := opens(t, "P6.1", d, 64, 9)
	is(t, "P6.1: Reset", l.Reset(0), api.OK)
	lists(t, d)
	appends(t, l, "a")
	lists(t, d, "log.0")
	opens(t, "P6.1", d, 64, 9, "a")
}

// P6.1: where removing is refused the log is dead, and remembers what is left.
func TestResetRefused(t *testing.T) {
	d, l := example1(t)
	appends(t, l, "c", "d")
	d.Remove("log.2")
	is(t, "P6.1: Reset", l.Reset(4), api.ErrNone)
	names(t, l, "log.2", "log.3")
	lists(t, d, "log.3")
	dead(t, l, 4, "log.2", "log.3")

	d, l = example1(t)
	d.Crash(nil)
	is(t, "P6.1: Reset that removes nothing, off", l.Reset(0), api.OK)
	is(t, "P6.1: Reset, off", l.Reset(2), api.ErrOff)
	dead(t, l, 2, "log.0", "log.1")
	d.On()
	dead(t, l, 2, "log.0", "log.1")
	opens(t, "P6.4", d, 64, 2)
	opens(t, "P6.2", d, 64, 0, "a", "b")
	d, l = example1(t)
	d.Crash(nil)
	is(t, "P6.1: Reset of a wrong number, off", l.Reset(3), api.ErrArg)
	d.On()
	appends(t, l, "c")
}

// dead: the log answers ErrLog to all but Next and Names.
func dead(t *testing.T, l *Log, next int64, files ...string) {
	t.Helper()
	for range 2 {
		is(t, "P6.1: Append, dead", l.Append("dead"), api.ErrLog)
		is(t, "P6.1: Append, dead", l.Append(x(65537)), api.ErrLog)
		is(t, "P6.1: Reset, dead", l.Reset(0), api.ErrLog)
		is(t, "P6.1: Reset, dead", l.Reset(-1), api.ErrLog)
		if l.Next() != next {
			t.Fatalf("P6.1: Next of a dead log is %d, want %d", l.Next(), next)
		}
		names(t, l, files...)
	}
}

// P6.1: a log dies with the power; a new segment that its Append began is none of its own.
func TestDead(t *testing.T) {
	for n := 1; n <= 2; n++ {
		d, l := example1(t)
		d.Fall(n)
		is(t, "P6.1: Append to a new segment", l.Append("c"), api.ErrOff)
		dead(t, l, 2, "log.0", "log.1")
		crash(d, fatesOfAll(api.FateKept)...)
		dead(t, l, 2, "log.0", "log.1")
		m := opens(t, "P6.2", d, 64, 0, []string{"a", "b", "c"}[:n+1]...)
		names(t, m, []string{"log.0", "log.1", "log.2"}[:n+1]...)

		d = made(t, 1000)
		l = opens(t, "P6.1", d, 64, 3)
		d.Fall(n)
		is(t, "P6.1: Append to the first segment", l.Append("a"), api.ErrOff)
		dead(t, l, 3)

		d = made(t, 1000)
		l = opens(t, "P6.1", d, 1000, 3)
		appends(t, l, "a")
		d.Fall(n)
		is(t, "P6.1: Append", l.Append("b"), api.ErrOff)
		dead(t, l, 4, "log.0")
	}
}

// P6.1: no refusal but the loss of power ends a log.
func TestNotDead(t *testing.T) {
	d, l := example1(t)
	for range 3 {
		d.Arm(1, disk.Writes)
		is(t, "P6.3: Append", l.Append("no"), api.ErrDisk)
		d.Arm(1, disk.Syncs)
		is(t, "P6.3: Append", l.Append("no"), api.ErrDisk)
		is(t, "P6.1: Append", l.Append(x(65537)), api.ErrLong)
		is(t, "P6.1: Reset", l.Reset(9), api.ErrArg)
	}
	appends(t, l, "c")
	opens(t, "P6.3", d, 64, 0, "a", "b", "c")
}

// P6.1: where what was written can't be cut off the log is dead. (A disk that refuses a Sync with ErrDisk is on and has the file, so it can't refuse that; the part that cuts is asked alone, of a file that was taken away.)
func TestCutRefused(t *testing.T) {
	for _, fresh := range []bool{true, false} {
		d, l := example1(t)
		d.Remove("log.1")
		l.takeBack(l.segments[1], fresh)
		dead(t, l, 2, "log.0", "log.1")
		d, l = example1(t)
		d.Crash(nil)
		l.takeBack(l.segments[1], fresh)
		dead(t, l, 2, "log.0", "log.1")
	}
	d, l := example1(t)
	d.Truncate("log.1", 63)
	l.takeBack(l.segments[1], false)
	dead(t, l, 2, "log.0", "log.1")
}

// P6.1: the log goes by what it remembers, not by what others have made of the disk.
func TestTakenAway(t *testing.T) {
	d := made(t, 10000)
	l := opens(t, "P6.1", d, 1000, 0)
	appends(t, l, "a", "b")
	d.Truncate("log.0", 127)
	is(t, "P6.1: Append behind the end", l.Append("c"), api.ErrArg)
	d.Remove("log.0")
	is(t, "P6.1: Append to no file", l.Append("c"), api.ErrArg)
	lists(t, d)
	names(t, l, "log.0")
	d.Write("log.0", 0, row(0, "a", "b")+x(300))
	appends(t, l, "c")
	if text, _ := d.Read("log.0", 0, 1000); text != row(0, "a", "b", "c")+x(236) {
		t.Errorf("P6.1: the frame isn't where the log's bytes end: %q", text)
	}
	d.Arm(1, disk.Syncs)
	is(t, "P6.1: Append", l.Append("d"), api.ErrDisk)
	size(t, d, "log.0", 192)

	d, l = example1(t)
	d.Write("log.2", 0, x(100))
	d.Write("log.7", 0, x(100))
	names(t, l, "log.0", "log.1")
	appends(t, l, "c")
	if text, _ := d.Read("log.2", 0, 1000); text != row(2, "c")+x(36) {
		t.Errorf("P6.1: the frame isn't at the beginning: %q", text)
	}
	d.Write("log.3", 0, x(100))
	d.Arm(1, disk.Syncs)
	is(t, "P6.1: Append", l.Append("d"), api.ErrDisk)
	lists(t, d, "log.0", "log.1", "log.2", "log.7")
	is(t, "P6.1: Reset", l.Reset(3), api.OK)
	lists(t, d, "log.7")

	d = laid(t, file{"log.4", ""})
	l = opens(t, "P6.1", d, 64, 0)
	d.Remove("log.4")
	d.Arm(1, disk.Syncs)
	is(t, "P6.1: Append", l.Append("a"), api.ErrDisk)
	lists(t, d, "log.4")
	size(t, d, "log.4", 0)
	names(t, l, "log.4")
}

// P6.1: two logs have nothing to do with one another, though their names begin alike.
func TestLogsApart(t *testing.T) {
	d := made(t, 100000)
	var logs []*Log
	heads := []string{"log", "log.0", "lo", "log.", "log.0.0"}
	for _, name := range heads {
		l, _, e := Open(d, name, 128, 0)
		is(t, "P6.1: Open", e, api.OK)
		logs = append(logs, l)
	}
	for i := range 5 {
		for k, l := range logs {
			appends(t, l, fmt.Sprint(heads[k], i))
		}
	}
	is(t, "P6.1: Reset", logs[0].Reset(5), api.OK)
	for k, name := range heads {
		var want []string
		for i := range 5 {
			want = append(want, fmt.Sprint(name, i))
		}
		if k == 0 {
			want = nil
		}
		_, got, e := Open(d, name, 128, int64(5-len(want)))
		if e != api.OK || !slices.Equal(got, want) {
			t.Errorf("P6.1: Open(%q) = %q, %d, want %q", name, got, e, want)
		}
	}
}

// P6.5, R3: lists are new memory, and nothing that is handed in is kept.
func TestMemory(t *testing.T) {
	d := made(t, 100000)
	name, payload := []byte("log"), []byte("payload")
	l, _, e := Open(d, unsafe.String(&name[0], 3), 64, 0)
	is(t, "P6.1: Open", e, api.OK)
	appends(t, l, unsafe.String(&payload[0], 7))
	name[0], payload[0] = '!', '!'
	appends(t, l, "b", "c")
	names(t, l, "log.0", "log.1", "log.2")
	_, first, _ := Open(d, "log", 64, 1)
	_, second, _ := Open(d, "log", 64, 1)
	for i := range first {
		first[i] = "over"
	}
	_ = append(first[:1], "more", "more")
	if !slices.Equal(second, []string{"b", "c"}) {
		t.Errorf("P6.5: a list of payloads became %q when another was written over", second)
	}
	m := opens(t, "P6.5", d, 64, 0, "payload", "b", "c")
	list := m.Names()
	other := m.Names()
	list[0], list[1] = "wrong", "wrong"
	_ = append(list[:1], "wrong", "wrong")
	if !slices.Equal(other, []string{"log.0", "log.1", "log.2"}) {
		t.Errorf("P6.5: a list of names became %q when another was written over", other)
	}
	names(t, m, "log.0", "log.1", "log.2")
	is(t, "P6.1: Reset", m.Reset(1), api.OK)
	lists(t, d, "log.1", "log.2")
	appends(t, m, "d")
	opens(t, "P6.5", d, 64, 1, "b", "c", "d")
	if !slices.Equal(other, []string{"log.0", "log.1", "log.2"}) {
		t.Errorf("P6.5: a list of names became %q when the log went on", other)
	}
}
