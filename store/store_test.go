package store

import (
	"fmt"
	"strings"
	"testing"

	"escrow/api"
	"escrow/check"
	"escrow/disk"
)

// example1 is the disk and the store behind the chapter's example 1.
func example1(t *testing.T) (*disk.Disk, *Store) {
	t.Helper()
	d := made(t, 100000)
	s := opens(t, "P21.1: example 1", d, start(t))
	does(t, "P21.1: example 1", s, add(0))
	return d, s
}

func TestExample1(t *testing.T) {
	const what = "P21.1: example 1"
	d := made(t, 100000)
	s := opens(t, what, d, start(t))
	marks(t, what, s, -1)
	lists(t, what, d, "mark")
	does(t, what, s, add(0))
	lists(t, what, d, "log.0", "mark")
	holds(t, what, d, "log.0", frames(t, 0, bytesOf(t, add(0))))
	if size, _ := d.Size("log.0"); size != 64 {
		t.Errorf("%s: log.0 has %d bytes", what, size)
	}
	unwritten(t, what, d, s, api.ErrRecord, add(0))
	unwritten(t, what, d, s, api.ErrArg)
	s = opens(t, what, d, then(t, start(t), add(0)))
	if l := s.State().Ours; len(l) != 1 || l[0] != add(0).Update {
		t.Errorf("%s: Ours is %+v", what, l)
	}
}

func TestExample2(t *testing.T) {
	const what = "P21.1: example 2"
	d, s := example1(t)
	one := s.State()
	is(t, what+": Checkpoint", s.Checkpoint(), api.OK)
	tells(t, what, s, one)
	lists(t, what, d, "check", "mark")
	saved, _ := modelWrite(1, one)
	if b, e := check.Load(d, "check"); b != saved || e != api.OK {
		t.Errorf("%s: the checkpoint is %x, %d, want %x", what, b, e, saved)
	}
	does(t, what, s, failed(5))
	lists(t, what, d, "check", "log.0", "mark")
	holds(t, what, d, "log.0", frames(t, 1, bytesOf(t, failed(5))))
	opens(t, what, d, then(t, one, failed(5)))
}

func TestExample3(t *testing.T) {
	const what = "P21.2: example 3"
	for _, kind := range []int{api.FateLost, api.FateKept} {
		d := made(t, 100000)
		s := opens(t, what, d, start(t))
		d.Fall(2)
		refuses(t, what, s, api.ErrOff, add(0))
		crash(d, api.Fate{File: "log.0", Kind: kind})
		want := start(t)
		if kind == api.FateKept {
			want = then(t, want, add(0))
		}
		opens(t, what, d, want)
	}
	for n := 1; n <= 2; n++ {
		for _, kind := range []int{api.FateLost, api.FateKept} {
			d, s := example1(t)
			one := s.State()
			d.Fall(n)
			is(t, what+": Checkpoint", s.Checkpoint(), api.ErrOff)
			tells(t, what, s, one)
			crash(d, api.Fate{File: "check.tmp", Kind: kind}, api.Fate{File: "check.tmp", Sector: 1, Kind: kind})
			opens(t, what, d, one)
		}
	}
}

func TestExample4(t *testing.T) {
	const what = "P21.1: example 4"
	d, s := example1(t)
	is(t, what+": Checkpoint", s.Checkpoint(), api.OK)
	does(t, what, s, failed(5))
	c := config()
	c.Ours = 600
	unasked(t, what, d, c, api.ErrStore)
	unwritten(t, what, d, s, api.ErrRecord, add(1), add(3))
	opens(t, what, d, then(t, start(t), add(0), failed(5)))
}

// Step 1, ahead of all others: what is no config isn't asked for anywhere.
func TestOpenOfNoConfig(t *testing.T) {
	for _, c := range []api.Config{
		{}, {Side: -1, Capacity: 1, Segment: 64}, {Side: 2, Capacity: 1, Segment: 64}, {Capacity: 0, Segment: 64}, {Capacity: maxAmount + 1, Segment: 64},
		{Capacity: 5, Ours: 6, Segment: 64}, {Capacity: 5, Ours: -1, Segment: 64},
	} {
		d := made(t, 100000)
		lay(t, d, "check", "junk")
		unasked(t, "P21.1: no config", d, c, api.ErrArg)
		d.Crash(nil)
		unasked(t, "P21.1: no config, off", d, c, api.ErrArg)
	}
	d := made(t, 100000)
	d.Crash(nil)
	unasked(t, "P21.1: off", d, config(), api.ErrOff)
	wrong := config()
	wrong.Segment = 0
	unasked(t, "P21.1: off ahead of the segment", d, wrong, api.ErrOff)
}

// Step 2, ahead of the log and the mark.
func TestOpenOfOtherCheckpoints(t *testing.T) {
	wrong := config()
	wrong.Segment = 63
	laid := func(text string) *disk.Disk {
		d := made(t, 100000)
		lay(t, d, "check", text)
		lay(t, d, "log.1", "junk")
		lay(t, d, "log.3", "junk")
		lay(t, d, "mark", "junk")
		return d
	}
	for _, text := range []string{"", "junk", strings.Repeat("\x00", 64)} {
		unasked(t, "P21.1: a torn checkpoint", laid(text), wrong, api.ErrCheck)
	}
	state := start(t)
	b, _ := Write(0, state)
	none := func(b string) {
		t.Helper()
		d := made(t, 100000)
		is(t, "Save", check.Save(d, "check", b), api.OK)
		text, _ := d.Read("check", 0, api.MaxFile)
		unasked(t, "P21.1: no checkpoint", laid(text), wrong, api.ErrStore)
		unasked(t, "P21.1: no checkpoint, alone", d, config(), api.ErrStore)
	}
	for _, text := range []string{"", "x", b[:len(b)-1], b + "\x00", b[:8] + "\x02" + b[9:]} {
		none(text)
	}
	for _, change := range []func(s *api.State){
		func(s *api.State) { s.Side = 1 },
		func(s *api.State) { s.Capacity = 1001 },
		func(s *api.State) { s.BaseOurs = 701 },
		func(s *api.State) { s.BasePeers = 299 },
		func(s *api.State) { s.BaseOurs, s.BasePeers = 300, 700 },
	} {
		other := state
		change(&other)
		b, e := Write(0, other)
		is(t, "Write", e, api.OK)
		none(b)
	}
}

// A checkpoint alone says the state, whatever a side begins with; what isn't asked for may be otherwise.
func TestOpenOfACheckpointAlone(t *testing.T) {
	state := full()
	state.Side, state.Capacity, state.BaseOurs, state.BasePeers = 0, 1000, 700, 300
	b, e := Write(7, state)
	is(t, "Write", e, api.OK)
	d := made(t, 100000)
	is(t, "Save", check.Save(d, "check", b), api.OK)
	s := opens(t, "P21.1: a checkpoint alone", d, state)
	lists(t, "P21.1", d, "check", "mark")
	c := config()
	c.Points[0], c.Seed, c.Key, c.PeerKey, c.Segment = each(3), each(4), each(5), each(6), 64
	tells(t, "P21.1: with other points", openWith(t, "P21.1", d, c), state)
	does(t, "P21.1: behind a checkpoint", s, failed(5), closed(state.Local))
	holds(t, "P21.1", d, "log.0", frames(t, 7, bytesOf(t, failed(5), closed(state.Local))))
	want := s.State()
	if want.Failed != state.Failed || want.Closed != state.Local {
		t.Errorf("P21.1: the state is %s", shown(want))
	}
	opens(t, "P21.1", d, want)
}

// Step 3: the log's own errors.
func TestOpenOfOtherLogs(t *testing.T) {
	for _, segment := range []int{-1, 0, 63, 1048577} {
		c := config()
		c.Segment = segment
		d := made(t, 100000)
		lay(t, d, "mark", "junk")
		unasked(t, "P21.1: no segment", d, c, api.ErrArg)
	}
	for _, segment := range []int{64, 1048576} {
		c := config()
		c.Segment = segment
		openWith(t, "P21.1: segments", made(t, 100000), c)
	}
	for _, files := range []map[string]string{
		{"log.0": "", "log.2": ""},
		{"log.0": "junk", "log.1": frames(t, 0, bytesOf(t, add(0)))},
		{"log.0": frames(t, 1, bytesOf(t, add(0)))},
	} {
		d := made(t, 100000)
		lay(t, d, "mark", "junk")
		for name, text := range files {
			lay(t, d, name, text)
		}
		unasked(t, "P21.1: no log", d, config(), api.ErrLog)
	}
	b, _ := Write(2, start(t))
	for number, want := range map[int64]api.Errno{0: api.ErrLog, 1: api.OK, 2: api.OK, 3: api.ErrLog} {
		d := made(t, 100000)
		is(t, "Save", check.Save(d, "check", b), api.OK)
		lay(t, d, "log.0", frames(t, number, bytesOf(t, failed(5))))
		_, e := Open(d, config())
		is(t, fmt.Sprintf("P21.1: Open of a checkpoint of 2 with a batch of %d", number), e, want)
	}
}

// Step 3: a payload is records' bytes alone, one or more, which stand where they are.
func TestOpenOfOtherBatches(t *testing.T) {
	a, f := bytesOf(t, add(0)), bytesOf(t, failed(5))
	for _, payloads := range [][]string{
		{""}, {"junk"}, {"\x00"}, {a[:len(a)-1]}, {a + "\x00"}, {a + f[:2]}, {f + a[:1]}, {"\x07" + a}, {a + a}, {a, a}, {a, "", f}, {a, f, f + "\x05\x00\x00"},
		{bytesOf(t, add(1))}, {bytesOf(t, signed(2, 0, 0))}, {bytesOf(t, signed(1, 1, 0))}, {bytesOf(t, came(2, 0, 1))}, {bytesOf(t, came(1, 1, 1))}, {bytesOf(t, revoked(0))}, {bytesOf(t, closed(1))},
	} {
		d := made(t, 100000)
		lay(t, d, "mark", "junk")
		lay(t, d, "log.0", frames(t, 0, payloads...)+"torn")
		fails(t, fmt.Sprintf("P21.1: batches %x", payloads), d, config(), api.ErrStore)
		// What the log is opened for is done by then, and what comes behind it isn't.
		holds(t, "P21.1: a log with a batch that is none", d, "log.0", frames(t, 0, payloads...))
		holds(t, "P21.1: a log with a batch that is none", d, "mark", "junk")
	}
	d := made(t, 100000)
	lay(t, d, "log.0", frames(t, 0, a+f, f)+"torn")
	lay(t, d, "log.1", "")
	fails(t, "P21.1: torn, but not the last", d, config(), api.ErrLog)
	d.Remove("log.1")
	opens(t, "P21.1: a torn end", d, then(t, start(t), add(0), failed(5), failed(5)))
	holds(t, "P21.1: a torn end", d, "log.0", frames(t, 0, a+f, f))
	// Batches ahead of the checkpoint aren't looked at.
	d = made(t, 100000)
	b, _ := Write(2, start(t))
	is(t, "Save", check.Save(d, "check", b), api.OK)
	lay(t, d, "log.0", frames(t, 0, "junk", "", a, f))
	opens(t, "P21.1: old batches", d, then(t, start(t), add(0), failed(5)))
}

// Step 4: the mark's own errors, behind all others.
func TestOpenOfOtherMarks(t *testing.T) {
	for _, text := range []string{"", "junk", strings.Repeat("\x00", 128), strings.Repeat("\x00", 64)} {
		d := made(t, 100000)
		lay(t, d, "mark", text)
		unasked(t, "P21.1: no mark", d, config(), api.ErrMark)
	}
	d := made(t, 127)
	unasked(t, "P21.1: no room for a mark", d, config(), api.ErrSpace)
	d = made(t, 100000)
	for i := range 16 {
		lay(t, d, fmt.Sprint("f", i), "")
	}
	unasked(t, "P21.1: no name for a mark", d, config(), api.ErrFull)
}

// What the disk refuses at any Write or Sync of Open is answered, and the next Open tells what it should.
func TestOpenRefused(t *testing.T) {
	fresh := made(t, 100000)
	grown := made(t, 100000)
	s := opens(t, "P21.1", grown, start(t))
	does(t, "P21.1", s, add(0))
	is(t, "Checkpoint", s.Checkpoint(), api.OK)
	does(t, "P21.1", s, add(1), add(2))
	does(t, "P21.1", s, failed(9))
	for i, d := range []*disk.Disk{fresh, grown} {
		want := []api.State{start(t), s.State()}[i]
		for n := 1; ; n++ {
			c := d.Copy()
			c.Arm(n, disk.Any)
			x, e := Open(c, config())
			if x != nil && e == api.OK {
				if n != 3 {
					t.Errorf("P21.1: Open makes %d Writes and Syncs", n-1)
				}
				break
			}
			if x != nil || e != api.ErrDisk {
				t.Fatalf("P21.1: Open, refused at %d: %v, %d", n, x, e)
			}
			opens(t, "P21.5: behind an Open that was refused", c, want)
		}
	}
}

// The order of Do's errors.
func TestOrderOfErrorsOfDo(t *testing.T) {
	long := func(l ...api.Record) []api.Record {
		for range 21831 {
			l = append(l, failed(7))
		}
		return l
	}
	if n := len(bytesOf(t, long(add(1))...)); n != 65537 {
		t.Fatalf("the batch has %d bytes", n)
	}
	const what = "P21.1: the order of errors"
	d, s := example1(t)
	d.Fall(1)
	unwritten(t, what, d, s, api.ErrArg)
	unwritten(t, what, d, s, api.ErrArg, []api.Record{}...)
	unwritten(t, what, d, s, api.ErrRecord, long(add(1), failed(0))...)
	unwritten(t, what, d, s, api.ErrRecord, append(long(add(1)), failed(0))...)
	unwritten(t, what, d, s, api.ErrRecord, append(long(add(1)), add(0))...)
	unwritten(t, what, d, s, api.ErrLong, long(add(1))...)
	refuses(t, what, s, api.ErrOff, add(1))
	for range 2 {
		unwritten(t, what+", dead", d, s, api.ErrArg)
		unwritten(t, what+", dead", d, s, api.ErrRecord, add(0))
		unwritten(t, what+", dead", d, s, api.ErrLong, long(add(1))...)
		unwritten(t, what+", dead", d, s, api.ErrLog, add(1))
		d.On()
	}
	opens(t, what, d, then(t, start(t), add(0)))
}

// A record that isn't valid, or can't stand there, wherever it stands in the batch.
func TestRecordsThatAreRefused(t *testing.T) {
	d, s := example1(t)
	odd := []api.Record{
		{}, {Kind: 7}, {Kind: -1}, failed(0), failed(65536), {Kind: api.RecFailed, Code: 5, Index: 1}, ours(api.Update{}), ours(failOf(0, "no peer's add")),
		ours(addOf(-1, 5)), signed(-1, 0, 0), {Kind: api.RecClosed, Index: maxIndex + 1}, add(0), signed(2, 0, 0), signed(1, 4, 0), signed(1, 0, 1),
		came(2, 0, 0), came(1, 1, 1), came(0, 0, 0), came(1, 0, 513), revoked(0), revoked(1), closed(1),
	}
	for _, r := range odd {
		unwritten(t, "P21.5", d, s, api.ErrRecord, r)
		unwritten(t, "P21.5", d, s, api.ErrRecord, r, add(1))
		unwritten(t, "P21.5", d, s, api.ErrRecord, add(1), r)
		unwritten(t, "P21.5", d, s, api.ErrRecord, add(1), failed(5), r, failed(6))
	}
	opens(t, "P21.5", d, then(t, start(t), add(0)))
}

// A batch has at most 65536 bytes; its records stand where those ahead of them put them.
func TestLongBatches(t *testing.T) {
	fill := func(n int, l ...api.Record) []api.Record {
		for range n {
			l = append(l, failed(7))
		}
		return l
	}
	d := made(t, 1<<20)
	s := opens(t, "P21.1", d, start(t))
	most, more := fill(21841, signed(1, 0, 0)), fill(21831, add(0))
	if len(bytesOf(t, most...)) != 65536 || len(bytesOf(t, more...)) != 65537 {
		t.Fatalf("the batches have %d and %d bytes", len(bytesOf(t, most...)), len(bytesOf(t, more...)))
	}
	unwritten(t, "P21.1: 65537 bytes", d, s, api.ErrLong, more...)
	does(t, "P21.1: 65536 bytes", s, most...)
	opens(t, "P21.1: 65536 bytes", d, then(t, start(t), signed(1, 0, 0), failed(7)))
	does(t, "P21.1: a peer's updates", s, came(1, 0, 512))
	does(t, "P21.1: and more", s, came(2, 512, 400), revoked(0), ours(failOf(3, "no")), signed(2, 1, 912), failed(8), closed(2))
	opens(t, "P21.1: and more", d, s.State())
	one := frames(t, 0, bytesOf(t, most...))
	holds(t, "P21.1", d, "log.0", one)
	lists(t, "P21.1", d, "log.0", "log.1", "log.2", "mark")
}

// What the disk has no room for is refused, and leaves nothing; with room again it goes on.
func TestNoRoom(t *testing.T) {
	d := made(t, 128+64*3)
	s := opens(t, "P21.5", d, start(t))
	does(t, "P21.5", s, add(0))
	does(t, "P21.5", s, add(1))
	unwritten(t, "P21.5: no room", d, s, api.ErrSpace, add(2), add(3))
	does(t, "P21.5", s, add(2))
	unwritten(t, "P21.5: no room", d, s, api.ErrSpace, add(3))
	before := whole(d)
	is(t, "P21.5: Checkpoint without room", s.Checkpoint(), api.ErrSpace)
	if whole(d) != before {
		t.Error("P21.5: a Checkpoint without room changed the disk")
	}
	is(t, "P19.4: Raise without room", s.Raise(7), api.OK)
	s = opens(t, "P21.5", d, then(t, start(t), add(0), add(1), add(2)))
	marks(t, "P21.5", s, 7)

	d = made(t, 100000)
	c := config()
	c.Segment = 64
	s = openWith(t, "P21.5", d, c)
	for i := range int64(15) {
		does(t, "P21.5", s, add(i))
	}
	unwritten(t, "P21.5: too many files", d, s, api.ErrFull, add(15))
	is(t, "P21.5: Checkpoint with too many files", s.Checkpoint(), api.ErrFull)
	tells(t, "P21.5", openWith(t, "P21.5", d, c), s.State())
}

// The numbers' end: what can't be written as a checkpoint is refused ahead of all that is done.
func TestTheLastNumbers(t *testing.T) {
	const last = 1<<60 - 1
	b, e := Write(last, start(t))
	is(t, "Write", e, api.OK)
	d := made(t, 100000)
	is(t, "Save", check.Save(d, "check", b), api.OK)
	s := opens(t, "P21.1: the last number", d, start(t))
	does(t, "P21.1: the last number", s, add(0))
	holds(t, "P21.1", d, "log.0", frames(t, last, bytesOf(t, add(0))))
	unwritten(t, "P21.1: behind the last number", d, s, api.ErrFull, add(1))
	beyond := d.Copy()
	is(t, "P21.1: Checkpoint of 1 << 60", s.Checkpoint(), api.OK)
	s = opens(t, "P21.1", d, then(t, start(t), add(0)))
	unwritten(t, "P21.1: behind the last number", d, s, api.ErrFull, add(1))
	is(t, "P21.1: Checkpoint of 1 << 60, again", s.Checkpoint(), api.OK)
	opens(t, "P21.1", d, then(t, start(t), add(0)))

	lay(t, beyond, "log.0", frames(t, last, bytesOf(t, add(0)), bytesOf(t, add(1))))
	s = opens(t, "P21.1: a batch beyond the numbers", beyond, then(t, start(t), add(0), add(1)))
	before := whole(beyond)
	for range 2 {
		is(t, "P21.1: Checkpoint beyond the numbers", s.Checkpoint(), api.ErrStore)
		if whole(beyond) != before {
			t.Fatal("P21.5: a Checkpoint, refused with ErrStore, changed the disk")
		}
		tells(t, "P21.5", s, then(t, start(t), add(0), add(1)))
		beyond.Crash(nil)
		before = whole(beyond)
	}
}

// Raise is the mark's, with its errors; it has nothing to do with the state.
func TestRaise(t *testing.T) {
	d, s := example1(t)
	want := s.State()
	for _, x := range []struct {
		n    int64
		e    api.Errno
		mark int64
	}{{-1, api.OK, -1}, {-2, api.ErrArg, -1}, {maxIndex + 1, api.ErrArg, -1}, {0, api.OK, 0}, {5, api.OK, 5}, {3, api.OK, 5}, {-1, api.OK, 5}, {maxIndex, api.OK, maxIndex}} {
		is(t, fmt.Sprintf("P21.1: Raise(%d)", x.n), s.Raise(x.n), x.e)
		marks(t, "P21.1", s, x.mark)
		tells(t, "P21.1: behind Raise", s, want)
		marks(t, "P21.2", opens(t, "P21.2", d.Copy(), want), x.mark)
	}
	d, s = example1(t)
	is(t, "Raise", s.Raise(4), api.OK)
	d.Arm(1, disk.Writes)
	is(t, "P21.5: Raise, its Write refused", s.Raise(6), api.ErrDisk)
	marks(t, "P21.5", s, 4)
	marks(t, "P21.5", opens(t, "P21.5", d.Copy(), want), 4)
	d.Arm(1, disk.Syncs)
	is(t, "P21.5: Raise, its Sync refused", s.Raise(7), api.ErrDisk)
	marks(t, "P21.5", s, 4)
	marks(t, "P21.5: the refused number", opens(t, "P21.5", d.Copy(), want), 7)
	lost := d.Copy()
	crash(lost)
	marks(t, "P21.5: or not", opens(t, "P21.5", lost, want), 4)
	is(t, "Checkpoint", s.Checkpoint(), api.OK)
	is(t, "Raise", s.Raise(5), api.OK)
	marks(t, "P21.2", opens(t, "P21.2", d, want), 5)
	d.Crash(nil)
	is(t, "P21.1: Raise, off", s.Raise(9), api.ErrOff)
	is(t, "P21.1: Raise to less, off", s.Raise(2), api.OK)
	marks(t, "P21.1: off", s, 5)
}

// A Checkpoint that is refused leaves the old one and the log.
func TestCheckpointRefused(t *testing.T) {
	for _, what := range []int{disk.Writes, disk.Syncs} {
		d, s := example1(t)
		is(t, "Checkpoint", s.Checkpoint(), api.OK)
		does(t, "P21.5", s, add(1))
		old, _ := d.Read("check", 0, api.MaxFile)
		d.Arm(1, what)
		is(t, "P21.5: Checkpoint", s.Checkpoint(), api.ErrDisk)
		tells(t, "P21.5", s, then(t, start(t), add(0), add(1)))
		lists(t, "P21.5", d, "check", "log.0", "mark")
		holds(t, "P21.5", d, "check", old)
		does(t, "P21.5: behind it", s, add(2))
		want := then(t, start(t), add(0), add(1), add(2))
		opens(t, "P21.5", d.Copy(), want)
		is(t, "P21.5: Checkpoint again", s.Checkpoint(), api.OK)
		lists(t, "P21.5", d, "check", "mark")
		does(t, "P21.5: behind it", s, add(3))
		opens(t, "P21.5", d, then(t, want, add(3)))
	}
}

// The log's Reset is refused where a segment was taken away by others, or the log is dead: the checkpoint stands by then.
func TestCheckpointWithoutReset(t *testing.T) {
	d, s := example1(t)
	want := s.State()
	log := frames(t, 0, bytesOf(t, add(0)))
	is(t, "Remove", d.Remove("log.0"), api.OK)
	is(t, "P21.1: Checkpoint, its segment gone", s.Checkpoint(), api.ErrNone)
	tells(t, "P21.1", s, want)
	lists(t, "P21.1", d, "check", "mark")
	refuses(t, "P21.1: the log is dead", s, api.ErrLog, add(1))
	is(t, "P21.1: Checkpoint, the log dead", s.Checkpoint(), api.ErrLog)
	opens(t, "P21.3", d, want)

	d, s = example1(t)
	d.Fall(1)
	refuses(t, "P21.1", s, api.ErrOff, add(1))
	is(t, "P21.1: Checkpoint, off", s.Checkpoint(), api.ErrOff)
	d.On()
	is(t, "P21.1: Checkpoint, the log dead", s.Checkpoint(), api.ErrLog)
	tells(t, "P21.1", s, want)
	holds(t, "P21.1", d, "log.0", log)
	lists(t, "P21.1", d, "check", "log.0", "mark")
	s = opens(t, "P21.3: a checkpoint, and the log that it stands for", d, want)
	does(t, "P21.3", s, add(1))
	holds(t, "P21.3", d, "log.0", log+frames(t, 1, bytesOf(t, add(1))))
	opens(t, "P21.3", d, then(t, want, add(1)))
}

// A Checkpoint of a state as it began, of one that nothing was done to since, and many one behind the other.
func TestCheckpoints(t *testing.T) {
	d := made(t, 100000)
	s := opens(t, "P21.3", d, start(t))
	want := start(t)
	for i := range int64(40) {
		for range i % 3 {
			is(t, "P21.1: Checkpoint", s.Checkpoint(), api.OK)
			lists(t, "P21.1", d, "check", "mark")
			tells(t, "P21.3", s, want)
		}
		if i%4 == 3 {
			s = opens(t, "P21.3", d, want)
		}
		saved, _ := modelWrite(i, want)
		if b, e := check.Load(d, "check"); i%3 > 0 && (b != saved || e != api.OK) {
			t.Fatalf("P21.1: the checkpoint is %x, %d, want %x", b, e, saved)
		}
		does(t, "P21.1", s, add(i))
		want = then(t, want, add(i))
		opens(t, "P21.2", d.Copy(), want)
	}
}

// Files of other names, those that look like drafts or segments too, are left alone.
func TestOtherFiles(t *testing.T) {
	d := made(t, 100000)
	others := []string{"check.0", "che", "log", "log.", "log.00", "log.x", "log.tmp", "logs.0", "mark.0", "marks"}
	for _, name := range others {
		lay(t, d, name, "other "+name)
	}
	lay(t, d, "check.tmp", strings.Repeat("long junk", 100))
	lay(t, d, "mark.tmp", "junk")
	s := opens(t, "P21.1: among other files", d, start(t))
	holds(t, "P21.1: a draft that nobody asked for", d, "check.tmp", strings.Repeat("long junk", 100))
	does(t, "P21.1: among other files", s, add(0))
	is(t, "Checkpoint", s.Checkpoint(), api.OK)
	does(t, "P21.1: among other files", s, add(1))
	is(t, "Raise", s.Raise(3), api.OK)
	for _, name := range others {
		holds(t, "P21.1: another file", d, name, "other "+name)
	}
	if n := len(d.List()); n != len(others)+3 {
		t.Errorf("P21.1: the disk has %q", d.List())
	}
	opens(t, "P21.1: among other files", d, then(t, start(t), add(0), add(1)))
}

// Two disks have nothing to do with one another, be the configs the same.
func TestStoresApart(t *testing.T) {
	d, s := example1(t)
	e, x := example1(t)
	does(t, "P21.1", s, add(1))
	is(t, "Raise", x.Raise(2), api.OK)
	is(t, "Checkpoint", x.Checkpoint(), api.OK)
	marks(t, "P21.1: apart", s, -1)
	opens(t, "P21.1: apart", d, then(t, start(t), add(0), add(1)))
	opens(t, "P21.1: apart", e, then(t, start(t), add(0)))
	lists(t, "P21.1: apart", d, "log.0", "mark")
}
