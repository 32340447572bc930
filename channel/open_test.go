package channel

import (
	"fmt"
	"testing"

	"escrow/api"
	"escrow/dance"
	"escrow/disk"
	"escrow/mark"
	"escrow/store"
)

// at is the state of side 1 with its commitment at an index, as it is if only the peer signed; all is settled.
func at(t *testing.T, local int64) api.State {
	t.Helper()
	s := start(t, 1)
	s.Local = local
	if local > 0 {
		s.Sig = named("sig", local)
	}
	return s
}

// laid is a disk with a checkpoint of a state, and a mark.
func laid(t *testing.T, s api.State, value int64) *disk.Disk {
	t.Helper()
	d := made(t, 1<<20)
	lay(t, d, s, value)
	return d
}

// The mark is one below the commitment, or two, and is raised then; else data was lost.
func TestOpenMarks(t *testing.T) {
	for _, local := range []int64{0, 1, 2, 3, 4, 7, maxIndex} {
		for _, value := range []int64{-1, 0, 1, 2, 3, 4, 5, 6, 7, 8, maxIndex - 3, maxIndex - 2, maxIndex - 1, maxIndex} {
			what := fmt.Sprintf("P22.1: Open at %d with the mark %d", local, value)
			d := laid(t, at(t, local), value)
			before := whole(d)
			c := opens(t, what, d, 1)
			want := at(t, local)
			switch value {
			case local - 1:
				if whole(d) != before {
					t.Errorf("%s: the disk is changed", what)
				}
			case local - 2:
				value = local - 1
			default:
				want.Failed = int(api.ErrLost)
				hasFailed(t, what, c, int(api.ErrLost))
				untold(t, what, c, api.ErrLost)
			}
			tells(t, what, c, want)
			marks(t, what, c, value)
			if s, n := durable(t, what, d, 1); !sameState(s, want) || n != value {
				t.Errorf("%s: durable is %s, and the mark %d", what, shown(s), n)
			}
			before = whole(d)
			again := opens(t, what+", again", d, 1)
			tells(t, what+", again", again, want)
			marks(t, what+", again", again, value)
			if whole(d) != before {
				t.Errorf("%s, again: the disk is changed", what)
			}
		}
	}
}

// A channel that has failed keeps its first code, whatever the mark is; one that is closed alone fails.
func TestOpenOfTheDead(t *testing.T) {
	for value := int64(-1); value <= 5; value++ {
		for _, failed := range []int{0, 5, 110, 180, 1000000} {
			for _, closed := range []int64{-1, 3} {
				what := fmt.Sprintf("P22.1: Open at 3, failed with %d, closed at %d, with the mark %d", failed, closed, value)
				s := at(t, 3)
				s.Failed, s.Closed = failed, closed
				c := opens(t, what, laid(t, s, value), 1)
				want, raised := s, value
				switch {
				case value == 1:
					raised = 2
				case value != 2 && failed == 0:
					want.Failed = int(api.ErrLost)
				}
				tells(t, what, c, want)
				marks(t, what, c, raised)
				code, dead := c.Dead()
				if code != want.Failed || dead != (code != 0 || closed == 3) {
					t.Errorf("%s: Dead tells %d, %v", what, code, dead)
				}
			}
		}
	}
}

// The disk refuses the failure: the channel is open, and lost all the same.
func TestOpenLostRefused(t *testing.T) {
	const what = "P22.1: Open of what was lost, refused"
	for n := 1; n <= 2; n++ {
		d := laid(t, at(t, 1), 3)
		d.Arm(n+1, disk.Any) // the mark's Sync is the first
		c := opens(t, what, d, 1)
		hasFailed(t, what, c, int(api.ErrLost))
		untold(t, what, c, api.ErrLost)
		if s, _ := durable(t, what, d, 1); s.Failed != 0 {
			t.Errorf("%s: durable is %s", what, shown(s))
		}
		hasFailed(t, what+": again", opens(t, what, d, 1), int(api.ErrLost))
		d = laid(t, at(t, 1), 3)
		d.Fall(n + 1)
		c = opens(t, what, d, 1)
		hasFailed(t, what+": the power is gone", c, int(api.ErrLost))
		if !d.Off() {
			t.Errorf("%s: the power isn't gone", what)
		}
	}
}

// The disk refuses the mark.
func TestOpenRaiseRefused(t *testing.T) {
	const what = "P22.1: Open, with the mark refused"
	for n := 2; n <= 3; n++ {
		d := laid(t, at(t, 1), -1)
		d.Arm(n, disk.Any)
		fails(t, what, d, config(1), api.ErrDisk)
		c := opens(t, what, d, 1)
		tells(t, what, c, at(t, 1))
		marks(t, what, c, 0)
		d = laid(t, at(t, 1), -1)
		d.Fall(n)
		fails(t, what, d, config(1), api.ErrOff)
		crash(d)
		c = opens(t, what, d, 1)
		tells(t, what, c, at(t, 1))
		marks(t, what, c, 0)
	}
}

// The store's errors are answered as they are.
func TestOpenRefused(t *testing.T) {
	const what = "P22.1: Open"
	wrong := func(change func(c *api.Config)) api.Config {
		c := config(1)
		change(&c)
		return c
	}
	for _, x := range []struct {
		what string
		lay  func(d *disk.Disk)
		c    api.Config
		want api.Errno
	}{
		{"no config", func(d *disk.Disk) {}, api.Config{}, api.ErrArg},
		{"side 2", func(d *disk.Disk) {}, wrong(func(c *api.Config) { c.Side = 2 }), api.ErrArg},
		{"too much", func(d *disk.Disk) {}, wrong(func(c *api.Config) { c.Ours = 1001 }), api.ErrArg},
		{"no segment", func(d *disk.Disk) {}, wrong(func(c *api.Config) { c.Segment = 63 }), api.ErrArg},
		{"off", func(d *disk.Disk) { d.Crash(nil) }, config(1), api.ErrOff},
		{"no checkpoint", func(d *disk.Disk) { d.Write("check", 0, "junk") }, config(1), api.ErrCheck},
		{"another's checkpoint", func(d *disk.Disk) { lay(t, d, start(t, 0), -1) }, config(1), api.ErrStore},
		{"a gap in the log", func(d *disk.Disk) { d.Write("log.0", 0, ""); d.Write("log.2", 0, "") }, config(1), api.ErrLog},
		{"no mark", func(d *disk.Disk) { d.Write("mark", 0, "junk") }, config(1), api.ErrMark},
		{"the mark's Sync", func(d *disk.Disk) { d.Arm(1, disk.Syncs) }, config(1), api.ErrDisk},
	} {
		d := made(t, 1<<20)
		x.lay(d)
		fails(t, what+": "+x.what, d, x.c, x.want)
	}
	fails(t, what+": no room", made(t, 100), config(1), api.ErrSpace)
}

// A sound state on the disk may hold updates that no commitment does: they are as if they had been heard.
func TestOpenWithUncovered(t *testing.T) {
	const what = "P22.1: Open with uncovered updates"
	p := two(t)
	p.offer(0, 10)
	p.sign(0)
	p.offer(0, 20)
	p.offer(0, 30)
	s := p.c[1].State()
	d := laid(t, s, 0)
	b := opens(t, what, d, 1)
	tells(t, what, b, s)
	b.Cut()
	tells(t, what+": Cut", b, dance.Cut(s))
	sends(t, what)(b.Take(api.Message{Kind: api.MsgAdd, ID: 1, Amount: 20, Hash: sum(preimage(0, 1))}))
	sends(t, what)(b.Take(api.Message{Kind: api.MsgAdd, ID: 2, Amount: 30, Hash: sum(preimage(0, 2))}))
	tells(t, what, b, s)
	m := p.one(p.c[0].Sign())
	sends(t, what, dance.Reveal(config(1), 1))(b.Take(m))
	if s := b.State(); len(s.Peers) != 3 || s.At.Peers != 3 {
		t.Errorf("%s: %s", what, shown(s))
	}
	b = opens(t, what, laid(t, s, 0), 1)
	sends(t, what, dance.Reveal(config(1), 1))(b.Take(m))
}

// At the last indices: the last that can be told, and then nothing more.
func TestLastIndices(t *testing.T) {
	const what = "P22.1: at the last indices"
	const last = maxIndex - 2
	s := [2]api.State{start(t, 0), start(t, 1)}
	s[0].Remote, s[0].Acked = last, last
	s[0].Points = [2]api.Hash{sum(secretOf(1, last)), sum(secretOf(1, last+1))}
	s[1].Local = last
	p := &duo{t: t, d: [2]*disk.Disk{laid(t, s[0], -1), laid(t, s[1], last-1)}}
	p.c = [2]*Channel{opens(t, what, p.d[0], 0), opens(t, what, p.d[1], 1)}
	p.offer(0, 1)
	m := p.one(p.c[0].Sign())
	revoke := p.one(p.c[1].Take(m))
	if m.Index != last+1 || revoke.Index != last || revoke.Hash != sum(secretOf(1, maxIndex)) {
		t.Errorf("%s: %+v, %+v", what, m, revoke)
	}
	marks(t, what, p.c[1], last)
	sends(t, what)(p.c[0].Take(revoke))
	p.offer(0, 1)
	refuses(t, what, api.ErrIndex)(p.c[0].Sign())
	lives(t, what, p.c[0])
	failing(t, what, p.d[1], 1, p.c[1], api.Message{Kind: api.MsgCommit, Index: last + 2}, int(api.ErrIndex), api.ErrIndex)
	if index, _, sig, e := p.c[1].Close(); index != last+1 || sig != m.Hash || e != api.OK {
		t.Errorf("%s: Close tells %d, %d", what, index, e)
	}
}

// States that no run comes to: every call ends, and none panics.
func TestUnsoundStates(t *testing.T) {
	add := api.Update{Kind: api.Add, Amount: 5}
	for name, change := range map[string]func(s *api.State){
		"counts above the lists": func(s *api.State) {
			s.At, s.Signed, s.Held = api.Counts{Ours: 9, Peers: 2048}, api.Counts{Ours: 2048, Peers: 7}, api.Counts{Ours: 5, Peers: 5}
		},
		"no funds":           func(s *api.State) { s.Ours, s.At.Ours = []api.Update{{Kind: api.Add, Amount: api.MaxAmount}}, 1 },
		"a list by no order": func(s *api.State) { s.Peers, s.At.Peers = []api.Update{add, add, add}, 2 },
		"indices apart":      func(s *api.State) { s.Local, s.Remote, s.Acked = maxIndex, 5, maxIndex },
		"an odd shelf":       func(s *api.State) { s.Acked, s.Remote, s.Shelf = 3, 3, make([]api.Slot, 7) },
		"closed at another":  func(s *api.State) { s.Local, s.Closed = 3, 2 },
	} {
		for side := range 2 {
			s := start(t, side)
			s.Ours, s.Peers = []api.Update{add}, []api.Update{add}
			change(&s)
			for first := range 17 {
				everything(opens(t, "P22.1: "+name, laid(t, s, s.Local-1), side), first)
			}
		}
	}
}

// everything makes every call, the one of that number first.
func everything(c *Channel, first int) {
	s := c.State()
	var calls []func()
	for _, m := range []api.Message{
		{Kind: api.MsgAdd, ID: int64(len(s.Peers)), Amount: 1}, {Kind: api.MsgFail}, {Kind: api.MsgRevoke, Index: s.Acked}, {Kind: api.MsgCommit, Index: s.Local + 1},
	} {
		calls = append(calls, func() { c.Take(m) })
	}
	for _, next := range []int64{s.Local, s.Local - 1} {
		calls = append(calls, func() { c.Answer(api.Message{Kind: api.MsgHello, Index: s.Remote + 1, Next: next}) })
	}
	calls = append(calls,
		func() { c.Offer(1, none) }, func() { c.Settle(0, none) }, func() { c.Refuse(0, "") }, func() { c.Sign() },
		func() { c.Hello() }, func() { c.Cut() }, func() { c.Close() },
		func() { c.State() }, func() { c.Mark() }, func() { c.Dead() }, func() { c.Checkpoint() },
	)
	for i := range 2 * len(calls) {
		calls[(first+i)%len(calls)]()
	}
}

// A mark that others raised is seen when the channel is opened, as what was lost.
func TestRestoredDisk(t *testing.T) {
	const what = "P22.4: an old disk with a new mark"
	p := two(t)
	p.offer(0, 10)
	old := p.d[1].Copy()
	p.fix(0)
	p.offer(0, 10)
	p.sign(0)
	m, e := mark.Open(old, "mark")
	is(t, what, e, api.OK)
	is(t, what, m.Raise(p.c[1].Mark()), api.OK)
	b := opens(t, what, old, 1)
	hasFailed(t, what, b, int(api.ErrLost))
	untold(t, what, b, api.ErrLost)
	refuses(t, what, api.ErrDead)(b.Answer(p.c[0].Hello()))
	if s, e := store.Open(old.Copy(), config(1)); e != api.OK || s.State().Failed != int(api.ErrLost) {
		t.Errorf("P22.2: %s: the failure isn't durable", what)
	}
}
