package node

import (
	"math"
	"testing"

	"escrow/api"
	"escrow/disk"
)

// wantHello is the hello of a side that knows of nothing.
var wantHello = api.Message{Kind: api.MsgHello, Index: 1}

var wantAdd = api.Message{Kind: api.MsgAdd, Amount: 600, Hash: api.Hash{9}}

// Example 1, and 2 behind it.
func TestGreetSignAndCrash(t *testing.T) {
	a, b := begun(t, 0), begun(t, 1)
	linked(t, "P23.1: New", a, true, false, false)
	sends(t, "P23.1", a, offer(600, api.Hash{9}))
	sends(t, "P23.1", a, step(Connect), wantHello)
	linked(t, "P23.1: Connect", a, true, true, false)
	sends(t, "P23.1", a, taking(only(t, b, step(Connect))), wantAdd)
	linked(t, "P23.1: the hello", a, true, true, true)
	signed := messagesOf(t, []string{only(t, a, step(Sign))})[0]
	if signed.Kind != api.MsgCommit || signed.Index != 1 {
		t.Errorf("P23.1: Sign sends %+v", signed)
	}

	told := a.State()
	sends(t, "P23.1", a, step(Crash))
	linked(t, "P23.1: Crash", a, true, false, false)
	tells(t, "P23.3", a, told)
	if len(told.Ours) != 1 || told.Remote != 1 {
		t.Errorf("P23.3: behind the crash: %s", shown(told))
	}
	sends(t, "P23.1", a, step(Connect), wantHello)
	sends(t, "P23.1", a, taking(bytesOf(t, wantHello)), wantAdd, signed)
}

// Example 3.
func TestPowerGoesInAnOffer(t *testing.T) {
	for sync, kept := range []bool{false, true} {
		a, _ := joined(t)
		sends(t, "P23.1", a, Step{Kind: Fall, N: int64(1 + sync)})
		linked(t, "P23.1: Fall", a, true, true, true)
		refused(t, "P23.1", a, offer(5, none), api.ErrOff)
		isDown(t, "P23.1", a)
		for kind := Offer; kind <= Checkpoint; kind++ {
			refused(t, "P23.1: down", a, step(kind), api.ErrOff)
		}
		refused(t, "P23.1: off", a, step(Open), api.ErrOff)
		isDown(t, "P23.1", a)
		sends(t, "P23.1", a, Step{Kind: Crash, Fates: []api.Fate{{File: "log.0", Sector: 0, Kind: api.FateKept}}})
		linked(t, "P23.1: Crash", a, true, false, false)
		if there := len(a.State().Ours) == 1; there != kept {
			t.Errorf("P23.3: the update is there: %v, want %v", there, kept)
		}
	}
}

// Example 4. By the table a node that is connected answers Connect by ErrState, dead or not: so it is disconnected ahead of that.
func TestDeadBehindClose(t *testing.T) {
	a, _ := joined(t)
	told := a.Do(step(Close))
	if told.Err != api.OK || told.Index != 0 || told.Text == "" || told.Sig != none || len(told.Out) != 0 {
		t.Fatalf("P23.1: Close tells %v", told)
	}
	hasFailed(t, "P23.1: closed", a, 0)
	linked(t, "P23.1: Close", a, true, true, true)
	for _, bytes := range []string{"", "x", bytesOf(t, wantAdd), bytesOf(t, wantHello), bytesOf(t, api.Message{Kind: api.MsgError, Index: 5})} {
		unasked(t, "P23.1: dead", a, func() { refused(t, "P23.1: dead", a, taking(bytes), api.ErrDead) })
	}
	hasFailed(t, "P23.1: closed", a, 0)
	refused(t, "P23.1: connected", a, step(Connect), api.ErrState)
	refused(t, "P23.1: dead", a, offer(5, none), api.ErrDead)
	refused(t, "P23.1: dead", a, Step{Kind: Settle}, api.ErrDead)
	refused(t, "P23.1: dead", a, Step{Kind: Refuse}, api.ErrDead)
	refused(t, "P23.1: dead", a, step(Sign), api.ErrDead)
	sends(t, "P23.1: dead", a, step(Checkpoint))
	is(t, "P23.1: Close again", a, step(Close), told)
	sends(t, "P23.1: dead", a, step(Disconnect))
	refused(t, "P23.1: dead", a, step(Connect), api.ErrDead)
	refused(t, "P23.1: not connected", a, taking("x"), api.ErrState)
	refused(t, "P23.1: not greeted", a, step(Sign), api.ErrState)
	sends(t, "P23.1: dead", a, step(Crash))
	refused(t, "P23.1: dead", a, step(Connect), api.ErrDead)
	is(t, "P23.1: Close again", a, step(Close), told)
}

func TestNew(t *testing.T) {
	bad := func(change func(c *api.Config)) api.Config {
		c := config(0)
		change(&c)
		return c
	}
	for _, x := range []struct {
		capacity int
		c        api.Config
		want     api.Errno
	}{
		{-1, config(0), api.ErrArg},
		{math.MinInt, config(0), api.ErrArg},
		{16777217, config(0), api.ErrArg},
		{math.MaxInt, config(0), api.ErrArg},
		{-1, api.Config{}, api.ErrArg},
		{65536, api.Config{}, api.ErrArg},
		{65536, bad(func(c *api.Config) { c.Side = 2 }), api.ErrArg},
		{65536, bad(func(c *api.Config) { c.Capacity = 0 }), api.ErrArg},
		{65536, bad(func(c *api.Config) { c.Ours = 1001 }), api.ErrArg},
		{65536, bad(func(c *api.Config) { c.Segment = 63 }), api.ErrArg},
		{65536, bad(func(c *api.Config) { c.Segment = api.MaxFile + 1 }), api.ErrArg},
		{0, config(0), api.ErrSpace},
		{127, config(0), api.ErrSpace},
	} {
		if n, e := New(x.capacity, x.c); n != nil || e != x.want {
			t.Errorf("P23.1: New(%d, %+v) = %v, %d, want %d", x.capacity, x.c, n, e, x.want)
		}
	}
	for _, capacity := range []int{128, 65536, 16777216} {
		for side := range 2 {
			n, e := New(capacity, config(side))
			if n == nil || e != api.OK {
				t.Fatalf("P23.1: New(%d) = %v, %d", capacity, n, e)
			}
			linked(t, "P23.1: New", n, true, false, false)
			lives(t, "P23.1: New", n)
			if s := n.State(); s.Side != side || s.Capacity != 1000 || s.BaseOurs != config(side).Ours || s.Closed != -1 || n.Mark() != -1 || n.Disk() == nil {
				t.Errorf("P23.1: New(%d): %s, %d", capacity, shown(s), n.Mark())
			}
		}
	}
}

// A disk that has no room for an update: its error, and nothing else.
func TestNoRoom(t *testing.T) {
	n, _ := New(128+63, config(0))
	for _, s := range []Step{offer(5, none), step(Close), step(Checkpoint)} {
		unasked(t, "P23.1: no room", n, func() { refused(t, "P23.1: no room", n, s, api.ErrSpace) })
	}
	lives(t, "P23.1: no room", n)
}

func TestKindsOfNone(t *testing.T) {
	for _, down := range []bool{false, true} {
		a, _ := joined(t)
		if down {
			a.Do(Step{Kind: Fall, N: 1})
			refused(t, "P23.1", a, offer(5, none), api.ErrOff)
		}
		for _, kind := range []int{0, 14, 15, -1, -13, 1 << 32, 1<<32 + 1, 256 + 1, math.MaxInt, math.MinInt} {
			unasked(t, "P23.1: a kind of none", a, func() {
				refused(t, "P23.1: a kind of none", a, Step{Kind: kind, Amount: 5, N: 1, Bytes: "x"}, api.ErrArg)
			})
		}
	}
}

// What is refused of a node that is up, by the table, in the table's order; nothing is done to the disk or told otherwise then.
func TestRefusedByTheTable(t *testing.T) {
	fresh := func(t *testing.T) *Node { return begun(t, 0) }
	connected := func(t *testing.T) *Node {
		n := begun(t, 0)
		sends(t, "P23.1", n, step(Connect), wantHello)
		return n
	}
	greeted := func(t *testing.T) *Node {
		n, _ := joined(t)
		return n
	}
	for _, x := range []struct {
		what string
		made func(t *testing.T) *Node
		step Step
		want api.Errno
	}{
		{"no amount", fresh, offer(0, none), api.ErrAmount},
		{"no funds", greeted, offer(701, none), api.ErrFunds},
		{"no such add", greeted, Step{Kind: Settle, ID: 0}, api.ErrUpdate},
		{"no such add", fresh, Step{Kind: Refuse, ID: 3, Note: "no"}, api.ErrUpdate},
		{"not connected", fresh, step(Sign), api.ErrState},
		{"not greeted", connected, step(Sign), api.ErrState},
		{"nothing new", greeted, step(Sign), api.ErrState},
		{"connected", connected, step(Connect), api.ErrState},
		{"greeted", greeted, step(Connect), api.ErrState},
		{"not connected", fresh, step(Disconnect), api.ErrState},
		{"not connected", fresh, step(Take), api.ErrState},
		{"not connected", fresh, taking("x"), api.ErrState},
		{"not connected", fresh, taking(bytesOf(t, wantHello)), api.ErrState},
		{"up", fresh, step(Open), api.ErrState},
		{"up", greeted, step(Open), api.ErrState},
	} {
		n := x.made(t)
		unasked(t, "P23.1: "+x.what, n, func() { refused(t, "P23.1: "+x.what, n, x.step, x.want) })
		lives(t, "P23.1: "+x.what, n)
	}
}

// Ahead of the greeting something new may be there, and isn't signed.
func TestSignAheadOfTheGreeting(t *testing.T) {
	a, b := begun(t, 0), begun(t, 1)
	sends(t, "P23.1", a, offer(600, api.Hash{9}))
	refused(t, "P23.1: not connected", a, step(Sign), api.ErrState)
	sends(t, "P23.1", a, step(Connect), wantHello)
	refused(t, "P23.1: not greeted", a, step(Sign), api.ErrState)
	sends(t, "P23.1: not greeted", a, offer(50, none))
	sends(t, "P23.1", a, taking(only(t, b, step(Connect))), wantAdd, api.Message{Kind: api.MsgAdd, ID: 1, Amount: 50})
	only(t, a, step(Sign))
	sends(t, "P23.1", a, step(Disconnect))
	linked(t, "P23.1: Disconnect", a, true, false, false)
	sends(t, "P23.1: not connected", a, offer(5, none))
	refused(t, "P23.1: not connected", a, step(Sign), api.ErrState)
	if s := a.State(); len(s.Ours) != 3 || s.Remote != 1 {
		t.Errorf("P23.1: %s", shown(s))
	}
	sends(t, "P23.1", a, step(Connect), wantHello)
	linked(t, "P23.1: Connect", a, true, true, false)
}

// Settle and Refuse say their message while greeted, and are durable alone else.
func TestProposals(t *testing.T) {
	a, b := joined(t)
	for id := range int64(4) {
		does(t, a, b, offer(10, sum(preimage(0, id))))
	}
	fix(t, a, b)
	settle := func(id int64) Step { return Step{Kind: Settle, ID: id, Hash: preimage(0, id)} }
	refuse := func(id int64) Step { return Step{Kind: Refuse, ID: id, Note: "no"} }
	refused(t, "P23.1: another preimage", b, Step{Kind: Settle, ID: 0, Hash: preimage(0, 1)}, api.ErrUpdate)
	said := []api.Message{
		{Kind: api.MsgFulfill, ID: 0, Hash: preimage(0, 0)}, {Kind: api.MsgFail, ID: 1, Note: "no"},
		{Kind: api.MsgFulfill, ID: 2, Hash: preimage(0, 2)}, {Kind: api.MsgFail, ID: 3, Note: "no"},
	}
	sends(t, "P23.1", b, settle(0), said[0])
	sends(t, "P23.1", b, refuse(1), said[1])
	refused(t, "P23.1: twice", b, settle(1), api.ErrUpdate)
	sends(t, "P23.1", b, step(Disconnect))
	sends(t, "P23.1: not connected", b, settle(2))
	hello := messagesOf(t, []string{only(t, b, step(Connect))})[0]
	if want := (api.Message{Kind: api.MsgHello, Index: 2, Next: 1, Secret: secretOf(0, 0)}); hello != want {
		t.Errorf("P23.1: the hello is %+v, want %+v", hello, want)
	}
	sends(t, "P23.1: not greeted", b, refuse(3))
	sends(t, "P23.1", a, step(Disconnect))
	sends(t, "P23.1", b, taking(only(t, a, step(Connect))), said...)
}

// Fields that a kind doesn't name are not looked at.
func TestStrayFields(t *testing.T) {
	stray := Step{Amount: -7, ID: -7, N: 1, Hash: named("stray", 0), Note: string(make([]byte, 99)), Bytes: "stray", Fates: []api.Fate{{File: "log.0"}}}
	with := func(kind int, set func(s *Step)) Step {
		s := stray
		s.Kind = kind
		if set != nil {
			set(&s)
		}
		return s
	}
	a, b := joined(t)
	sends(t, "P23.1", a, with(Offer, func(s *Step) { s.Amount, s.Hash = 600, api.Hash{9} }), wantAdd)
	sends(t, "P23.1", b, with(Take, func(s *Step) { s.Bytes = bytesOf(t, wantAdd) }))
	is(t, "P23.1", b, with(Disconnect, nil), Told{})
	sends(t, "P23.1", b, with(Connect, nil), wantHello)
	is(t, "P23.1", b, with(Checkpoint, nil), Told{})
	refused(t, "P23.1", b, with(Open, nil), api.ErrState)
	if told := b.Do(with(Close, nil)); told.Err != api.OK || told.Text == "" {
		t.Errorf("P23.1: Close tells %v", told)
	}
	if told := a.Do(with(Sign, nil)); told.Err != api.OK || len(told.Out) != 1 {
		t.Errorf("P23.1: Sign tells %v", told)
	}
	is(t, "P23.1", a, with(Crash, func(s *Step) { s.N = 0 }), Told{})
	if s := a.State(); len(s.Ours) != 1 || s.Remote != 1 {
		t.Errorf("P23.3: %s", shown(s))
	}
}

// Arm and Fall do what they say, up or down, and answer nothing.
func TestArmAndFall(t *testing.T) {
	a, _ := joined(t)
	for _, n := range []int64{0, -1, math.MinInt64} {
		is(t, "P23.1: not armed", a, Step{Kind: Arm, N: 1}, Told{})
		is(t, "P23.1: not armed", a, Step{Kind: Arm, N: n}, Told{})
		is(t, "P23.1: it doesn't go", a, Step{Kind: Fall, N: 1}, Told{})
		is(t, "P23.1: it doesn't go", a, Step{Kind: Fall, N: n}, Told{})
		if told := a.Do(offer(5, none)); told.Err != api.OK {
			t.Errorf("P23.1: Arm and Fall of %d: an Offer tells %v", n, told)
		}
	}
	for _, n := range []int64{math.MaxInt64, 1<<32 + 1, 1<<16 + 1} {
		is(t, "P23.1: late", a, Step{Kind: Arm, N: n}, Told{})
		is(t, "P23.1: late", a, Step{Kind: Fall, N: n}, Told{})
		only(t, a, offer(5, none))
		b := copied(a)
		is(t, "P23.1: late", b, Step{Kind: Crash, N: n}, Told{})
	}
	// The second one is the Sync: a Write counts too.
	is(t, "P23.1", a, Step{Kind: Arm, N: 2}, Told{})
	unasked(t, "P23.1: armed", a, func() { refused(t, "P23.1: armed", a, offer(5, none), api.ErrDisk) })
	only(t, a, offer(5, none))

	is(t, "P23.1", a, Step{Kind: Fall, N: 1}, Told{})
	refused(t, "P23.1", a, step(Checkpoint), api.ErrOff)
	isDown(t, "P23.1", a)
	is(t, "P23.1: off", a, Step{Kind: Arm, N: 1}, Told{})
	is(t, "P23.1: off", a, Step{Kind: Fall, N: 1}, Told{})
	isDown(t, "P23.1", a)
	// A crash ends both.
	is(t, "P23.1", a, step(Crash), Told{})
	linked(t, "P23.1: Crash", a, true, false, false)
}

// A node that is down with its disk on is opened anew by Open.
func TestOpenAnew(t *testing.T) {
	a, _ := joined(t)
	only(t, a, offer(600, none))
	told := a.State()
	is(t, "P23.1", a, Step{Kind: Fall, N: 1}, Told{})
	refused(t, "P23.1", a, offer(5, none), api.ErrOff)
	a.Disk().On()
	isDown(t, "P23.1: on", a)
	refused(t, "P23.1: down, and on", a, offer(5, none), api.ErrOff)
	refused(t, "P23.1: down, and on", a, step(Connect), api.ErrOff)
	is(t, "P23.1: down", a, Step{Kind: Arm, N: 1}, Told{})
	refused(t, "P23.1: Open's error", a, step(Open), api.ErrDisk)
	isDown(t, "P23.1: refused", a)
	is(t, "P23.1: down", a, Step{Kind: Fall, N: 1}, Told{})
	refused(t, "P23.1: Open's error", a, step(Open), api.ErrOff)
	isDown(t, "P23.1: off again", a)
	a.Disk().On()
	is(t, "P23.1", a, step(Open), Told{})
	linked(t, "P23.1: Open", a, true, false, false)
	tells(t, "P23.3", a, told)
}

// The power goes again at the N-th Write or Sync of the opening.
func TestCrashFallsAgain(t *testing.T) {
	a, _ := joined(t)
	only(t, a, offer(600, none))
	told := a.State()
	is(t, "P23.1", a, Step{Kind: Arm, N: 1}, Told{})
	for range 3 {
		refused(t, "P23.1", a, Step{Kind: Crash, N: 1}, api.ErrOff)
		isDown(t, "P23.1: in the middle of opening", a)
	}
	refused(t, "P23.1", a, Step{Kind: Crash, N: 2}, api.ErrOff)
	isDown(t, "P23.1: in the middle of opening", a)
	// The opening syncs the log and the mark: the third one is the next step's.
	is(t, "P23.1", a, Step{Kind: Crash, N: 3}, Told{})
	tells(t, "P23.4", a, told)
	refused(t, "P23.1", a, offer(5, none), api.ErrOff)
	isDown(t, "P23.1", a)
	is(t, "P23.1", a, Step{Kind: Crash, N: -1}, Told{})
	tells(t, "P23.4", a, told)
	only(t, a, step(Connect))
}

// Open's error behind a Crash: what a fate gave is no log of this channel.
func TestCrashThatCannotOpen(t *testing.T) {
	for _, garbage := range []string{frameOf(t, 0, "x"), frameOf(t, 0, "")} {
		a, _ := joined(t)
		is(t, "P23.1", a, Step{Kind: Fall, N: 2}, Told{})
		refused(t, "P23.1", a, offer(600, none), api.ErrOff)
		refused(t, "P23.1", a, Step{Kind: Crash, Fates: []api.Fate{{File: "log.0", Kind: api.FateReplace, Bytes: garbage}}}, api.ErrStore)
		isDown(t, "P23.1: it can't be opened", a)
		if a.Disk().Off() {
			t.Errorf("P23.1: the disk is off behind a Crash")
		}
		refused(t, "P23.1", a, offer(5, none), api.ErrOff)
		refused(t, "P23.1", a, step(Open), api.ErrStore)
		refused(t, "P23.1", a, step(Crash), api.ErrStore)
		isDown(t, "P23.1: it can't be opened", a)
	}
}

// Others took the power away: behind each step that needs it the node is down, whatever the step is refused with; Arm, Fall and kinds of none don't look at that.
func TestPowerGoneBesideTheNode(t *testing.T) {
	for kind := -1; kind <= 15; kind++ {
		for _, greeted := range []bool{true, false} {
			a, _ := joined(t)
			if !greeted {
				a = begun(t, 0)
			}
			a.Disk().Crash(nil)
			linked(t, "P23.1: no step yet", a, true, greeted, greeted)
			told := a.Do(Step{Kind: kind, Amount: 5, Bytes: "x"})
			switch kind {
			case Arm, Fall:
				if !sameTold(told, Told{}) || !a.Up() || a.Connected() != greeted {
					t.Errorf("P23.1: step %d tells %v", kind, told)
				}
			case Crash:
				if !sameTold(told, Told{}) || !a.Up() || a.Connected() {
					t.Errorf("P23.1: step %d tells %v", kind, told)
				}
			case -1, 0, 14, 15:
				if !sameTold(told, Told{Err: api.ErrArg}) || !a.Up() || a.Connected() != greeted {
					t.Errorf("P23.1: step %d tells %v", kind, told)
				}
			default:
				if !sameTold(told, Told{Err: api.ErrOff}) {
					t.Errorf("P23.1: step %d tells %v", kind, told)
				}
				isDown(t, "P23.1: off", a)
			}
		}
	}
}

// A mark that others raised says that data was lost: the node is up then, and dead.
func TestLost(t *testing.T) {
	for _, n := range []int64{0, 1} {
		a, _ := joined(t)
		raiseMark(t, a.Disk(), 7)
		is(t, "P23.1", a, Step{Kind: Crash, N: 2 * n}, [...]Told{{}, {Err: api.ErrOff}}[n])
		if n == 1 {
			isDown(t, "P23.1: the power goes when the failure is kept", a)
			is(t, "P23.1", a, step(Crash), Told{})
		}
		hasFailed(t, "P23.1", a, int(api.ErrLost))
		refused(t, "P23.1", a, step(Close), api.ErrLost)
		refused(t, "P23.1", a, step(Connect), api.ErrDead)
		linked(t, "P23.1", a, true, false, false)
	}
}

// A node whose commitment has the greatest index can't say which one it expects next.
func TestHelloThatCannotBeSaid(t *testing.T) {
	s := begun(t, 0).State()
	for _, x := range []struct {
		local int64
		want  Told
	}{
		{api.MaxIndex, Told{Err: api.ErrMessage}},
		{api.MaxIndex - 1, Told{Out: []string{bytesOf(t, api.Message{Kind: api.MsgHello, Index: api.MaxIndex})}}},
	} {
		d, _ := disk.New(65536)
		s.Local = x.local
		layState(t, d, s, x.local-1)
		n := on(d, 0)
		is(t, "P23.1", n, step(Connect), x.want)
		linked(t, "P23.1", n, true, x.want.Err == api.OK, false)
		lives(t, "P23.1", n)
	}
}
