package pair

import (
	"fmt"
	"math"
	"slices"
	"testing"

	"escrow/api"
	"escrow/commit"
	"escrow/ledger"
	"escrow/node"
	"escrow/seal"
)

// Example 1.
func TestAddIsHeldByBoth(t *testing.T) {
	p := begun(t)
	isParted(t, "P24.1: New", p)
	sends(t, "P24.1", p, joins, "")
	isJoined(t, "P24.1: join", p, false, false)
	underWay(t, "P24.1: join", p, "hello 1 0", "hello 1 0")
	sends(t, "P24.1", p, delivers(1), "")
	isJoined(t, "P24.1: deliver 1", p, false, true)
	underWay(t, "P24.1: deliver 1", p, "hello 1 0", "")
	sends(t, "P24.1", p, delivers(0), "")
	isJoined(t, "P24.1: deliver 0", p, true, true)
	underWay(t, "P24.1: deliver 0", p, "", "")

	add := sends(t, "P24.1", p, offer(0, 600, named("h", 0)), "add 0")
	underWay(t, "P24.1: an offer", p, "", "add 0")
	signed := sends(t, "P24.1", p, kindOf(0, node.Sign), "commit 1")
	underWay(t, "P24.1: a signature", p, "", "add 0, commit 1")
	if l := p.Pipe(1); !slices.Equal(l, append(add, signed...)) {
		t.Errorf("P24.1: the pipe has %x", l)
	}
	sends(t, "P24.1", p, delivers(1), "")
	underWay(t, "P24.1: the add came", p, "", "commit 1")
	revoked := sends(t, "P24.1", p, delivers(1), "revoke 0")
	underWay(t, "P24.1: the commitment came", p, "revoke 0", "")
	if !slices.Equal(p.Pipe(0), revoked) {
		t.Errorf("P24.1: the pipe has %x, want %x", p.Pipe(0), revoked)
	}
	sends(t, "P24.1", p, delivers(0), "")
	underWay(t, "P24.1: the revocation came", p, "", "")

	if n, ok := p.Quiet(100); n != 2 || !ok {
		t.Errorf("P24.1: Quiet answers %d, %v, want 2, true", n, ok)
	}
	mirrored(t, "P24.4", p)
	for side, at := range []api.Counts{{Ours: 1}, {Peers: 1}} {
		if s := p.Node(side).State(); s.At != at || s.Held != at || s.Local != 1 {
			t.Errorf("P24.4: side %d: %s", side, shown(s))
		}
	}
}

// Example 2.
func TestCommitmentIsLost(t *testing.T) {
	p := greeted(t)
	add := sends(t, "P24.1", p, offer(0, 600, named("h", 0)), "add 0")
	signed := sends(t, "P24.1", p, kindOf(0, node.Sign), "commit 1")
	sends(t, "P24.1", p, delivers(1), "")
	if s := p.Node(1).State(); len(s.Peers) != 1 {
		t.Errorf("P24.1: the add didn't come: %s", shown(s))
	}
	refused(t, "P24.1: nothing to lose", p, loses(0), api.ErrNone)
	sends(t, "P24.1", p, loses(1), "")
	isParted(t, "P24.1: lose", p)
	sends(t, "P24.1", p, joins, "")
	underWay(t, "P24.1: joined again", p, "hello 1 0", "hello 1 0")
	sends(t, "P24.3", p, delivers(1), "")
	again := sends(t, "P24.3", p, delivers(0), "add 0, commit 1")
	if !slices.Equal(again, append(add, signed...)) || !slices.Equal(p.Pipe(1), again) || len(p.Pipe(0)) != 0 {
		t.Errorf("P24.3: sent again is %x, and under way %x", again, p.Pipe(1))
	}
	if n := settled(t, "P24.4", p); n != 5 {
		t.Errorf("P24.4: %d deliveries", n)
	}
}

func TestNew(t *testing.T) {
	for _, x := range []struct {
		change func(w *World)
		want   api.Errno
	}{
		{func(w *World) { *w = World{} }, api.ErrArg},
		{func(w *World) { w.Disk = -1 }, api.ErrArg},
		{func(w *World) { w.Disk = 16777217 }, api.ErrArg},
		{func(w *World) { w.Disk = math.MinInt }, api.ErrArg},
		{func(w *World) { w.Disk = 0 }, api.ErrSpace},
		{func(w *World) { w.Disk = 127 }, api.ErrSpace},
		{func(w *World) { w.Capacity = 0 }, api.ErrArg},
		{func(w *World) { w.Capacity, w.Ours = -1, -1 }, api.ErrArg},
		{func(w *World) { w.Capacity = api.MaxAmount + 1 }, api.ErrArg},
		{func(w *World) { w.Capacity, w.Ours = math.MinInt64, 1 }, api.ErrArg},
		{func(w *World) { w.Capacity, w.Ours = math.MaxInt64, math.MinInt64 }, api.ErrArg},
		{func(w *World) { w.Ours = 1001 }, api.ErrArg},
		{func(w *World) { w.Ours = -1 }, api.ErrArg},
		{func(w *World) { w.Segment = 63 }, api.ErrArg},
		{func(w *World) { w.Segment = api.MaxFile + 1 }, api.ErrArg},
		// The node's order: the channel is opened on a disk that is there.
		{func(w *World) { w.Segment, w.Disk = 63, 0 }, api.ErrArg},
	} {
		w := world()
		x.change(&w)
		if p, e := New(w); p != nil || e != x.want {
			t.Errorf("P24.1: New(%+v) = %v, %d, want %d", w, p, e, x.want)
		}
	}
}

// What each side has of a world: the edges of the capacity, and points, keys and segments of its own.
func TestSidesOfAWorld(t *testing.T) {
	for _, x := range []struct {
		capacity, ours int64
	}{{1000, 700}, {1000, 0}, {1000, 1000}, {1, 0}, {1, 1}, {api.MaxAmount, 0}, {api.MaxAmount, api.MaxAmount}, {api.MaxAmount, 5}} {
		w := world()
		w.Capacity, w.Ours = x.capacity, x.ours
		p := begunIn(t, w)
		isParted(t, "P24.1: New", p)
		for side, ours := range []int64{x.ours, x.capacity - x.ours} {
			s := p.Node(side).State()
			points := [2]api.Hash{sum(secretOf(1-side, 0)), sum(secretOf(1-side, 1))}
			if s.Side != side || s.Capacity != x.capacity || s.BaseOurs != ours || s.BasePeers != x.capacity-ours || s.Points != points || !p.Node(side).Up() || p.Node(side).Mark() != -1 {
				t.Errorf("P24.1: side %d of %d, %d: %s", side, x.capacity, x.ours, shown(s))
			}
		}
	}
	for side := range 2 {
		c := wantConfig(world(), side)
		p := greeted(t)
		done(t, "P24.1", p, offer(side, 100, none))
		m := messagesOf(t, sends(t, "P24.1", p, kindOf(side, node.Sign), "commit 1"))[0]
		s := p.Node(side).State()
		l, _ := ledger.Fold(s.BaseOurs, s.BasePeers, s.Ours, s.Peers, s.Signed)
		text, _ := commit.Text(1-side, 1, c.Points[1], commit.Turn(l))
		if m.Hash != seal.Sign(c.Key, text) {
			t.Errorf("P24.1: side %d signs by another key or another text", side)
		}
		done(t, "P24.1", p, delivers(1-side))
		m = messagesOf(t, sends(t, "P24.1", p, delivers(1-side), "revoke 0"))[0]
		if m.Secret != secretOf(1-side, 0) || m.Hash != sum(secretOf(1-side, 2)) {
			t.Errorf("P24.1: side %d reveals %x, %x", 1-side, m.Secret, m.Hash)
		}
	}
}

// Both have a disk of their own, of so many bytes, with segments of that size.
func TestDisksOfAWorld(t *testing.T) {
	w := world()
	w.Disk, w.Segment = 128+3*64, 64
	for side := range 2 {
		p := begunIn(t, w)
		first, second := p.Node(0), p.Node(1)
		if first == second || first.Disk() == second.Disk() || p.Node(0) != first || p.Node(1) != second {
			t.Fatalf("P24.1: one node or one disk for both, or others each time")
		}
		for i := range 3 {
			tells(t, "P24.1: room", p, offer(side, 1, none), api.OK)
			if l := p.Node(side).Disk().List(); !slices.Equal(l, []string{"log.0", "log.1", "log.2"}[:i+1]) && !slices.Equal(l, append([]string{"log.0", "log.1", "log.2"}[:i+1], "mark")) {
				t.Errorf("P24.1: segments of 64 bytes: %q", l)
			}
		}
		tells(t, "P24.1: no room", p, offer(side, 1, none), api.ErrSpace)
		tells(t, "P24.1: the other's disk", p, offer(1-side, 1, none), api.OK)
		if l := p.Node(1 - side).Disk().List(); !slices.Equal(l, []string{"log.0", "mark"}) {
			t.Errorf("P24.1: the other's disk has %q", l)
		}
	}
}

// conditions are pairs of all sorts.
func conditions(t *testing.T) map[string]*Pair {
	t.Helper()
	l := map[string]*Pair{"new": begun(t), "greeted": greeted(t), "joined": begun(t), "under way": greeted(t), "cut": greeted(t)}
	done(t, "P24.1", l["joined"], joins)
	done(t, "P24.1", l["under way"], offer(0, 5, none))
	done(t, "P24.1", l["under way"], offer(1, 5, none))
	done(t, "P24.1", l["cut"], cuts)
	for side := range 2 {
		closed, down, off := greeted(t), greeted(t), greeted(t)
		done(t, "P24.1", closed, kindOf(side, node.Close))
		l[fmt.Sprint("closed ", side)] = closed
		down.Node(side).Disk().Write("check", 0, "no checkpoint")
		down.Node(side).Disk().Sync("check")
		tells(t, "P24.1: a checkpoint that is none", down, kindOf(side, node.Crash), api.ErrCheck)
		l[fmt.Sprint("down ", side)] = down
		done(t, "P24.1", off, falls(side, 1))
		tells(t, "P24.1", off, offer(side, 5, none), api.ErrOff)
		l[fmt.Sprint("off ", side)] = off
	}
	return l
}

func TestRefusedArguments(t *testing.T) {
	for what, p := range conditions(t) {
		for _, side := range []int{-1, 2, 3, 256, 1 << 32, math.MaxInt, math.MinInt} {
			for kind := -1; kind <= 6; kind++ {
				refused(t, "P24.1: "+what, p, Move{Kind: kind, Side: side, Step: node.Step{Kind: node.Offer, Amount: 1}}, api.ErrArg)
			}
			if p.Node(side) != nil || len(p.Pipe(side)) != 0 {
				t.Errorf("P24.1: %s: there is a side %d", what, side)
			}
		}
		for side := range 2 {
			for _, kind := range []int{0, 6, 7, -1, -5, 256 + 1, 1<<32 + 2, math.MaxInt, math.MinInt} {
				refused(t, "P24.1: "+what, p, Move{Kind: kind, Side: side, Step: node.Step{Kind: node.Offer, Amount: 1}}, api.ErrArg)
			}
			for _, s := range []node.Step{{Kind: node.Connect}, {Kind: node.Disconnect}, {Kind: node.Take}, {Kind: node.Take, Bytes: "x"}} {
				refused(t, "P24.1: "+what, p, stepOf(side, s), api.ErrArg)
			}
		}
	}
}

// Which moves are refused where, by the chapter's words, with either Side.
func TestRefusedByCondition(t *testing.T) {
	for what, p := range conditions(t) {
		joined := what == "greeted" || what == "joined" || what == "under way"
		full := what == "joined" || what == "under way"
		if p.Joined() != joined {
			t.Errorf("P24.1: %s: joined %v", what, p.Joined())
		}
		for side := range 2 {
			if joined || what != "new" && what != "cut" {
				refused(t, "P24.1: "+what, p, Move{Kind: Join, Side: side}, api.ErrState)
			}
			if !joined {
				isParted(t, "P24.1: "+what, p)
				refused(t, "P24.1: "+what, p, Move{Kind: Cut, Side: side}, api.ErrState)
			}
			if !full {
				refused(t, "P24.1: "+what, p, delivers(side), api.ErrNone)
				refused(t, "P24.1: "+what, p, loses(side), api.ErrNone)
			}
		}
	}
	for _, side := range []int{0, 1} {
		for what, p := range conditions(t) {
			if what == "new" || what == "cut" {
				sends(t, "P24.1: "+what, p, Move{Kind: Join, Side: side}, "")
				isJoined(t, "P24.1: "+what, p, false, false)
				underWay(t, "P24.1: "+what, p, "hello 1 0", "hello 1 0")
			}
		}
	}
}

func TestCutAndLose(t *testing.T) {
	for _, m := range []Move{cuts, {Kind: Cut, Side: 1}, loses(0), loses(1)} {
		for _, what := range []string{"joined", "under way"} {
			p := conditions(t)[what]
			before := [2]api.State{p.Node(0).State(), p.Node(1).State()}
			sends(t, "P24.1: "+what, p, m, "")
			isParted(t, "P24.1: "+what, p)
			for side := range 2 {
				if s := p.Node(side).State(); !sameState(s, before[side]) || !p.Node(side).Up() {
					t.Errorf("P24.1: %s: move %d makes %s of %s", what, m.Kind, shown(s), shown(before[side]))
				}
			}
			refused(t, "P24.1: "+what, p, cuts, api.ErrState)
			settled(t, "P24.4: "+what, p)
		}
	}
	p := greeted(t)
	done(t, "P24.1", p, offer(0, 5, none))
	done(t, "P24.1", p, delivers(1))
	if s := p.Node(1).State(); len(s.Peers) != 1 {
		t.Errorf("P24.1: nothing was heard: %s", shown(s))
	}
	sends(t, "P24.1", p, cuts, "")
	isParted(t, "P24.1: cut", p)
	done(t, "P24.1", p, joins)
	done(t, "P24.1", p, delivers(1))
	sends(t, "P24.3: what was forgotten is said again", p, delivers(0), "add 0")
}

// What a step tells is told, and goes into the pipe; a refused one sends nothing and leaves the state (T4).
func TestSteps(t *testing.T) {
	p := greeted(t)
	done(t, "P24.1", p, offer(0, 600, sum(preimage(0, 0))))
	done(t, "P24.1", p, offer(0, 50, sum(preimage(0, 1))))
	settled(t, "P24.4", p)
	for _, x := range []struct {
		m    Move
		want api.Errno
	}{
		{offer(0, 51, none), api.ErrFunds}, {offer(0, 0, none), api.ErrAmount}, {offer(1, 301, none), api.ErrFunds},
		{settle(1, 2), api.ErrUpdate}, {refuse(0, 0, "no"), api.ErrUpdate}, {kindOf(0, node.Sign), api.ErrState}, {kindOf(1, node.Sign), api.ErrState},
		{kindOf(0, node.Open), api.ErrState}, {kindOf(1, 0), api.ErrArg}, {kindOf(0, 14), api.ErrArg}, {kindOf(1, -1), api.ErrArg},
	} {
		before := whole(p)
		tells(t, "T4", p, x.m, x.want)
		if whole(p) != before {
			t.Errorf("T4: the step %+v, refused with %d, changes something", x.m.Step, x.want)
		}
	}
	for _, kind := range []int{node.Checkpoint, node.Arm, node.Fall} {
		for side := range 2 {
			tells(t, "P24.1", p, kindOf(side, kind), api.OK)
			isJoined(t, "P24.1", p, true, true)
		}
	}
	sends(t, "P24.1", p, settle(1, 0), "fulfill 0")
	sends(t, "P24.1", p, offer(0, 1, none), "add 2")
	sends(t, "P24.1", p, refuse(1, 1, "no"), "fail 1")
	sends(t, "P24.1", p, kindOf(0, node.Sign), "commit 2")
	underWay(t, "P24.1", p, "fulfill 0, fail 1", "add 2, commit 2")
	settled(t, "P24.4", p)
	if s := p.Node(0).State(); s.At != (api.Counts{Ours: 3, Peers: 2}) {
		t.Errorf("P24.4: %s", shown(s))
	}
}

// What isn't greeted yet sends nothing: it goes behind the hello.
func TestStepsAheadOfTheHello(t *testing.T) {
	p := begun(t)
	tells(t, "P24.1: not joined", p, offer(0, 5, none), api.OK)
	isParted(t, "P24.1: not joined", p)
	done(t, "P24.1", p, joins)
	tells(t, "P24.1: not greeted", p, offer(0, 6, none), api.OK)
	tells(t, "P24.1: not greeted", p, kindOf(0, node.Sign), api.ErrState)
	tells(t, "P24.1: not greeted", p, offer(1, 7, none), api.OK)
	underWay(t, "P24.1: not greeted", p, "hello 1 0", "hello 1 0")
	sends(t, "P24.3", p, delivers(0), "add 0, add 1")
	sends(t, "P24.1: greeted, and the other isn't", p, offer(0, 8, none), "add 2")
	sends(t, "P24.1: greeted, and the other isn't", p, kindOf(0, node.Sign), "commit 1")
	underWay(t, "P24.1", p, "", "hello 1 0, add 0, add 1, add 2, commit 1")
	sends(t, "P24.3", p, delivers(1), "add 0")
	settled(t, "P24.4", p)
}

// The order in the pipe is the step's, of many messages too.
func TestOrderOfMany(t *testing.T) {
	p := begun(t)
	const many = 400
	for side := range 2 {
		for range []int{many, 100}[side] {
			tells(t, "P24.1", p, offer(side, 1, named("h", int64(side))), api.OK)
		}
	}
	done(t, "P24.1", p, joins)
	told := done(t, "P24.3", p, delivers(0))
	if len(told.Out) != many || !slices.Equal(p.Pipe(1)[1:], told.Out) {
		t.Fatalf("P24.1: the order isn't the step's")
	}
	for id, m := range messagesOf(t, told.Out) {
		if m.Kind != api.MsgAdd || m.ID != int64(id) {
			t.Fatalf("P24.3: message %d is %+v", id, m)
		}
	}
	for n := many + 1; n > 0; n-- {
		first, rest := p.Pipe(1)[0], p.Pipe(1)[1:]
		if n <= many && first != told.Out[many-n] {
			t.Fatalf("P24.1: message %d from the end is another", n)
		}
		done(t, "P24.1", p, delivers(1))
		if !slices.Equal(p.Pipe(1), rest) {
			t.Fatalf("P24.1: more than one is taken off")
		}
	}
	if len(p.Pipe(0)) != 100 {
		t.Errorf("P24.1: %d to side 0", len(p.Pipe(0)))
	}
	settled(t, "P24.4", p)
}

// DOC's examples 6 and 7, and the same of a message that comes: where the disk refuses or the power goes the two are cut.
func TestDiskAndPower(t *testing.T) {
	p := greeted(t)
	tells(t, "P24.1", p, falls(0, 1), api.OK)
	isJoined(t, "P24.1: Fall alone", p, true, true)
	tells(t, "P24.1", p, offer(0, 600, none), api.ErrOff)
	isParted(t, "P24.1: the power is gone", p)
	if p.Node(0).Up() || !p.Node(1).Up() {
		t.Errorf("P24.1: up are %v, %v", p.Node(0).Up(), p.Node(1).Up())
	}
	tells(t, "P24.1", p, offer(0, 600, none), api.ErrOff)
	tells(t, "P24.1", p, kindOf(0, node.Open), api.ErrOff)
	refused(t, "P24.1: one isn't up", p, joins, api.ErrState)
	tells(t, "P24.1", p, kindOf(0, node.Crash), api.OK)
	if s := p.Node(0).State(); len(s.Ours) != 0 {
		t.Errorf("T2: %s", shown(s))
	}

	p = greeted(t)
	before := p.Node(0).State()
	tells(t, "P24.1", p, armed(0, 2), api.OK)
	tells(t, "P24.1: the sync is refused", p, offer(0, 600, none), api.ErrDisk)
	isJoined(t, "P24.1: a refused offer doesn't cut", p, true, true)
	if s := p.Node(0).State(); !sameState(s, before) || len(p.Pipe(1)) != 0 {
		t.Errorf("T4: %s", shown(s))
	}
	sends(t, "P24.1: the same id", p, offer(0, 600, none), "add 0")
	sends(t, "P24.1", p, kindOf(0, node.Sign), "commit 1")
	sends(t, "P24.1", p, delivers(1), "")
	sends(t, "P24.1", p, offer(1, 5, none), "add 0")
	tells(t, "P24.1", p, armed(1, 1), api.OK)
	tells(t, "P24.1: the message that came is refused", p, delivers(1), api.ErrDisk)
	isParted(t, "P24.1: behind a refused Take", p)
	if n := settled(t, "P24.4", p); n != 10 {
		t.Errorf("P24.4: %d deliveries", n)
	}

	p = greeted(t)
	done(t, "P24.1", p, offer(0, 600, none))
	done(t, "P24.1", p, kindOf(0, node.Sign))
	done(t, "P24.1", p, offer(1, 5, none))
	done(t, "P24.1", p, delivers(1))
	tells(t, "P24.1", p, falls(1, 3), api.OK)
	tells(t, "P24.1: the power goes at the mark", p, delivers(1), api.ErrOff)
	isParted(t, "P24.1: the power is gone", p)
	tells(t, "P24.1", p, kindOf(1, node.Crash), api.OK)
	if s := p.Node(1).State(); s.Local != 1 || p.Node(1).Mark() != 0 {
		t.Errorf("T2: the mark is %d of %s", p.Node(1).Mark(), shown(s))
	}
	done(t, "P24.1", p, joins)
	underWay(t, "P24.3", p, "hello 2 0", "hello 1 0")
	sends(t, "P24.3", p, delivers(0), "")
	sends(t, "P24.3", p, delivers(1), "revoke 0, add 0")
	settled(t, "P24.4", p)
}

// A crash of one cuts the two, and so does one that is closed; what was under way is lost.
func TestCrashAndCloseCut(t *testing.T) {
	for side := range 2 {
		for _, kind := range []int{node.Crash, node.Close} {
			p := conditions(t)["under way"]
			told := done(t, "P24.1", p, kindOf(side, kind))
			if told.Err != api.OK || len(told.Out) != 0 || (told.Text != "") != (kind == node.Close) {
				t.Errorf("P24.1: step %d tells %s", kind, shownTold(told))
			}
			isParted(t, "P24.1: behind a crash or a closing", p)
			if kind == node.Crash {
				settled(t, "P24.4", p)
				continue
			}
			refused(t, "P24.1: one is dead", p, joins, api.ErrState)
			tells(t, "P24.1: dead", p, offer(side, 1, none), api.ErrDead)
			tells(t, "P24.1: the other isn't", p, offer(1-side, 1, none), api.OK)
			if again := done(t, "P24.1", p, kindOf(side, node.Close)); !sameTold(again, told) {
				t.Errorf("P24.1: Close tells %s, and then %s", shownTold(told), shownTold(again))
			}
			if n, ok := p.Quiet(100); n != 0 || ok {
				t.Errorf("P24.1: Quiet with a dead side answers %d, %v", n, ok)
			}
		}
	}
}

// A message at which the channel fails: the error's message is told, beside the error, and is lost with the connection.
func TestDeadBehindATake(t *testing.T) {
	for side := range 2 {
		p := greeted(t)
		done(t, "P24.1", p, offer(side, 5, none))
		done(t, "P24.1", p, kindOf(side, node.Sign))
		settled(t, "P24.4", p)
		// Others put a disk back that knows of nothing: what the peer's hello says can't be.
		d := p.Node(side).Disk()
		for _, file := range d.List() {
			d.Remove(file)
		}
		tells(t, "P24.1", p, kindOf(side, node.Crash), api.OK)
		done(t, "P24.1", p, joins)
		sends(t, "P24.1", p, offer(side, 7, none), "")
		told := done(t, "P24.1", p, delivers(side))
		if want := (node.Told{Err: api.ErrLost, Out: []string{bytesOf(t, api.Message{Kind: api.MsgError, Index: int64(api.ErrLost)})}}); !sameTold(told, want) {
			t.Fatalf("P24.1: Take tells %s, want %s", shownTold(told), shownTold(want))
		}
		isParted(t, "P24.1: one is dead", p)
		if code, dead := p.Node(side).Dead(); code != int(api.ErrLost) || !dead {
			t.Errorf("P24.1: Dead tells %d, %v", code, dead)
		}
		if _, dead := p.Node(1 - side).Dead(); dead {
			t.Errorf("P24.1: the error's message came to the other")
		}
		refused(t, "P24.1: one is dead", p, joins, api.ErrState)
		tells(t, "P24.1: lost", p, kindOf(side, node.Close), api.ErrLost)
		if told := done(t, "T1", p, kindOf(1-side, node.Close)); told.Err != api.OK || told.Index != 1 {
			t.Errorf("T1: Close tells %s", shownTold(told))
		}
	}
}

// Whoever holds a node may end its connection beside the pair: the two aren't joined then, nothing is under way, and they may be joined anew.
func TestNodesBesideThePair(t *testing.T) {
	for side := range 2 {
		for _, kind := range []int{node.Disconnect, node.Crash} {
			p := conditions(t)["under way"]
			p.Node(side).Do(node.Step{Kind: kind})
			if p.Joined() || len(p.Pipe(0))+len(p.Pipe(1)) > 0 {
				t.Errorf("P24.1: joined %v, under way %x, %x", p.Joined(), p.Pipe(0), p.Pipe(1))
			}
			for other := range 2 {
				refused(t, "P24.1: beside", p, delivers(other), api.ErrNone)
				refused(t, "P24.1: beside", p, loses(other), api.ErrNone)
			}
			refused(t, "P24.1: beside", p, cuts, api.ErrState)
			sends(t, "P24.1: beside", p, joins, "")
			isJoined(t, "P24.1: beside", p, false, false)
			underWay(t, "P24.1: beside", p, "hello 1 0", "hello 1 0")
			settled(t, "P24.4: beside", p)

			p = conditions(t)["under way"]
			p.Node(side).Do(node.Step{Kind: kind})
			settled(t, "P24.4: beside", p)
		}
		p := conditions(t)["under way"]
		p.Node(side).Disk().Crash(nil)
		tells(t, "P24.1: the power goes beside", p, kindOf(side, node.Checkpoint), api.ErrOff)
		isParted(t, "P24.1: the power goes beside", p)
	}
}
