package pair

import (
	"math"
	"slices"
	"testing"

	"escrow/api"
	"escrow/ledger"
	"escrow/node"
)

// quiet: Quiet of so many answers just so.
func quiet(t *testing.T, what string, p *Pair, most, want int, end bool) {
	t.Helper()
	if n, ok := p.Quiet(most); n != want || ok != end {
		t.Fatalf("%s: Quiet(%d) answers %d, %v, want %d, %v", what, most, n, ok, want, end)
	}
}

// holds: a side's commitment says this.
func holds(t *testing.T, what string, p *Pair, side int, ours, peers int64, open ...api.Pending) {
	t.Helper()
	s := p.Node(side).State()
	l, e := ledger.Fold(s.BaseOurs, s.BasePeers, s.Ours, s.Peers, s.At)
	if e != api.OK || l.Ours != ours || l.Peers != peers || !slices.Equal(l.Open, open) {
		t.Fatalf("%s: side %d holds %+v, %d, want %d, %d, %+v", what, side, l, e, ours, peers, open)
	}
}

// added is the second example of the whole: both hold an add of 600.
func added(t *testing.T) *Pair {
	t.Helper()
	p := begun(t)
	tells(t, "P24.1", p, offer(0, 600, sum(preimage(0, 0))), api.OK)
	quiet(t, "P24.4", p, 100, 7, true)
	return p
}

// The examples of the whole, 1 to 4 and 8 to 10, as moves.
func TestExamplesOfTheWhole(t *testing.T) {
	p := added(t)
	mirrored(t, "P24.4", p)
	holds(t, "T3", p, 1, 300, 100, api.Pending{Amount: 600, Hash: sum(preimage(0, 0))})
	sends(t, "P24.1", p, settle(1, 0), "fulfill 0")
	settled(t, "P24.4", p)
	holds(t, "T3", p, 0, 100, 900)
	holds(t, "T3", p, 1, 900, 100)

	p = added(t)
	sends(t, "P24.1", p, refuse(1, 0, "no"), "fail 0")
	settled(t, "P24.4", p)
	holds(t, "T3", p, 0, 700, 300)
	holds(t, "T3", p, 1, 300, 700)

	p = added(t)
	if told := done(t, "T1", p, kindOf(0, node.Close)); told.Err != api.OK || told.Index != 1 || p.Node(0).Mark() != 0 {
		t.Errorf("T1: Close tells %s, the mark is %d", shownTold(told), p.Node(0).Mark())
	}

	p = begun(t)
	tells(t, "T4", p, offer(0, 701, none), api.ErrFunds)
	tells(t, "T4", p, kindOf(0, node.Sign), api.ErrState)

	for side := range 2 {
		p = added(t)
		tells(t, "P24.1", p, kindOf(side, node.Crash), api.OK)
		quiet(t, "P24.3: the two hellos, nothing is missing", p, 100, 2, true)
		mirrored(t, "P24.4", p)
	}
}

// Where nothing is to be done: joined by two hellos, and then not at all.
func TestQuietOfNothing(t *testing.T) {
	p := begun(t)
	quiet(t, "P24.1", p, 2, 2, true)
	isJoined(t, "P24.1", p, true, true)
	mirrored(t, "P24.4", p)
	before := whole(p)
	for _, most := range []int{0, 1, 100, -1, math.MinInt, math.MaxInt} {
		quiet(t, "P24.1: nothing is left", p, most, 0, true)
	}
	if whole(p) != before {
		t.Errorf("P24.1: Quiet of nothing changes something")
	}
}

// How many are delivered, and in which order: side 0 first.
func TestQuietCounts(t *testing.T) {
	for _, most := range []int{0, -1, math.MinInt} {
		p := begun(t)
		done(t, "P24.1", p, offer(0, 600, none))
		quiet(t, "P24.1: none may be delivered", p, most, 0, false)
		isJoined(t, "P24.1: joined all the same", p, false, false)
		underWay(t, "P24.1", p, "hello 1 0", "hello 1 0")
	}
	p := begun(t)
	done(t, "P24.1", p, offer(0, 600, none))
	// Where the pipes are empty behind the one delivery, one of the two signs, and what it sent waits.
	for _, want := range []struct{ to0, to1 string }{
		{"", "hello 1 0, add 0"}, {"", "add 0"}, {"", "commit 1"}, {"revoke 0", ""}, {"commit 1", ""}, {"", "revoke 0"},
	} {
		quiet(t, "P24.1", p, 1, 1, false)
		underWay(t, "P24.1", p, want.to0, want.to1)
	}
	quiet(t, "P24.1", p, 1, 1, true)
	mirrored(t, "P24.4", p)

	for most := range 12 {
		p := begun(t)
		done(t, "P24.1", p, offer(0, 600, none))
		quiet(t, "P24.1", p, most, min(most, 7), most >= 7)
		quiet(t, "P24.1: the rest", p, math.MaxInt, max(0, 7-most), true)
		mirrored(t, "P24.4", p)
	}
}

// The pipe to side 0 goes first, whatever stands in the other; side 0 signs first.
func TestQuietOrder(t *testing.T) {
	p := greeted(t)
	for side := range 2 {
		for range 3 {
			done(t, "P24.1", p, offer(side, 5, none))
		}
	}
	quiet(t, "P24.1", p, 2, 2, false)
	underWay(t, "P24.1", p, "add 2", "add 0, add 1, add 2")
	quiet(t, "P24.1", p, 4, 4, false)
	underWay(t, "P24.1: side 0 signs", p, "", "commit 1")
	if s := p.Node(1).State(); s.Remote != 0 {
		t.Errorf("P24.1: side 1 has signed: %s", shown(s))
	}
	quiet(t, "P24.1", p, 2, 2, false)
	underWay(t, "P24.1: then side 1", p, "commit 1", "")
	if s := p.Node(1).State(); s.Signed != (api.Counts{Ours: 3, Peers: 3}) {
		t.Errorf("P24.1: side 1 has signed %+v", s.Signed)
	}
	settled(t, "P24.4", p)

	p = greeted(t)
	done(t, "P24.1", p, offer(1, 5, none))
	quiet(t, "P24.1: side 0 has nothing new to sign", p, 2, 2, false)
	underWay(t, "P24.1", p, "", "revoke 0")
	settled(t, "P24.4", p)
}

// Quiet goes on from wherever a script was, also where not all hellos have come.
func TestQuietFromTheMidst(t *testing.T) {
	for k := range 20 {
		p := begun(t)
		l := []Move{
			joins, delivers(0), offer(0, 50, sum(preimage(0, 0))), delivers(1), delivers(1), offer(1, 5, none), kindOf(0, node.Sign), delivers(1), kindOf(1, node.Sign),
			delivers(0), delivers(0), delivers(0), delivers(1), kindOf(0, node.Sign), offer(1, 7, none), delivers(1), kindOf(1, node.Sign), delivers(0), delivers(0), cuts,
		}
		for _, m := range l[:k+1] {
			if told := done(t, "P24.1", p, m); told.Err != api.OK {
				t.Fatalf("P24.1: move %+v tells %s", m, shownTold(told))
			}
		}
		settled(t, "P24.4", p)
		done(t, "P24.1", p, cuts)
		quiet(t, "P24.4: nothing is missing any more", p, 100, 2, true)
		mirrored(t, "P24.4", p)
	}
}

// Where the two can't be joined: nothing is done.
func TestQuietRefused(t *testing.T) {
	for what, p := range conditions(t) {
		switch what {
		case "new", "greeted", "joined", "under way", "cut":
			settled(t, "P24.4: "+what, p)
			continue
		}
		before := whole(p)
		for _, most := range []int{0, 100, -1} {
			quiet(t, "P24.1: "+what, p, most, 0, false)
		}
		if whole(p) != before {
			t.Errorf("P24.1: %s: a refused Quiet changes something", what)
		}
	}
}

// A disk that refuses, or whose power goes, in the midst: the two are cut by that, nothing is under way, and neither signs.
func TestQuietInTrouble(t *testing.T) {
	p := begun(t)
	done(t, "P24.1", p, offer(0, 600, none))
	done(t, "P24.1", p, falls(1, 1))
	quiet(t, "P24.1: the power goes at the fourth delivery", p, 100, 4, true)
	isParted(t, "P24.1: the power is gone", p)
	if p.Node(1).Up() {
		t.Errorf("P24.1: side 1 is up")
	}
	quiet(t, "P24.1: one is down", p, 100, 0, false)
	done(t, "P24.1", p, kindOf(1, node.Crash))
	settled(t, "P24.4", p)

	p = begun(t)
	done(t, "P24.1", p, offer(0, 600, none))
	done(t, "P24.1", p, armed(1, 3))
	quiet(t, "P24.1: the mark is refused at the fourth delivery", p, 100, 4, true)
	isParted(t, "P24.1: behind a refused Take", p)
	if s := p.Node(1).State(); s.Local != 1 || p.Node(1).Mark() != -1 {
		t.Errorf("P24.1: the mark is %d of %s", p.Node(1).Mark(), shown(s))
	}
	quiet(t, "T6", p, 100, 5, true)
	mirrored(t, "T6", p)

	// A signature that is refused is no end: the other side may have one to make.
	p = greeted(t)
	done(t, "P24.1", p, offer(0, 600, none))
	done(t, "P24.1", p, offer(1, 5, none))
	done(t, "P24.1", p, armed(0, 1))
	quiet(t, "P24.1: side 1 signs in its place", p, 3, 3, false)
	underWay(t, "P24.1", p, "", "revoke 0")
	if s := p.Node(0).State(); s.Remote != 0 || s.Local != 1 {
		t.Errorf("P24.1: side 0 is %s", shown(s))
	}
	settled(t, "P24.4", p)

	// One that dies has nothing more to say.
	p = added(t)
	d := p.Node(0).Disk()
	for _, file := range d.List() {
		d.Remove(file)
	}
	done(t, "P24.1", p, kindOf(0, node.Crash))
	quiet(t, "P24.1: side 0 dies at the first hello", p, 100, 1, true)
	isParted(t, "P24.1: one is dead", p)
	quiet(t, "P24.1: one is dead", p, 100, 0, false)
}

// R1: Quiet ends, and soon, where both have as much to say as may be.
func TestQuietOfMuch(t *testing.T) {
	w := world()
	w.Capacity, w.Ours, w.Disk, w.Segment = 1<<20, 1<<19, 1<<22, 1<<18
	p := begunIn(t, w)
	for side := range 2 {
		for range api.MaxOpen {
			tells(t, "P24.1", p, offer(side, 1, none), api.OK)
		}
		tells(t, "P24.1", p, offer(side, 1, none), api.ErrMany)
	}
	// Two hellos, all adds, and a commitment with its revocation three times: side 0 signs its own, side 1 those of both, side 0 the others.
	if n := settled(t, "P24.4", p); n != 2+2*api.MaxOpen+6 {
		t.Errorf("P24.4: %d deliveries", n)
	}
	for side := range 2 {
		for id := range int64(api.MaxOpen) {
			done(t, "P24.1", p, refuse(side, id, "no"))
		}
	}
	settled(t, "P24.4", p)
	holds(t, "T3", p, 0, 1<<19, 1<<19)
}
