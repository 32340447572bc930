package pair

import (
	"math/rand"
	"testing"

	"escrow/api"
	"escrow/node"
)

// tape is a script in which both sides do what a side can do; some of it is refused behind a loss of power.
func tape() []Move {
	both := func(kind int) []Move { return []Move{kindOf(0, kind), kindOf(1, kind)} }
	all := []Move{offer(1, 5, sum(preimage(1, 0))), joins, delivers(1), delivers(0), delivers(0)}
	all = append(all, offer(0, 50, sum(preimage(0, 0))), offer(0, 60, sum(preimage(0, 1))), offer(1, 10, sum(preimage(1, 1))))
	pass := []Move{delivers(0), delivers(1), delivers(1), delivers(0), delivers(1), delivers(0), delivers(0), delivers(1)}
	for range 2 {
		all = append(all, both(node.Sign)...)
		all = append(all, pass...)
	}
	all = append(all, both(node.Checkpoint)...)
	all = append(all, settle(1, 0), refuse(1, 1, "no"), settle(0, 0))
	for range 2 {
		all = append(all, both(node.Sign)...)
		all = append(all, pass...)
	}
	all = append(all, offer(0, 7, none), kindOf(0, node.Sign), delivers(1), offer(1, 8, none), kindOf(1, node.Sign), loses(1))
	return append(all, joins, delivers(1), delivers(1), delivers(0), delivers(0), delivers(1), delivers(0))
}

// played has the tape done; a side whose power goes is crashed at once, and both are joined again; how often that was.
func (w *walk) played(l []Move, kept int) int {
	w.t.Helper()
	down := 0
	for _, m := range l {
		w.do(m)
		for side, n := range w.p.nodes {
			if n.Up() {
				continue
			}
			down++
			if told, _ := w.do(stepOf(side, node.Step{Kind: node.Crash, Fates: keeping(w.Rand, kept)})); told.Err != api.OK {
				w.fatal("T2: side %d: Crash tells %s", side, shownTold(told))
			}
			w.do(joins)
		}
	}
	return down
}

// keeping has all sectors be lost (0), all kept (1), or some of both.
func keeping(r *rand.Rand, kept int) []api.Fate {
	var fates []api.Fate
	for _, file := range []string{"check", "check.tmp", "log.0", "log.1", "log.2", "mark", "mark.tmp"} {
		for n := range 64 {
			kind := kept
			if kept > 1 {
				kind = r.Intn(2)
			}
			fates = append(fates, api.Fate{File: file, Sector: n, Kind: kind})
		}
	}
	return fates
}

// The tape is one: without trouble all of it is taken, and there is something of each kind.
func TestTape(t *testing.T) {
	w := newWalk(t, rand.New(rand.NewSource(1)), roomy(), map[string]int{})
	if w.played(tape(), 0) != 0 {
		t.Errorf("the power goes")
	}
	settled(t, "P24.4", w.p)
	if s := w.p.Node(0).State(); len(s.Ours) != 4 || len(s.Peers) != 5 || s.Local < 4 {
		t.Errorf("P24.4: %s", shown(s))
	}
}

// troubled has the tape done with one trouble of a side ahead of it; was there any? In the end Quiet comes to its end, and both close.
func (w *walk) troubled(side int, m Move, kept int) bool {
	w.t.Helper()
	refused := func() int { return w.seen["1 0 40"] + w.seen["4 0 40"] }
	before := refused()
	hit := w.played(append([]Move{m}, tape()...), kept) > 0 || refused() > before
	w.do(armed(side, 0))
	w.do(falls(side, 0))
	w.quiet()
	w.closes(0)
	w.closes(1)
	return hit
}

// P24.2 to P24.4 and T1 to T7, with the power gone, or the disk refusing, at every Write and Sync of a script, of each side.
func TestTroubleAtEach(t *testing.T) {
	t.Parallel()
	seen := map[string]int{}
	for side := range 2 {
		for i, trouble := range []func(side int, n int64) Move{falls, armed} {
			at := int64(1)
			for hit := true; hit; at++ {
				hit = false
				for kept := range []int{3, 1}[i] {
					w := newWalk(t, rand.New(rand.NewSource(at)), roomy(), seen)
					hit = w.troubled(side, trouble(side, at), kept) || hit
				}
			}
			if at < 30 {
				t.Errorf("side %d has %d Writes and Syncs", side, at)
			}
		}
	}
	for _, want := range []string{"the batch under way", "signed again", "sent again: 0", "sent again: 1", "sent again: 2", "sent again: 3"} {
		if seen[want] < 5 {
			t.Errorf("the scripts had %q %d times: %v", want, seen[want], seen)
		}
	}
}
