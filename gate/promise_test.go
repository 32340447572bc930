package gate

import (
	"math/rand"
	"testing"

	"escrow/api"
)

// The promises P20.2 to P20.4 in the gate's own answers, without a look at how they come about.

// never holds what P20.2 says of one state, at these marks, which rise, and these indexes.
func never(t *testing.T, s api.State, marks, indexes []int64) {
	t.Helper()
	for i, mark := range marks {
		g := Of(mark, s)
		for _, up := range indexes {
			for _, out := range indexes {
				if g.MayBroadcast(up) && g.MaySend(out) && up <= out {
					t.Fatalf("P20.2: with the mark %d, %s: %d may be broadcast, and %d sent", mark, shown(s), up, out)
				}
			}
		}
		for _, less := range marks[:i] {
			for _, index := range indexes {
				if g.MayBroadcast(index) && !Of(less, s).MayBroadcast(index) {
					t.Fatalf("P20.2: %s: %d may be broadcast with the mark %d, not with %d", shown(s), index, mark, less)
				}
				if Of(less, s).MaySend(index) && !g.MaySend(index) {
					t.Fatalf("P20.2: %s: %d may be sent with the mark %d, not with %d", shown(s), index, less, mark)
				}
			}
		}
	}
}

// span is the numbers from one to another.
func span(from, to int64) []int64 {
	var l []int64
	for n := from; n <= to; n++ {
		l = append(l, n)
	}
	return l
}

func TestNeverBoth(t *testing.T) {
	t.Parallel()
	for _, s := range stills() {
		for local := int64(-2); local <= 4; local++ {
			s.Local = local
			never(t, s, span(-3, 6), span(-3, 6))
		}
	}
	for _, local := range edges() {
		never(t, but(func(s *api.State) { s.Local = local }), edges(), edges())
	}
}

// What the broadcast waits for is told by its mark: with the mark at the last but one both are open, the one above the other.
func TestBothSidesOfTheMark(t *testing.T) {
	for local := int64(1); local <= 50; local++ {
		s := but(func(s *api.State) { s.Local = local })
		g := Of(local-1, s)
		if !g.MayBroadcast(local) || !g.MaySend(local-1) || g.MayBroadcast(local-1) || g.MaySend(local) {
			t.Errorf("P20.2: with the mark %d, %s: not just %d may be broadcast, and %d sent", local-1, shown(s), local, local-1)
		}
		// A revocation that isn't durable yet is not told.
		if g := Of(local-2, s); g.MaySend(local-1) || !g.MayBroadcast(local) {
			t.Errorf("P20.2: with the mark %d, %s: %d may be sent", local-2, shown(s), local-1)
		}
	}
}

// once holds what P20.3 says of one state, at one index and counts.
func once(t *testing.T, s api.State, index int64, n api.Counts) bool {
	t.Helper()
	may := Of(-1, s).MaySign(index, n)
	switch {
	case !may:
	case index < s.Remote:
		t.Fatalf("P20.3: %s: %d is less, and may be signed", shown(s), index)
	case index == s.Remote && n != s.Signed:
		t.Fatalf("P20.3: %s: %d may be signed with %v", shown(s), index, n)
	case index > s.Remote && s.Acked != s.Remote:
		t.Fatalf("P20.3: %s: %d may be signed ahead of the revocation", shown(s), index)
	}
	return may
}

func TestOneCommitmentAnIndex(t *testing.T) {
	t.Parallel()
	for remote := int64(-1); remote <= 3; remote++ {
		for acked := int64(-1); acked <= 4; acked++ {
			for i := range 4 * 3 * 3 {
				s := but(func(s *api.State) {
					s.Remote, s.Acked, s.Signed, s.At.Peers = remote, acked, counts(i%4, i/4%3), i/12
				})
				for j := range 7 * 6 * 5 {
					once(t, s, int64(j%7)-1, counts(j/7%6, j/42))
				}
			}
		}
	}
	r := rand.New(rand.NewSource(203))
	yes := 0
	for range 400000 {
		s := anyState(r)
		n := counts(int(near(r, int64(s.Signed.Ours), int64(len(s.Ours)))), int(near(r, int64(s.At.Peers), int64(s.Signed.Peers))))
		if once(t, s, near(r, s.Remote, s.Remote+1, s.Acked), n) {
			yes++
		}
	}
	if yes < 1000 {
		t.Errorf("P20.3: just %d may be signed", yes)
	}
}

// What isn't still signs and sends nothing, whatever it did ahead of that; what was lost isn't broadcast.
func TestNothingMore(t *testing.T) {
	t.Parallel()
	r := rand.New(rand.NewSource(204))
	stopped, lost := 0, 0
	for range 100000 {
		s := anyState(r)
		mark := near(r, s.Local, s.Local-1, -1)
		index, n, own := near(r, s.Remote, s.Remote+1), counts(int(near(r, int64(s.Signed.Ours), 4)), int(near(r, int64(s.At.Peers)))), near(r, s.Local, mark)
		g := Of(mark, s)
		if s.Failed != 0 || s.Closed != -1 {
			if g.MaySign(index, n) || g.MaySign(s.Remote, s.Signed) || g.MaySend(own) || g.MaySend(0) {
				t.Fatalf("P20.4: with the mark %d, %s: it isn't still, and signs or sends", mark, shown(s))
			}
		}
		may := g.MaySign(index, n) || g.MaySend(own)
		for _, stop := range []func(*api.State){
			func(s *api.State) { s.Failed = 1 + r.Intn(65535) },
			func(s *api.State) { s.Closed = s.Local },
			func(s *api.State) { s.Failed, s.Closed = 180, max(s.Local, 0) },
		} {
			dead := s
			if stop(&dead); dead.Failed == 0 && dead.Closed == -1 {
				continue
			}
			g := Of(mark, dead)
			if g.MaySign(index, n) || g.MaySend(own) {
				t.Fatalf("P20.4: with the mark %d, %s: it isn't still, and signs or sends", mark, shown(dead))
			}
			if may {
				stopped++
			}
			if dead.Failed == 180 && (g.MayBroadcast(own) || g.MayBroadcast(dead.Local)) {
				t.Fatalf("P20.4: with the mark %d, %s: it is lost, and broadcasts", mark, shown(dead))
			}
		}
		if g.MayBroadcast(own) {
			s.Failed = 180
			lost++
			broadcasts(t, "P20.4: lost", mark, s, own, false)
		}
	}
	if stopped < 1000 || lost < 1000 {
		t.Errorf("P20.4: just %d stopped, %d lost", stopped, lost)
	}
}
