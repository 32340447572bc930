package gate

import (
	"math"
	"math/big"
	"math/rand"
	"testing"

	"escrow/api"
)

// A second telling of the chapter: in numbers that can't wrap, and in lists of all that may be done.

type text struct {
	index int64
	n     api.Counts
}

// signable is all that may be signed, of a state with small counts.
func signable(s api.State) []text {
	var l []text
	if s.Failed != 0 || s.Closed != -1 {
		return l
	}
	if s.Remote > 0 {
		l = append(l, text{s.Remote, s.Signed})
	}
	if s.Remote != s.Acked || s.Remote < 0 || s.Remote == math.MaxInt64 {
		return l
	}
	for ours := s.Signed.Ours; ours <= len(s.Ours); ours++ {
		if n := counts(ours, s.At.Peers); n != s.Signed {
			l = append(l, text{s.Remote + 1, n})
		}
	}
	return l
}

// sendable is all whose secret may be told: none of -1 and below, for there are no such commitments.
func sendable(mark int64, s api.State) []int64 {
	var l []int64
	if s.Failed == 0 && s.Closed == -1 {
		for index := int64(0); index < s.Local; index++ {
			if mark >= index {
				l = append(l, index)
			}
		}
	}
	return l
}

// broadcastable is all that may be broadcast.
func broadcastable(mark int64, s api.State) []int64 {
	if s.Local < 0 || mark >= s.Local || s.Failed == 180 {
		return nil
	}
	if s.Closed != -1 && s.Closed != s.Local {
		return nil
	}
	return []int64{s.Local}
}

func wide(n int64) *big.Int { return big.NewInt(n) }

func within(low, n, high int64) bool {
	return wide(low).Cmp(wide(n)) <= 0 && wide(n).Cmp(wide(high)) <= 0
}

// modelSign is what MaySign says, at any numbers.
func modelSign(s api.State, index int64, n api.Counts) bool {
	if s.Failed != 0 || s.Closed != -1 || wide(index).Sign() <= 0 {
		return false
	}
	same := n.Ours == s.Signed.Ours && n.Peers == s.Signed.Peers
	if wide(index).Cmp(wide(s.Remote)) == 0 && same {
		return true
	}
	step := new(big.Int).Sub(wide(index), wide(s.Remote))
	if step.Cmp(wide(1)) != 0 || wide(s.Remote).Cmp(wide(s.Acked)) != 0 {
		return false
	}
	return within(int64(s.Signed.Ours), int64(n.Ours), int64(len(s.Ours))) && n.Peers == s.At.Peers && !same
}

func modelSend(mark int64, s api.State, index int64) bool {
	if s.Failed != 0 || s.Closed != -1 {
		return false
	}
	return within(0, index, mark) && wide(index).Cmp(wide(s.Local)) < 0
}

func modelBroadcast(mark int64, s api.State, index int64) bool {
	if wide(index).Cmp(wide(s.Local)) != 0 || wide(index).Sign() < 0 || wide(index).Cmp(wide(mark)) <= 0 {
		return false
	}
	return s.Failed != 180 && (s.Closed == -1 || wide(s.Closed).Cmp(wide(index)) == 0)
}

// stills is pairs of Failed and Closed.
func stills() []api.State {
	var l []api.State
	for _, code := range []int{0, 1, 110, 180, -1} {
		for at := int64(-2); at <= 3; at++ {
			l = append(l, api.State{Failed: code, Closed: at})
		}
	}
	return l
}

// Every small state, and all small numbers.
func TestAllSmallSigns(t *testing.T) {
	t.Parallel()
	yes := 0
	for _, s := range stills() {
		for remote := int64(-2); remote <= 2; remote++ {
			for acked := int64(-2); acked <= 2; acked++ {
				for size := range 4 {
					s.Remote, s.Acked, s.Ours = remote, acked, make([]api.Update, size)
					yes += checkSmallSigns(t, s)
				}
			}
		}
	}
	if yes < 1000 {
		t.Errorf("P20.1: just %d may be signed", yes)
	}
}

// checkSmallSigns goes through the counts of a state, and tells how much of all that was asked may be signed.
func checkSmallSigns(t *testing.T, s api.State) int {
	t.Helper()
	yes := 0
	for i := range 5 * 4 * 4 {
		s.Signed, s.At.Peers = counts(i%5-1, i/5%4-1), i/20-1
		may := map[text]int{}
		for _, x := range signable(s) {
			may[x]++
		}
		g := Of(int64(i%4)-1, s)
		for j := range 7 * 7 * 6 {
			x := text{int64(j%7) - 3, counts(j/7%7-2, j/49-2)}
			if got := g.MaySign(x.index, x.n); got != (may[x] > 0) {
				t.Fatalf("P20.1: %s: MaySign(%d, %v) = %v", shown(s), x.index, x.n, got)
			}
		}
		yes += len(may)
	}
	return yes
}

func TestAllSmallSendsAndBroadcasts(t *testing.T) {
	t.Parallel()
	for _, s := range stills() {
		for local := int64(-3); local <= 4; local++ {
			for mark := int64(-4); mark <= 6; mark++ {
				s.Local, s.Remote, s.Acked = local, (local+mark)&3, mark&3
				send, broadcast := map[int64]int{}, map[int64]int{}
				for _, index := range sendable(mark, s) {
					send[index]++
				}
				for _, index := range broadcastable(mark, s) {
					broadcast[index]++
				}
				for index := int64(-5); index <= 7; index++ {
					sends(t, "P20.1", mark, s, index, send[index] > 0)
					broadcasts(t, "P20.1", mark, s, index, broadcast[index] > 0)
				}
			}
		}
	}
}

// edges is the numbers at which something could wrap, or lose what stands above some bits.
func edges() []int64 {
	return []int64{
		least, least + 1, least + 2, -1 << 62, -maxIndex, -1 << 32, -1 << 31, -2, -1, 0, 1, 2, 3,
		1<<31 - 1, 1 << 31, 1<<32 - 1, 1 << 32, 1<<32 + 1, 1<<32 + 2, maxIndex - 1, maxIndex, maxIndex + 1, 1<<53 + 1, 1 << 60, 1 << 62, most - 2, most - 1, most,
	}
}

func TestAllEdgesOfSigns(t *testing.T) {
	t.Parallel()
	s := example()
	ns := []api.Counts{s.Signed, counts(4, 2), counts(2, 2), counts(5, 2), counts(0, 2), counts(4, 3), counts(4+1<<32, 2), counts(4, 2+1<<32)}
	for _, remote := range edges() {
		for _, acked := range append(edges(), remote) {
			s.Remote, s.Acked = remote, acked
			for _, index := range append(edges(), remote-1, remote, remote+1, remote+2) {
				for i, n := range ns {
					if got, want := Of(int64(i), s).MaySign(index, n), modelSign(s, index, n); got != want {
						t.Fatalf("P20.1: %s: MaySign(%d, %v) = %v", shown(s), index, n, got)
					}
				}
			}
		}
	}
}

func TestAllEdgesOfSendsAndBroadcasts(t *testing.T) {
	t.Parallel()
	for _, local := range edges() {
		for _, mark := range append(edges(), local-1, local+1) {
			for _, at := range []int64{-1, local, 0, most} {
				s := but(func(s *api.State) { s.Local, s.Closed = local, at })
				for _, index := range append(edges(), local-1, local+1, mark-1, mark+1) {
					sends(t, "P20.1", mark, s, index, modelSend(mark, s, index))
					broadcasts(t, "P20.1", mark, s, index, modelBroadcast(mark, s, index))
				}
			}
		}
	}
}

// near is a number by chance: one of those given or beside it, or any.
func near(r *rand.Rand, to ...int64) int64 {
	switch r.Intn(8) {
	case 0:
		return int64(r.Uint64())
	case 1:
		l := edges()
		return l[r.Intn(len(l))]
	case 2, 3:
		return to[r.Intn(len(to))] + int64(r.Intn(5)) - 2
	}
	return to[r.Intn(len(to))]
}

// anyState is a state by chance, in which all fields may hold anything, but often what belongs together.
func anyState(r *rand.Rand) api.State {
	size := r.Intn(6)
	base := near(r, 0, 1, 7, maxIndex)
	s := api.State{
		Side: r.Intn(4) - 1, Capacity: int64(r.Uint64()), BaseOurs: int64(r.Uint64()), BasePeers: int64(r.Uint64()),
		Ours: make([]api.Update, size, size+r.Intn(3)), Peers: make([]api.Update, r.Intn(6)),
		Local: near(r, 0, 1, 7, maxIndex), Remote: base, Acked: near(r, base),
		Behind: r.Intn(2) == 0, Shelf: make([]api.Slot, r.Intn(60)),
		Failed: int(near(r, 0, 0, 0, 180, 110)), Closed: near(r, -1, -1, -1, 0, 7),
	}
	some := func() api.Counts { return counts(int(near(r, 0, int64(size))), int(near(r, 0, 1, 2))) }
	s.At, s.Signed, s.Held = some(), some(), some()
	r.Read(s.Sig[:])
	r.Read(s.Points[1][:])
	return s
}

func TestAnyStateLikeTheModel(t *testing.T) {
	t.Parallel()
	r := rand.New(rand.NewSource(201))
	var yes [3]int
	for range 300000 {
		s := anyState(r)
		mark := near(r, s.Local, s.Local-1, -1)
		g := Of(mark, s)
		index := near(r, s.Remote, s.Remote+1)
		n := counts(int(near(r, int64(s.Signed.Ours), int64(len(s.Ours)))), int(near(r, int64(s.At.Peers), int64(s.Signed.Peers))))
		own := near(r, s.Local, mark, s.Closed)
		got := [3]bool{g.MaySign(index, n), g.MaySend(own), g.MayBroadcast(own)}
		want := [3]bool{modelSign(s, index, n), modelSend(mark, s, own), modelBroadcast(mark, s, own)}
		if got != want {
			t.Fatalf("P20.1: with the mark %d, %s: MaySign(%d, %v), MaySend(%d), MayBroadcast(%d) = %v, want %v", mark, shown(s), index, n, own, own, got, want)
		}
		for i, b := range got {
			if b {
				yes[i]++
			}
		}
	}
	if min(yes[0], yes[1], yes[2]) < 1000 {
		t.Errorf("P20.1: just %v of them may", yes)
	}
}
