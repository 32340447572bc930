package gate

import (
	"fmt"
	"math"
	"testing"

	"escrow/api"
)

const (
	maxIndex = 281474976710655
	least    = math.MinInt64
	most     = math.MaxInt64
)

// example is the state of the chapter's examples.
func example() api.State {
	return api.State{
		Local: 2, Remote: 1, Acked: 1,
		At: counts(3, 2), Signed: counts(1, 2),
		Ours: make([]api.Update, 4), Closed: -1,
	}
}

// but is the examples' state with something changed.
func but(change func(s *api.State)) api.State {
	s := example()
	change(&s)
	return s
}

func failed(code int) api.State { return but(func(s *api.State) { s.Failed = code }) }

func closed(index int64) api.State { return but(func(s *api.State) { s.Closed = index }) }

func counts(ours, peers int) api.Counts { return api.Counts{Ours: ours, Peers: peers} }

// shown is what the gate looks at of a state, and a little more, without its lists.
func shown(s api.State) string {
	return fmt.Sprintf("L %d R %d A %d At %v Signed %v Ours %d Failed %d Closed %d", s.Local, s.Remote, s.Acked, s.At, s.Signed, len(s.Ours), s.Failed, s.Closed)
}

func signs(t *testing.T, what string, s api.State, index int64, n api.Counts, want bool) {
	t.Helper()
	// No mark has a say in it.
	for _, mark := range []int64{least, -1, 0, 1, 2, most} {
		if got := Of(mark, s).MaySign(index, n); got != want {
			t.Errorf("%s: with the mark %d, %s: MaySign(%d, %v) = %v", what, mark, shown(s), index, n, got)
		}
	}
}

func sends(t *testing.T, what string, mark int64, s api.State, index int64, want bool) {
	t.Helper()
	if got := Of(mark, s).MaySend(index); got != want {
		t.Errorf("%s: with the mark %d, %s: MaySend(%d) = %v", what, mark, shown(s), index, got)
	}
}

func broadcasts(t *testing.T, what string, mark int64, s api.State, index int64, want bool) {
	t.Helper()
	if got := Of(mark, s).MayBroadcast(index); got != want {
		t.Errorf("%s: with the mark %d, %s: MayBroadcast(%d) = %v", what, mark, shown(s), index, got)
	}
}

func TestExample1(t *testing.T) {
	const what = "P20.1, example 1"
	broadcasts(t, what, 1, example(), 2, true)
	broadcasts(t, what, 1, example(), 1, false)
	broadcasts(t, what, 1, example(), 3, false)
	sends(t, what, 1, example(), 1, true)
	sends(t, what, 1, example(), 0, true)
	sends(t, what, 1, example(), 2, false)
	sends(t, what, 1, example(), -1, false)
	sends(t, what, 0, example(), 1, false)
	broadcasts(t, what, 2, example(), 2, false)
}

func TestExample2(t *testing.T) {
	const what = "P20.1, example 2"
	signs(t, what, example(), 1, counts(1, 2), true)
	signs(t, what, example(), 2, counts(4, 2), true)
	signs(t, what, example(), 2, counts(2, 2), true)
	signs(t, what, example(), 2, counts(1, 2), false)
	signs(t, what, example(), 2, counts(5, 2), false)
	signs(t, what, example(), 2, counts(0, 2), false)
	signs(t, what, example(), 2, counts(4, 3), false)
	signs(t, what, example(), 1, counts(2, 2), false)
	signs(t, what, example(), 3, counts(4, 2), false)
	signs(t, what, example(), 0, counts(1, 2), false)
	waits := but(func(s *api.State) { s.Acked = 0 })
	signs(t, what, waits, 2, counts(4, 2), false)
	signs(t, what, waits, 1, counts(1, 2), true)
}

func TestExample3(t *testing.T) {
	const what = "P20.4, example 3"
	for _, code := range []int{110, 180} {
		signs(t, what, failed(code), 1, counts(1, 2), false)
		signs(t, what, failed(code), 2, counts(4, 2), false)
		sends(t, what, 1, failed(code), 1, false)
		broadcasts(t, what, 1, failed(code), 2, code == 110)
	}
	broadcasts(t, what, 1, closed(2), 2, true)
	sends(t, what, 1, closed(2), 1, false)
	broadcasts(t, what, 1, closed(1), 2, false)
}

// The first commitments: nobody signs the one of index 0, and there is none to revoke ahead of the next one.
func TestTheBeginning(t *testing.T) {
	s := api.State{Closed: -1, Ours: make([]api.Update, 1)}
	signs(t, "P20.1: at the beginning", s, 0, counts(0, 0), false)
	signs(t, "P20.1: at the beginning", s, 0, counts(1, 0), false)
	signs(t, "P20.1: at the beginning", s, 1, counts(0, 0), false)
	signs(t, "P20.1: at the beginning", s, 1, counts(1, 0), true)
	signs(t, "P20.1: at the beginning", s, 2, counts(1, 0), false)
	for mark := int64(-1); mark <= 2; mark++ {
		broadcasts(t, "P20.1: at the beginning", mark, s, 0, mark == -1)
		sends(t, "P20.1: at the beginning", mark, s, 0, false)
	}
	s.Local = 1
	for mark := int64(-1); mark <= 2; mark++ {
		sends(t, "P20.1: behind the first commitment", mark, s, 0, mark >= 0)
		sends(t, "P20.1: behind the first commitment", mark, s, 1, false)
		broadcasts(t, "P20.1: behind the first commitment", mark, s, 1, mark <= 0)
		broadcasts(t, "P20.1: behind the first commitment", mark, s, 0, false)
	}
	// The zero State is closed with the index 0, and so it isn't still.
	zero := api.State{Ours: make([]api.Update, 1)}
	signs(t, "P20.4: the zero State", zero, 1, counts(1, 0), false)
	broadcasts(t, "P20.1: the zero State", -1, zero, 0, true)
	broadcasts(t, "P20.1: the zero State", 0, zero, 0, false)
}

// Below 0 no index is one, whatever the state says.
func TestIndexesBelow0(t *testing.T) {
	for _, index := range []int64{least, least + 1, -maxIndex, -3, -2, -1} {
		s := but(func(s *api.State) { s.Local, s.Remote, s.Acked = index, index, index })
		for _, mark := range []int64{least, index - 1, index, -1, 0, most} {
			broadcasts(t, "P20.1: below 0", mark, s, index, false)
			sends(t, "P20.1: below 0", mark, example(), index, false)
		}
		signs(t, "P20.1: again, below 1", s, index, s.Signed, false)
		signs(t, "P20.1: anew, below 1", s, index+1, counts(4, 2), false)
	}
	s := but(func(s *api.State) { s.Remote, s.Acked = 0, 0 })
	signs(t, "P20.1: again, 0", s, 0, s.Signed, false)
	signs(t, "P20.1: anew, 1", s, 1, counts(4, 2), true)
}

// Behind the greatest number no other one comes.
func TestTheGreatestNumbers(t *testing.T) {
	s := but(func(s *api.State) { s.Local, s.Remote, s.Acked = most, most, most })
	for _, index := range []int64{least, least + 1, -1, 0, 1, most - 1, most} {
		signs(t, "P20.1: anew behind the greatest", s, index, counts(4, 2), false)
		signs(t, "P20.1: again, the greatest", s, index, s.Signed, index == most)
		broadcasts(t, "P20.1: the greatest", most-1, s, index, index == most)
		broadcasts(t, "P20.1: the greatest", most, s, index, false)
		sends(t, "P20.1: below the greatest", most, s, index, index >= 0 && index < most)
	}
	for _, r := range []int64{maxIndex - 1, maxIndex, maxIndex + 1, 1 << 62, most - 1} {
		s := but(func(s *api.State) { s.Remote, s.Acked = r, r })
		signs(t, "P20.1: anew, no bound is asked for", s, r+1, counts(4, 2), true)
		signs(t, "P20.1: again, no bound is asked for", s, r, s.Signed, true)
	}
}

// Anew means one more, of just the counts that are there: each bound, with what lies beside it.
func TestCountsOfANewOne(t *testing.T) {
	s := but(func(s *api.State) { s.Signed, s.At, s.Ours = counts(3, 5), counts(9, 7), make([]api.Update, 6) })
	for ours := -1; ours <= 10; ours++ {
		for peers := -1; peers <= 10; peers++ {
			signs(t, "P20.1: anew", s, 2, counts(ours, peers), ours >= 3 && ours <= 6 && peers == 7)
		}
	}
	s.At.Peers = 5
	for ours := -1; ours <= 10; ours++ {
		signs(t, "P20.1: anew, with nothing of the peer's", s, 2, counts(ours, 5), ours > 3 && ours <= 6)
	}
	s.Signed.Ours = 6
	signs(t, "P20.1: anew, with nothing new", s, 2, counts(6, 5), false)
	s.At.Peers = 6
	signs(t, "P20.1: anew, with the peer's alone", s, 2, counts(6, 6), true)
	s.At.Peers = 4
	signs(t, "P20.1: anew, with less of the peer's", s, 2, counts(6, 4), true)
	s.Signed.Ours = 7
	for ours := 5; ours <= 8; ours++ {
		signs(t, "P20.1: anew, with fewer than were signed", s, 2, counts(ours, 4), false)
	}
	s.Ours, s.Signed, s.At = nil, counts(0, 0), counts(0, 1)
	signs(t, "P20.1: anew, without updates of mine", s, 2, counts(0, 1), true)
	signs(t, "P20.1: anew, without updates of mine", s, 2, counts(1, 1), false)
}

// The greatest lists, and counts that no list can have.
func TestManyUpdates(t *testing.T) {
	for _, size := range []int{0, 1, 2047, 2048, 2049, 70000} {
		s := but(func(s *api.State) { s.Ours = make([]api.Update, size, size+5) })
		s.Signed = counts(0, 2)
		for _, ours := range []int{math.MinInt, -1 << 32, -1, 0, 1, size - 1, size, size + 1, size + 65536, size + 1<<32, math.MaxInt} {
			signs(t, "P20.1: many updates", s, 2, counts(ours, 2), ours > 0 && ours <= size)
		}
	}
	s := but(func(s *api.State) { s.Signed, s.At.Peers = counts(math.MinInt, math.MaxInt), math.MinInt })
	signs(t, "P20.1: odd counts, again", s, 1, counts(math.MinInt, math.MaxInt), true)
	for _, ours := range []int{math.MinInt, math.MinInt + 1, -1, 0, 4, 5, math.MaxInt} {
		signs(t, "P20.1: odd counts, anew", s, 2, counts(ours, math.MinInt), ours <= 4)
		signs(t, "P20.1: odd counts, anew", s, 2, counts(ours, math.MaxInt), false)
	}
}

// Any Failed but 0 and any Closed but -1 has the state stand still no more; but just ErrLost, and another commitment's closing, keep it from the broadcast.
func TestWhatIsStill(t *testing.T) {
	for _, code := range []int{math.MinInt, -180, -1, 0, 1, 110, 179, 180, 181, 65535, 180 + 1<<16, 180 + 1<<32, 1 << 32, math.MaxInt} {
		for _, at := range []int64{least, -3, -2, -1, 0, 1, 2, 3, 2 + 1<<32, maxIndex, most} {
			s := but(func(s *api.State) { s.Failed, s.Closed = code, at })
			still := code == 0 && at == -1
			signs(t, "P20.4: again", s, 1, counts(1, 2), still)
			signs(t, "P20.4: anew", s, 2, counts(4, 2), still)
			sends(t, "P20.4", 1, s, 1, still)
			sends(t, "P20.4", 1, s, 0, still)
			broadcasts(t, "P20.4", 1, s, 2, code != 180 && (at == -1 || at == 2))
			for _, index := range []int64{-1, 0, 1, 3, at} {
				if index != 2 {
					broadcasts(t, "P20.1: not Local", -5, s, index, false)
				}
			}
		}
	}
}
