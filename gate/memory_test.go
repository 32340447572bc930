package gate

import (
	"math/rand"
	"slices"
	"sync"
	"testing"

	"escrow/api"
)

// answers is what a gate says of all small numbers.
func answers(g Gate) []bool {
	var l []bool
	for index := int64(-2); index <= 5; index++ {
		l = append(l, g.MaySend(index), g.MayBroadcast(index))
		for i := range 8 * 6 {
			l = append(l, g.MaySign(index, counts(i%8-1, i/8-1)))
		}
	}
	return l
}

// What is done to the state behind Of is not seen, in its lists and in what stands behind them.
func TestTheStateBehindTheGate(t *testing.T) {
	s := example()
	s.Ours = make([]api.Update, 4, 10)
	s.Peers, s.Shelf = make([]api.Update, 2, 10), make([]api.Slot, 3, 10)
	g := Of(1, s)
	want := answers(g)
	for i := range s.Ours {
		s.Ours[i] = api.Update{Kind: api.Add, ID: int64(i), Amount: 9}
	}
	s.Peers[0].Kind, s.Shelf[0].Full = api.Fail, true
	s.Ours = append(s.Ours, api.Update{Kind: api.Fail})
	s.Peers, s.Shelf = append(s.Peers, api.Update{}), append(s.Shelf, api.Slot{})
	if !slices.Equal(answers(g), want) {
		t.Errorf("P20.1: a gate's answers change with the lists of the state that it was made of")
	}
	if !g.MaySign(2, counts(4, 2)) || g.MaySign(2, counts(5, 2)) {
		t.Errorf("P20.1: a gate sees an update that came behind it")
	}
	signs(t, "P20.1: a gate of the state as it is now", s, 2, counts(5, 2), true)
	s.Ours = s.Ours[:1]
	s.Local, s.Remote, s.Signed, s.Failed, s.Closed = 9, 9, counts(9, 9), 180, 9
	if !slices.Equal(answers(g), want) {
		t.Errorf("P20.1: a gate's answers change with the state that it was made of")
	}
}

// Nothing that is handed in is changed, the room behind the lists neither.
func TestHandedInIsLeft(t *testing.T) {
	s := example()
	s.Ours, s.Peers, s.Shelf = make([]api.Update, 9), make([]api.Update, 9), make([]api.Slot, 9)
	for i := range 9 {
		s.Ours[i].ID, s.Peers[i].ID, s.Shelf[i].Index = int64(i), int64(10+i), int64(20+i)
	}
	ours, peers, slots := slices.Clone(s.Ours), slices.Clone(s.Peers), slices.Clone(s.Shelf)
	part := s
	part.Ours, part.Peers, part.Shelf = s.Ours[:4], s.Peers[:2], s.Shelf[:1]
	answers(Of(1, part))
	if !slices.Equal(s.Ours, ours) || !slices.Equal(s.Peers, peers) || !slices.Equal(s.Shelf, slots) {
		t.Errorf("R3: a list of the state was changed")
	}
}

// A gate says the same each time, whatever was asked before, of it or of another one, beside it too.
func TestNothingIsKeptFromCallToCall(t *testing.T) {
	one, other := Of(1, example()), Of(-1, failed(110))
	want := answers(one)
	answers(other)
	if !slices.Equal(answers(one), want) {
		t.Errorf("R4: a gate's answers change from call to call")
	}
	copied := one
	var both [8][]bool
	var wait sync.WaitGroup
	for i := range both {
		wait.Go(func() { both[i] = answers(copied) })
	}
	wait.Wait()
	for _, got := range both {
		if !slices.Equal(got, want) {
			t.Errorf("R4: a gate's copy answers otherwise")
		}
	}
}

// What no call names has no say: the fields that the chapter doesn't speak of, and what stands in the lists.
func TestWhatHasNoSay(t *testing.T) {
	r := rand.New(rand.NewSource(205))
	for range 2000 {
		s := example()
		s.Acked -= int64(r.Intn(2))
		s.Failed, s.Closed = []int{0, 0, 0, 110, 180}[r.Intn(5)], []int64{-1, -1, -1, 1, 2}[r.Intn(5)]
		mark := int64(r.Intn(5)) - 1
		odd := anyState(r)
		odd.Ours = make([]api.Update, 4, 8)
		for i := range odd.Ours {
			odd.Ours[i] = api.Update{Kind: r.Intn(6) - 1, ID: int64(r.Uint64()), Amount: int64(r.Uint64()), Note: "x"}
		}
		odd.Local, odd.Remote, odd.Acked = s.Local, s.Remote, s.Acked
		odd.At.Peers, odd.Signed = s.At.Peers, s.Signed
		odd.Failed, odd.Closed = s.Failed, s.Closed
		if !slices.Equal(answers(Of(mark, odd)), answers(Of(mark, s))) {
			t.Fatalf("P20.1: with the mark %d, %+v answers otherwise than %s", mark, odd, shown(s))
		}
	}
}

// And of what a call doesn't name another one's fields have no say in it.
func TestWhatHasNoSayInACall(t *testing.T) {
	r := rand.New(rand.NewSource(206))
	for range 20000 {
		s, odd := anyState(r), anyState(r)
		mark, index := near(r, s.Local, s.Local-1, -1), near(r, s.Local, s.Remote, s.Remote+1)
		n := counts(int(near(r, int64(s.Signed.Ours), int64(len(s.Ours)))), int(near(r, int64(s.At.Peers))))
		g := Of(mark, s)
		own := odd
		own.Local, own.Failed, own.Closed = s.Local, s.Failed, s.Closed
		if h := Of(mark, own); h.MaySend(index) != g.MaySend(index) || h.MayBroadcast(index) != g.MayBroadcast(index) {
			t.Fatalf("P20.1: with the mark %d, index %d: %s answers otherwise than %s", mark, index, shown(own), shown(s))
		}
		odd.Remote, odd.Acked, odd.Signed, odd.At.Peers, odd.Ours = s.Remote, s.Acked, s.Signed, s.At.Peers, s.Ours
		odd.Failed, odd.Closed = s.Failed, s.Closed
		if Of(near(r, mark, 0), odd).MaySign(index, n) != g.MaySign(index, n) {
			t.Fatalf("P20.1: index %d, %v: %s answers otherwise than %s", index, n, shown(odd), shown(s))
		}
	}
}
