package resume

import (
	"math"
	"math/rand"
	"slices"
	"sync"
	"testing"

	"escrow/api"
)

// roomy is a state whose lists have room behind them, in which something stands.
func roomy(s api.State) api.State {
	odd := []api.Update{add(0, 7, 7), {Kind: -9, Note: "behind"}}
	s.Ours, s.Peers = slices.Concat(s.Ours, odd)[:len(s.Ours)], slices.Concat(s.Peers, odd)[:len(s.Peers)]
	s.Shelf = slices.Concat(s.Shelf, []api.Slot{{Index: 3, Full: true}, {Index: -1}})[:len(s.Shelf)]
	return s
}

// whole is a state with the room behind its lists in them.
func whole(s api.State) api.State {
	s.Ours, s.Peers, s.Shelf = s.Ours[:cap(s.Ours)], s.Peers[:cap(s.Peers)], s.Shelf[:cap(s.Shelf)]
	return s
}

func cloned(s api.State) api.State {
	s.Ours, s.Peers, s.Shelf = slices.Clone(s.Ours), slices.Clone(s.Peers), slices.Clone(s.Shelf)
	return s
}

// sameLists tells whether the lists of two states are alike; all else is a value, which no call can reach.
func sameLists(a, b api.State) bool {
	return slices.Equal(a.Ours, b.Ours) && slices.Equal(a.Peers, b.Peers) && slices.Equal(a.Shelf, b.Shelf)
}

func TestHandedInIsLeft(t *testing.T) {
	r := rand.New(rand.NewSource(184))
	for range 150 {
		c, s := walked(t, r)
		s = roomy(s)
		was := cloned(whole(s))
		Hello(c, s)
		for range 5 {
			Answer(c, s, helloFor(r, c, s))
		}
		if !sameLists(whole(s), was) {
			t.Fatalf("P18.1, R3: a call changed a list of %+v", shown(s))
		}
	}
}

// What is answered is the caller's, its spare room too: no other answer shares it.
func TestAnswersAreNewMemory(t *testing.T) {
	for _, behind := range []bool{true, false} {
		c, s := busy(behind)
		m := hello(8, 8, modelSecret(c.Seed, 7))
		want, _ := modelAnswer(c, s, m)
		one, other := check(t, c, s, m, want, api.OK), check(t, c, s, m, want, api.OK)
		clear(one[:cap(one)])
		if !slices.Equal(other, want) {
			t.Errorf("P18.1, R3: two answers share memory")
		}
		check(t, c, s, m, want, api.OK)
	}
}

// Nothing is kept: what was asked before, refused or not, and what is written over since, shows nowhere.
func TestNothingIsKept(t *testing.T) {
	r := rand.New(rand.NewSource(185))
	c, fresh := busy(true)
	m := hello(8, 8, modelSecret(c.Seed, 7))
	want, _ := modelAnswer(c, fresh, m)
	for range 50 {
		s := cloned(fresh)
		got := check(t, c, s, m, want, api.OK)
		clear(s.Ours)
		clear(s.Peers)
		if !slices.Equal(got, want) {
			t.Fatalf("P18.1, R3: an answer changed with the state")
		}
		checkLikeModel(t, c, s, m)
		config, other := walked(t, r)
		checkLikeModel(t, config, other, helloFor(r, config, other))
		refused(t, c, fresh, hello(8, 8, none), api.ErrSecret)
	}
}

// Of states that are not sound each call ends, and none panics: all numbers in all places.
func TestAnyState(t *testing.T) {
	calls := func(c api.Config, s api.State) {
		for _, next := range []int64{s.Local, s.Local - 1, 0, 1} {
			for _, index := range []int64{s.Remote, s.Remote + 1} {
				Answer(c, s, hello(index, next, modelSecret(c.Seed, min(max(next-1, 0), top))))
				Answer(c, s, hello(index, next, none))
			}
		}
		Hello(c, s)
	}
	c, sound := busy(true)
	for _, n := range numbers() {
		for _, k := range numbers() {
			s := sound
			s.Held.Ours, s.Signed.Ours = int(n), int(k)
			calls(c, s)
			s = sound
			s.Local, s.Acked, s.Remote = n, k, k+1
			calls(c, s)
			s.Remote = n
			calls(c, s)
			s = sound
			s.At, s.Signed.Peers, s.Held.Peers, s.Side, s.BaseOurs = counts(int(n), int(k)), int(n), int(k), int(k), n
			calls(c, s)
		}
	}
	calls(api.Config{}, api.State{})
	calls(api.Config{Side: math.MinInt, Capacity: -1}, api.State{Side: math.MaxInt, Closed: math.MinInt64})
	long := sound
	long.Ours, long.Shelf = make([]api.Update, 100000), make([]api.Slot, 100000)
	for _, n := range []int{math.MinInt, 0, 99999, 100000, 100001, math.MaxInt} {
		long.Signed.Ours = n
		calls(c, long)
	}
}

func TestAskedBesideOneAnother(t *testing.T) {
	c, s := busy(true)
	s = roomy(s)
	var w sync.WaitGroup
	for lane := range 8 {
		w.Go(func() {
			r := rand.New(rand.NewSource(int64(lane)))
			for range 300 {
				checkLikeModel(t, c, s, helloFor(r, c, s))
				if m := Hello(c, s); m != hello(10, 7, none) {
					t.Errorf("P18.1: Hello tells %+v", m)
				}
			}
		})
	}
	w.Wait()
}
