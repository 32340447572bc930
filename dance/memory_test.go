package dance

import (
	"math"
	"math/rand"
	"slices"
	"strings"
	"sync"
	"testing"

	"escrow/api"
)

// roomy is a state whose lists have room behind them, in which something stands.
func roomy(s api.State) api.State {
	odd := []api.Update{add(0, 7, 7), fail(0, "x"), fulfill(1, 1), {Kind: -9, Note: "behind"}}
	ours, peers := append(slices.Clone(s.Ours), odd...), append(slices.Clone(s.Peers), odd...)
	slots := append(slices.Clone(s.Shelf), api.Slot{Index: 3, Full: true}, api.Slot{Index: -1})
	s.Ours, s.Peers, s.Shelf = ours[:len(s.Ours)], peers[:len(s.Peers)], slots[:len(s.Shelf)]
	return s
}

// whole is a state with the room behind its lists in them.
func whole(s api.State) api.State {
	s.Ours, s.Peers, s.Shelf = s.Ours[:cap(s.Ours)], s.Peers[:cap(s.Peers)], s.Shelf[:cap(s.Shelf)]
	return s
}

// copied is a state that shares no list.
func copied(s api.State) api.State {
	s.Ours, s.Peers, s.Shelf = slices.Clone(s.Ours), slices.Clone(s.Peers), slices.Clone(s.Shelf)
	return s
}

// walked is a sound state that a walk by chance came to, with lists of some length.
func walked(t *testing.T, r *rand.Rand) (api.Config, api.State) {
	t.Helper()
	l := loneByChance(r, tally{})
	for range r.Intn(100) {
		l.step(t)
	}
	return l.c, l.s
}

// asks makes every call on a state.
func asks(c api.Config, s api.State, r *rand.Rand) {
	id := int64(r.Intn(5)) - 1
	Start(c)
	Fixed(s)
	Spendable(s)
	PeerSpendable(s)
	Offer(s, 1, full32(5))
	Settle(s, id, preimage(1-s.Side, id))
	Refuse(s, id, "no")
	Sign(c, s)
	Again(c, s)
	for _, u := range []api.Update{add(1-s.Side, id, 1), fulfill(1-s.Side, id), fail(id, "no"), {Kind: r.Intn(5) - 1, ID: id}} {
		Heard(s, u)
	}
	for _, m := range []api.Message{{}, {Kind: api.MsgCommit, Index: s.Local + 1}, {Kind: api.MsgRevoke, Index: s.Acked}, {Kind: api.MsgRevoke, Index: s.Acked, Secret: modelSecret(seedOf(1), 0)}} {
		Came(c, s, m)
		Revoked(s, m)
	}
	Reveal(c, s.Local)
	Cut(s)
}

func TestStatesAreLeftAsTheyWere(t *testing.T) {
	r := rand.New(rand.NewSource(151))
	for range 300 {
		c, s := walked(t, r)
		s = roomy(s)
		was := copied(whole(s))
		asks(c, s, r)
		checkCame(t, c, s, comes(c, s))
		checkLooks(t, c, s)
		if !sameState(whole(s), was) {
			t.Fatalf("P15.1, R3: a call changed a list of %+v", s)
		}
	}
}

// What is answered is the caller's: a change of it, in its spare room too, is seen by no state and by no other answer.
func TestAnswersAreNewMemory(t *testing.T) {
	c, s := signedState(t)
	s.Shelf = []api.Slot{{Index: 4, Secret: full32(9), Full: true}, {}}
	s = roomy(s)
	was := copied(whole(s))
	want := copied(Cut(s))
	one, other := Cut(s), Cut(s)
	clear(one.Ours[:cap(one.Ours)])
	if !slices.Equal(one.Peers, want.Peers) || !slices.Equal(one.Shelf, want.Shelf) {
		t.Errorf("P15.1, R3: two lists of one Cut share memory")
	}
	clear(one.Peers[:cap(one.Peers)])
	clear(one.Shelf[:cap(one.Shelf)])
	if !sameState(other, want) || !sameState(whole(s), was) {
		t.Errorf("P15.1, R3: an answer of Cut shares memory: %+v, %+v", other, s)
	}
	m := comes(c, s)
	first, _ := Came(c, s, m)
	second, _ := Came(c, s, m)
	clear(first.Updates[:cap(first.Updates)])
	if !slices.Equal(second.Updates, was.Peers[3:6]) || !sameState(whole(s), was) {
		t.Errorf("P15.1, R3: an answer of Came shares memory: %+v, %+v", second, s)
	}
	// One array as both lists.
	both := s
	both.Peers = both.Ours[:3]
	both.At.Peers = 3
	cut := Cut(both)
	clear(cut.Ours)
	if !slices.Equal(cut.Peers, was.Ours[:3]) {
		t.Errorf("P15.1, R3: two lists of one Cut share memory where those of the state do")
	}
}

// Nothing is kept: a state that is written over behind a call changes no answer, and is seen as it is by the next.
func TestNothingIsKept(t *testing.T) {
	c, s := signedState(t)
	was := copied(s)
	m := comes(c, s)
	for range 3 {
		came, _ := Came(c, s, m)
		cut, again := Cut(s), Again(c, s)
		clear(s.Ours)
		clear(s.Peers)
		if !slices.Equal(came.Updates, was.Peers[3:]) || !sameState(cut, Cut(was)) {
			t.Errorf("P15.1, R3: an answer changed with the state: %+v, %+v", came, cut)
		}
		if _, e := Came(c, s, m); e != api.ErrSeal {
			t.Errorf("P15.1: Came of a state that was written over tells %d", e)
		}
		copy(s.Ours, was.Ours)
		copy(s.Peers, was.Peers)
		checkCame(t, c, s, m)
		checkLooks(t, c, s)
		if Again(c, s) != again {
			t.Errorf("P15.5: Again tells another signature")
		}
	}
}

// bend changes one thing of a state to anything.
func bend(r *rand.Rand, s api.State) api.State {
	odd := []int64{math.MinInt64, math.MinInt64 + 1, -most, -513, -2, -1, 0, 1, 2, 3, 5, 511, 512, 2048, api.MaxIndex - 2, api.MaxIndex - 1, api.MaxIndex, api.MaxIndex + 1, most, most + 1, math.MaxInt64 - 1, math.MaxInt64}
	n := odd[r.Intn(len(odd))]
	bendList := func(l []api.Update) []api.Update {
		l = slices.Clone(l)
		u := api.Update{Kind: r.Intn(6) - 1, ID: odd[r.Intn(len(odd))], Amount: n, Note: strings.Repeat("n", r.Intn(3)*33)}
		if len(l) == 0 || r.Intn(3) == 0 {
			return append(l, u)
		}
		i := r.Intn(len(l))
		switch r.Intn(5) {
		case 0:
			l[i] = u
		case 1:
			return slices.Delete(l, i, i+1)
		case 2:
			return slices.Insert(l, i, l[r.Intn(len(l))])
		case 3:
			l[i].Amount = n
		case 4:
			l[i].ID = n
		}
		return l
	}
	switch field := r.Intn(20); field {
	case 0:
		s.Side = int(n)
	case 1:
		s.Capacity = n
	case 2:
		s.BaseOurs = n
	case 3:
		s.BasePeers = n
	case 4, 5:
		s.Ours = bendList(s.Ours)
	case 6, 7:
		s.Peers = bendList(s.Peers)
	case 8:
		s.Local = n
	case 9:
		s.Remote = n
	case 10:
		s.Acked = n
	case 11:
		s.Shelf = make([]api.Slot, r.Intn(60))
	case 12:
		s.Points[r.Intn(2)][5]++
	case 13:
		s.Remote, s.Acked = n, n
	default:
		count := [...]*int{&s.At.Ours, &s.At.Peers, &s.Signed.Ours, &s.Signed.Peers, &s.Held.Ours, &s.Held.Peers}[field-14]
		*count = int(n)
	}
	return s
}

// checkAll holds every call on a sound state against the model.
func checkAll(t *testing.T, c api.Config, s api.State, r *rand.Rand) {
	t.Helper()
	id := int64(r.Intn(5)) - 1
	checkLooks(t, c, s)
	checkOffer(t, s, max(Spendable(s), 1), full32(5))
	checkSettle(t, s, id, preimage(1-s.Side, id))
	checkRefuse(t, s, id, "no")
	checkSign(t, c, s)
	checkHeard(t, s, add(1-s.Side, int64(len(addsOf(s.Peers))), max(PeerSpendable(s), 1)))
	checkHeard(t, s, fulfill(1-s.Side, id))
	checkRevoked(t, s, api.Message{Kind: api.MsgRevoke, Index: s.Acked, Secret: modelSecret(seedOf(1-s.Side), max(s.Acked, 0))})
	if s.Local < api.MaxIndex {
		checkCame(t, c, s, comes(c, s))
	}
}

// Of states that are not sound every call ends, and none panics; those that still are answer as said.
func TestAnyState(t *testing.T) {
	r := rand.New(rand.NewSource(152))
	odd, still := 0, 0
	for range 400 {
		c, s := walked(t, r)
		for range 20 {
			bent := bend(r, s)
			if r.Intn(2) == 0 {
				bent = bend(r, bent)
			}
			asks(c, bent, r)
			if unsound(bent) != "" {
				odd++
				continue
			}
			still++
			checkAll(t, c, bent, r)
		}
		if t.Failed() {
			return
		}
	}
	if odd < 1000 || still < 500 {
		t.Errorf("P15.1: only %d states that are not sound, and %d that are", odd, still)
	}
	// Also where the signature is right, and At has no such updates.
	c, s := signedState(t)
	for _, n := range []int{math.MinInt, -1, 7, math.MaxInt} {
		s.At.Peers = n
		Came(c, s, comes(c, s))
		asks(c, s, r)
	}
	asks(api.Config{}, api.State{}, r)
	asks(api.Config{Side: math.MinInt}, api.State{Closed: -1, Side: math.MinInt}, r)
}

// Lists far longer than a side's may be are gone through all the same.
func TestLongLists(t *testing.T) {
	const n = 100000
	c, s := first(t)
	s.Ours, s.Peers = make([]api.Update, n), make([]api.Update, n)
	for i := range n {
		s.Ours[i], s.Peers[i] = add(0, int64(i%2048), most), fail(int64(i%1024), "")
	}
	for _, k := range []int{math.MinInt, -1, 0, n, n + 1, math.MaxInt} {
		asks(c, settled(s, counts(k, k)), rand.New(rand.NewSource(1)))
	}
}

func TestAskedBesideOneAnother(t *testing.T) {
	c, s := signedState(t)
	s = roomy(s)
	m := comes(c, s)
	var w sync.WaitGroup
	for lane := range 8 {
		w.Go(func() {
			r := rand.New(rand.NewSource(int64(lane)))
			for range 20 {
				checkAll(t, c, s, r)
				checkCame(t, c, s, m)
				own, mine := walked(t, r)
				checkAll(t, own, mine, r)
			}
		})
	}
	w.Wait()
}
