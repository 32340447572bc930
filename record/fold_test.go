package record

import (
	"math"
	"math/rand"
	"slices"
	"strings"
	"testing"

	"escrow/api"
	"escrow/dance"
	"escrow/seed"
)

// listByChance is a list that may be a side's: adds in order, removals of IDs that are few, and now and then anything.
func listByChance(r *rand.Rand) []api.Update {
	var l []api.Update
	next := int64(0)
	for range r.Intn(8) {
		switch r.Intn(8) {
		case 0:
			l = append(l, api.Update{Kind: r.Intn(6) - 1, ID: int64(r.Intn(6)) - 1, Amount: int64(r.Intn(3)) - 1})
		case 1:
			l = append(l, fulfill(int64(r.Intn(6))))
		case 2:
			l = append(l, fail(int64(r.Intn(6)), "no"))
		default:
			l = append(l, add(next, 1+r.Int63n(9)))
			next++
		}
	}
	return l
}

// stateByChance is any state of which P17.3 speaks: what it doesn't name is anything.
func stateByChance(r *rand.Rand) api.State {
	odd := func() int64 { return numbers()[r.Intn(len(numbers()))] }
	s := api.State{
		Side: int(odd()), Capacity: odd(), BaseOurs: odd(), BasePeers: odd(), Ours: listByChance(r), Peers: listByChance(r),
		Local: r.Int63n(5) - 1, Acked: r.Int63n(5) - 1, Behind: r.Intn(2) == 0, Points: [2]api.Hash{hashByChance(r), hashByChance(r)}, Sig: hashByChance(r), Closed: odd(),
	}
	if r.Intn(10) == 0 {
		s.Local, s.Acked = odd(), min(odd(), math.MaxInt64-1)
	}
	s.Remote = s.Acked + int64(r.Intn(2))
	s.At, s.Signed, s.Held = counts(int(odd()), r.Intn(len(s.Peers)+1)), counts(r.Intn(len(s.Ours)+1), int(odd())), counts(r.Intn(len(s.Ours)+1), int(odd()))
	if r.Intn(3) == 0 {
		s.Shelf = make([]api.Slot, r.Intn(52))
	}
	if r.Intn(3) == 0 {
		s.Failed = int(odd())
	}
	return s
}

// bentState is a state with one of the things changed that records look at.
func bentState(r *rand.Rand, s api.State) api.State {
	n := numbers()[r.Intn(len(numbers()))]
	switch r.Intn(9) {
	case 0:
		s.Local = n
	case 1:
		s.Remote = n
	case 2:
		s.Acked = n
	case 3:
		s.Remote, s.Acked = n, n
	case 4:
		s.At.Peers = int(n)
	case 5:
		s.Signed.Ours = int(n)
	case 6:
		s.Held.Ours = int(n)
	case 7:
		s.Ours = adds(2045 + r.Intn(5))
	case 8:
		s.Peers = adds(2045 + r.Intn(5))
		s.At.Peers = r.Intn(len(s.Peers) + 1)
	}
	return s
}

// nextFor is an update that may well stand behind a list.
func nextFor(r *rand.Rand, mine, others []api.Update) api.Update {
	n := int64(0)
	for _, u := range mine {
		if u.Kind == 1 {
			n++
		}
	}
	id := r.Int63n(int64(len(others)) + 1)
	switch r.Intn(6) {
	case 0:
		return fail(id, strings.Repeat("n", r.Intn(65)))
	case 1, 2:
		return fulfill(id)
	}
	return add(n, 1+r.Int63n(100))
}

// recordFor is a record that a state takes more often than not.
func recordFor(r *rand.Rand, s api.State) api.Record {
	off := int64(0)
	if r.Intn(10) == 0 {
		off = r.Int63n(3) - 1
	}
	switch 1 + r.Intn(6) {
	case 1:
		return api.Record{Kind: 1, Update: nextFor(r, s.Ours, s.Peers)}
	case 2:
		ours := min(max(s.Signed.Ours, 0), len(s.Ours))
		return api.Record{Kind: 2, Index: s.Remote + 1 + off, Counts: counts(ours+r.Intn(len(s.Ours)-ours+1+int(max(off, 0))), s.At.Peers+r.Intn(9)/8)}
	case 3:
		x := api.Record{Kind: 3, Index: s.Local + 1 + off, Sig: hashByChance(r)}
		peers := slices.Clone(s.Peers[:min(max(s.At.Peers, 0), len(s.Peers))])
		for range r.Intn(4) {
			u := nextFor(r, peers, s.Ours)
			if modelNext(peers, s.Ours, u) || r.Intn(5) == 0 {
				peers, x.Updates = append(peers, u), append(x.Updates, u)
			}
		}
		return x
	case 4:
		x := api.Record{Kind: 4, Index: s.Acked + off, Point: hashByChance(r)}
		x.Secret, _ = seed.Secret(rising(7), x.Index)
		return x
	case 5:
		return api.Record{Kind: 5, Code: 1 + r.Intn(65535)}
	}
	return api.Record{Kind: 6, Index: s.Local + off}
}

func within(n int, l []api.Update) bool { return 0 <= n && n <= len(l) }

// checkKept holds what a fold keeps from one state to the next.
func checkKept(t *testing.T, s, next api.State) {
	t.Helper()
	rises := func(a, b int64) bool { return a == b || a+1 == b }
	switch {
	case next.Remote != next.Acked && next.Remote != next.Acked+1:
		t.Errorf("P17.3: Remote is %d, Acked %d", next.Remote, next.Acked)
	case !within(next.At.Peers, next.Peers) || !within(next.Signed.Ours, next.Ours) || !within(next.Held.Ours, next.Ours):
		t.Errorf("P17.3: the counts are %v, %v, %v of %d and %d", next.At, next.Signed, next.Held, len(next.Ours), len(next.Peers))
	case !rises(s.Local, next.Local) || !rises(s.Remote, next.Remote) || !rises(s.Acked, next.Acked):
		t.Errorf("P17.3: %d, %d, %d became %d, %d, %d", s.Local, s.Remote, s.Acked, next.Local, next.Remote, next.Acked)
	case len(next.Ours) < len(s.Ours) || !slices.Equal(next.Ours[:len(s.Ours)], s.Ours):
		t.Errorf("P17.3: Ours was %v and is %v", s.Ours, next.Ours)
	case next.At.Peers < s.At.Peers || !slices.Equal(next.Peers[:s.At.Peers], s.Peers[:s.At.Peers]):
		t.Errorf("P17.3: of Peers %d counted, now %d: %v, %v", s.At.Peers, next.At.Peers, s.Peers, next.Peers)
	case s.Failed != 0 && next.Failed != s.Failed:
		t.Errorf("P17.3: Failed was %d and is %d", s.Failed, next.Failed)
	}
}

func TestWhatAFoldKeeps(t *testing.T) {
	r := rand.New(rand.NewSource(174))
	taken := map[int]int{}
	for range 3000 {
		s := stateByChance(r)
		for range 40 {
			x := recordFor(r, s)
			next, e := Apply(s, x)
			if e != api.OK {
				continue
			}
			taken[x.Kind]++
			checkKept(t, s, next)
			if t.Failed() {
				t.Fatalf("P17.3: by %+v", x)
			}
			s = next
			// What the peer says without a signature is no record.
			if r.Intn(3) == 0 {
				s.Peers = append(s.Peers, nextFor(r, s.Peers, s.Ours))
			}
		}
	}
	for kind := 1; kind <= 6; kind++ {
		if taken[kind] < 5000 {
			t.Errorf("P17.3: of kind %d only %d were taken", kind, taken[kind])
		}
	}
}

// side is one of two that talk through dance; its records are kept as bytes too.
type side struct {
	c     api.Config
	s     api.State
	log   strings.Builder
	queue []any // what is under way to the other one
}

// do takes what dance answers, if it isn't refused: it must stand there.
func (x *side) do(t *testing.T, r api.Record, e api.Errno) bool {
	t.Helper()
	if e != api.OK {
		return false
	}
	b, e := Write(r)
	if e != api.OK {
		t.Fatalf("P17.1: Write(%+v) tells %d", r, e)
	}
	x.log.WriteString(b)
	next, ok := checkLikeModel(t, x.s, r)
	if !ok || t.Failed() {
		t.Fatalf("P17.1: what dance answers, %+v, doesn't stand behind %+v", r, x.s)
	}
	checkKept(t, x.s, next)
	x.s = next
	return true
}

func (x *side) step(t *testing.T, r *rand.Rand) {
	switch id := int64(r.Intn(len(x.s.Peers) + 1)); r.Intn(5) {
	case 0, 1:
		record, e := dance.Offer(x.s, 1+r.Int63n(40), add(int64(len(x.s.Ours)), 1).Hash)
		x.propose(t, record, e)
	case 2:
		record, e := dance.Refuse(x.s, id, "no")
		x.propose(t, record, e)
	case 3:
		// The preimage hangs on how long the list was.
		for n := range int64(len(x.s.Peers) + 1) {
			record, e := dance.Settle(x.s, id, preimage(n))
			x.propose(t, record, e)
		}
	case 4:
		record, e := dance.Sign(x.c, x.s)
		if x.do(t, record, e) {
			x.queue = append(x.queue, dance.Again(x.c, x.s))
		}
	}
}

func (x *side) propose(t *testing.T, r api.Record, e api.Errno) {
	if x.do(t, r, e) {
		x.queue = append(x.queue, r.Update)
	}
}

// hear takes the next thing that the other side sent.
func (x *side) hear(t *testing.T, from *side) {
	if len(from.queue) == 0 {
		return
	}
	thing := from.queue[0]
	from.queue = from.queue[1:]
	switch m := thing.(type) {
	case api.Update:
		if e := dance.Heard(x.s, m); e != api.OK {
			t.Fatalf("P17.1: Heard(%+v) tells %d", m, e)
		}
		x.s.Peers = append(slices.Clone(x.s.Peers), m)
	case api.Message:
		was := x.s.Local
		if m.Kind == api.MsgRevoke {
			record, e := dance.Revoked(x.s, m)
			if !x.do(t, record, e) {
				t.Fatalf("P17.1: Revoked tells %d", e)
			}
			return
		}
		record, e := dance.Came(x.c, x.s, m)
		if !x.do(t, record, e) {
			t.Fatalf("P17.1: Came tells %d", e)
		}
		x.queue = append(x.queue, dance.Reveal(x.c, was))
	}
}

// again is what the records make of the first state, read one by one.
func (x *side) again(t *testing.T) api.State {
	t.Helper()
	s, _ := dance.Start(x.c)
	b := x.log.String()
	for b != "" {
		r, n, e := Read(b)
		if e != api.OK {
			t.Fatalf("P17.2: Read(%x) tells %d", short(b), e)
		}
		s = apply(t, s, r)
		b = b[n:]
	}
	return s
}

func sideOf(n int) *side {
	seeds := [2]api.Hash{full(1), full(2)}
	first, _ := seed.Secret(seeds[1-n], 0)
	second, _ := seed.Secret(seeds[1-n], 1)
	points := [2]api.Hash{seed.Point(first), seed.Point(second)}
	c := api.Config{Side: n, Capacity: 1000, Ours: []int64{700, 300}[n], Seed: seeds[n], Key: full(byte(3 + n)), PeerKey: full(byte(4 - n)), Points: points}
	s, _ := dance.Start(c)
	return &side{c: c, s: s}
}

// Two sides, whose every record stands: from their bytes alone comes the state of each, but for what came without a signature.
func TestRecordsOfDance(t *testing.T) {
	r := rand.New(rand.NewSource(175))
	kinds, updates := map[int]int{}, map[int]int{}
	for range 60 {
		sides := [2]*side{sideOf(0), sideOf(1)}
		for range 250 {
			n := r.Intn(2)
			if r.Intn(2) == 0 {
				sides[n].step(t, r)
			} else {
				sides[n].hear(t, sides[1-n])
			}
		}
		for _, x := range sides {
			x.do(t, api.Record{Kind: api.RecClosed, Index: x.s.Local}, api.OK)
			if got, want := x.again(t), dance.Cut(x.s); !sameState(got, want) {
				t.Fatalf("P17.2: the records make %+v, want %+v", shownState(got), shownState(want))
			}
			for b := x.log.String(); b != ""; {
				record, n, _ := Read(b)
				kinds[record.Kind]++
				updates[record.Update.Kind]++
				b = b[n:]
			}
		}
	}
	for kind := 1; kind <= 4; kind++ {
		if kinds[kind] < 300 || updates[kind] < 50 && kind < 4 {
			t.Errorf("P17.1: of kind %d only %d records, %d updates", kind, kinds[kind], updates[kind])
		}
	}
}
