package record

import (
	"math"
	"math/rand"
	"slices"
	"testing"

	"escrow/api"
	"escrow/seed"
	"escrow/shelf"
)

// shownState is a state with its lists cut short.
func shownState(s api.State) api.State {
	s.Ours, s.Peers, s.Shelf = s.Ours[:min(len(s.Ours), 5)], s.Peers[:min(len(s.Peers), 5)], nil
	return s
}

func checkTaken(t *testing.T, s api.State, r api.Record, want api.State) {
	t.Helper()
	if got, e := Apply(s, r); !sameState(got, want) || e != api.OK {
		t.Errorf("P17.1: Apply(%+v, %+v) tells %+v, %d, want %+v", shownState(s), shown(r), shownState(got), e, shownState(want))
	}
}

func checkRefused(t *testing.T, s api.State, r api.Record) {
	t.Helper()
	if got, e := Apply(s, r); !sameState(got, api.State{}) || e != 170 {
		t.Errorf("P17.1: Apply(%+v, %+v) tells %+v, %d, want none, 170", shownState(s), shown(r), shownState(got), e)
	}
}

// checkLikeModel holds Apply against the model, and tells whether the record is taken.
func checkLikeModel(t *testing.T, s api.State, r api.Record) (api.State, bool) {
	t.Helper()
	want, ok := modelApply(s, r)
	if ok {
		checkTaken(t, s, r, want)
	} else {
		checkRefused(t, s, r)
	}
	return want, ok
}

// apply is what a record that is taken makes of a state.
func apply(t *testing.T, s api.State, r api.Record) api.State {
	t.Helper()
	got, e := Apply(s, r)
	if e != api.OK {
		t.Fatalf("P17.1: Apply(%+v, %+v) tells %d", shownState(s), shown(r), e)
	}
	return got
}

// strange is a state in which no field is zero and no two are alike, so that each one shows whether it was left.
func strange() api.State {
	return api.State{
		Side: 3, Capacity: 11, BaseOurs: 12, BasePeers: 13,
		Ours: []api.Update{add(0, 21), add(1, 22), fail(1, "x")}, Peers: []api.Update{add(0, 31), add(1, 32), add(2, 33), fail(0, "y")},
		Local: 40, Remote: 50, Acked: 50, At: counts(61, 3), Signed: counts(1, 64), Held: counts(2, 66),
		Behind: true, Points: [2]api.Hash{full(71), full(72)}, Sig: full(73), Shelf: []api.Slot{{Index: 8, Secret: full(9)}}, Failed: 0, Closed: 91,
	}
}

func TestExampleOfSigning(t *testing.T) {
	p, secret := full(5), full(6)
	s := api.State{Closed: -1, Points: [2]api.Hash{full(1), full(2)}}
	want := s
	want.Ours = []api.Update{add(0, 7)}
	checkTaken(t, s, api.Record{Kind: api.RecOurs, Update: add(0, 7)}, want)
	s = want
	want.Remote, want.Signed, want.Behind = 1, counts(1, 0), true
	checkTaken(t, s, api.Record{Kind: api.RecSigned, Index: 1, Counts: counts(1, 0)}, want)
	s = want
	checkRefused(t, s, api.Record{Kind: api.RecSigned, Index: 2, Counts: counts(1, 0)})
	want.Acked, want.Held, want.Points = 1, counts(1, 0), [2]api.Hash{full(2), p}
	want.Shelf = make([]api.Slot, 49)
	want.Shelf[0] = api.Slot{Secret: secret, Full: true}
	checkTaken(t, s, api.Record{Kind: api.RecRevoked, Secret: secret, Point: p}, want)
	checkRefused(t, want, api.Record{Kind: api.RecRevoked, Index: 1, Secret: secret, Point: p})
}

func TestExampleOfComing(t *testing.T) {
	s, h := api.State{Closed: -1}, full(5)
	came := api.Record{Kind: api.RecCame, Index: 1, Updates: []api.Update{add(0, 7)}, Sig: h}
	want := s
	want.Local, want.Peers, want.At, want.Sig = 1, []api.Update{add(0, 7)}, counts(0, 1), h
	checkTaken(t, s, came, want)
	behind := s
	behind.Behind = true
	checkTaken(t, behind, came, want)
	came.Updates = []api.Update{add(1, 7)}
	checkRefused(t, s, came)
	for _, l := range [][]api.Update{nil, {add(0, 7)}} {
		checkRefused(t, s, api.Record{Kind: api.RecCame, Index: 2, Updates: l, Sig: h})
	}
	want = s
	want.Closed = 0
	checkTaken(t, s, api.Record{Kind: api.RecClosed}, want)
	checkRefused(t, s, api.Record{Kind: api.RecClosed, Index: 1})
	want = s
	want.Failed = 5
	checkTaken(t, s, api.Record{Kind: api.RecFailed, Code: 5}, want)
	checkTaken(t, want, api.Record{Kind: api.RecFailed, Code: 6}, want)
}

func TestExampleOfHeardUpdates(t *testing.T) {
	s := api.State{Peers: []api.Update{add(0, 1), add(1, 2)}, At: counts(0, 1), Local: 7}
	want := s
	want.Peers, want.Local, want.At = []api.Update{add(0, 1), add(1, 9)}, 8, counts(0, 2)
	checkTaken(t, s, api.Record{Kind: api.RecCame, Index: 8, Updates: []api.Update{add(1, 9)}}, want)
	want.Peers, want.At = []api.Update{add(0, 1)}, counts(0, 1)
	checkTaken(t, s, api.Record{Kind: api.RecCame, Index: 8}, want)
}

// What a record doesn't name stays, whatever it is.
func TestOtherFieldsStay(t *testing.T) {
	s := strange()
	want := s
	want.Ours = append(slices.Clone(s.Ours), fulfill(2))
	checkTaken(t, s, api.Record{Kind: 1, Update: fulfill(2)}, want)
	s.Behind = false
	want = s
	want.Remote, want.Signed, want.Behind = 51, counts(2, 3), true
	checkTaken(t, s, api.Record{Kind: 2, Index: 51, Counts: counts(2, 3)}, want)
	s.Behind = true
	want = s
	want.Local, want.Peers, want.Sig, want.At, want.Behind = 41, append(slices.Clone(s.Peers[:3]), fail(1, "z"), add(3, 5)), full(99), counts(2, 5), false
	checkTaken(t, s, api.Record{Kind: 3, Index: 41, Updates: []api.Update{fail(1, "z"), add(3, 5)}, Sig: full(99)}, want)
	want = s
	want.Failed = 65535
	checkTaken(t, s, api.Record{Kind: 5, Code: 65535}, want)
	checkTaken(t, want, api.Record{Kind: 5, Code: 1}, want)
	want = s
	want.Closed = 40
	checkTaken(t, s, api.Record{Kind: 6, Index: 40}, want)
	s.Remote = 51
	want = s
	want.Shelf, _ = shelf.Put(s.Shelf, 50, full(4))
	want.Acked, want.Held, want.Points = 51, counts(1, 64), [2]api.Hash{full(72), full(3)}
	checkTaken(t, s, api.Record{Kind: 4, Index: 50, Secret: full(4), Point: full(3)}, want)
}

func TestOurs(t *testing.T) {
	s := strange()
	for _, u := range []api.Update{add(2, 1), fail(0, ""), fail(2, "no"), fulfill(0), fulfill(2)} {
		if _, ok := checkLikeModel(t, s, api.Record{Kind: 1, Update: u}); !ok {
			t.Errorf("P17.1: %v should be taken", u)
		}
	}
	other := fulfill(0)
	other.Hash[5]++
	for _, u := range []api.Update{add(0, 1), add(1, 1), add(3, 1), fail(1, ""), fulfill(1), fail(3, ""), other} {
		checkRefused(t, s, api.Record{Kind: 1, Update: u})
	}
	s.Ours = adds(2047)
	checkTaken(t, s, api.Record{Kind: 1, Update: add(2047, 1)}, withOurs(s, add(2047, 1)))
	checkTaken(t, s, api.Record{Kind: 1, Update: fail(2, "")}, withOurs(s, fail(2, "")))
	s.Ours = adds(2048)
	checkRefused(t, s, api.Record{Kind: 1, Update: fail(2, "")})
	s.Ours = append(adds(2047), fail(0, ""))
	checkRefused(t, s, api.Record{Kind: 1, Update: add(2047, 1)})
}

func withOurs(s api.State, u api.Update) api.State {
	s.Ours = append(slices.Clone(s.Ours), u)
	return s
}

// Each of the numbers that a signature asks for, one off and far off.
func TestSigned(t *testing.T) {
	s := strange()
	for ours := -1; ours <= 5; ours++ {
		for peers := -1; peers <= 5; peers++ {
			for index := int64(48); index <= 53; index++ {
				_, ok := checkLikeModel(t, s, api.Record{Kind: 2, Index: index, Counts: counts(ours, peers)})
				if ok != (1 <= ours && ours <= 3 && peers == 3 && index == 51) {
					t.Errorf("P17.1: of %d, %d, %d Apply takes it: %v", index, ours, peers, ok)
				}
			}
		}
	}
	r := api.Record{Kind: 2, Index: 51, Counts: counts(2, 3)}
	for _, acked := range []int64{-1, 0, 49, 51, 52, math.MaxInt64} {
		off := s
		off.Acked = acked
		checkRefused(t, off, r)
	}
	// Behind may be true already, and the counts of a state that isn't sound be anything.
	odd := s
	odd.Signed.Ours = math.MinInt
	if _, ok := checkLikeModel(t, odd, api.Record{Kind: 2, Index: 51, Counts: counts(0, 3)}); !ok {
		t.Errorf("P17.1: counts from Signed.Ours on should be taken")
	}
	odd.Signed.Ours = 4
	checkRefused(t, odd, api.Record{Kind: 2, Index: 51, Counts: counts(3, 3)})
	checkRefused(t, odd, api.Record{Kind: 2, Index: 51, Counts: counts(4, 3)})
	odd = s
	odd.At.Peers = 2000
	if _, ok := checkLikeModel(t, odd, api.Record{Kind: 2, Index: 51, Counts: counts(3, 2000)}); !ok {
		t.Errorf("P17.1: At.Peers beyond the list should be taken")
	}
}

// Lists at their limits, of updates that hang on one another.
func TestCame(t *testing.T) {
	s := api.State{Ours: adds(3), Peers: adds(2), At: counts(0, 2), Held: counts(5, 7), Local: 3}
	for _, x := range []struct {
		l  []api.Update
		ok bool
	}{
		{nil, true},
		{[]api.Update{add(2, 1), add(3, 1), fail(0, "")}, true},
		{[]api.Update{fulfill(0), fulfill(1), fulfill(2)}, true},
		{[]api.Update{fulfill(0), fail(0, "")}, false},
		{[]api.Update{fail(0, ""), fail(0, "")}, false},
		{[]api.Update{add(2, 1), add(2, 1)}, false},
		{[]api.Update{add(3, 1), add(2, 1)}, false},
		{[]api.Update{add(0, 1)}, false},
		{[]api.Update{fail(3, "")}, false},
		{[]api.Update{{Kind: 2, ID: 0, Hash: preimage(1)}}, false},
	} {
		if _, ok := checkLikeModel(t, s, api.Record{Kind: 3, Index: 4, Updates: x.l, Sig: full(1)}); ok != x.ok {
			t.Errorf("P17.1: of %v Apply takes it: %v", x.l, ok)
		}
	}
	all := adds(2048)
	for _, x := range []struct {
		at, more int
		ok       bool
	}{{0, 512, true}, {0, 513, false}, {1, 512, true}, {1536, 512, true}, {1537, 511, true}, {2047, 1, true}, {2048, 0, true}} {
		s.Peers, s.At.Peers = all, x.at
		if _, ok := checkLikeModel(t, s, api.Record{Kind: 3, Index: 4, Updates: all[x.at : x.at+x.more]}); ok != x.ok {
			t.Errorf("P17.1: %d updates behind %d: Apply takes them: %v", x.more, x.at, ok)
		}
	}
	s.Peers, s.At.Peers = append(adds(2046), fulfill(0)), 2047
	checkLikeModel(t, s, api.Record{Kind: 3, Index: 4, Updates: []api.Update{add(2046, 1)}})
	checkRefused(t, s, api.Record{Kind: 3, Index: 4, Updates: []api.Update{add(2046, 1), add(2047, 1)}})
	for _, n := range []int{math.MinInt, -1, 2048, math.MaxInt} {
		s.At.Peers = n
		checkRefused(t, s, api.Record{Kind: 3, Index: 4})
		checkRefused(t, s, api.Record{Kind: 3, Index: 4, Updates: all[:1]})
	}
}

// Two updates that are gone with the peers' list may come again; one of them alone is no reason to refuse others.
func TestCameAgain(t *testing.T) {
	s := api.State{Ours: adds(1), Peers: []api.Update{add(0, 1), fail(0, "a"), add(1, 2)}, At: counts(0, 1)}
	for _, l := range [][]api.Update{{fulfill(0)}, {fail(0, "b")}, {add(1, 5), fail(0, "a")}, s.Peers[1:]} {
		got, ok := checkLikeModel(t, s, api.Record{Kind: 3, Index: 1, Updates: l})
		if !ok || !slices.Equal(got.Peers, append([]api.Update{add(0, 1)}, l...)) {
			t.Errorf("P17.1: of %v Apply tells %v, %v", l, got.Peers, ok)
		}
	}
}

// The secrets of one seed, in their order: each is taken, and the shelf tells all of them; another one is refused.
func TestRevokedInOrder(t *testing.T) {
	root := rising(7)
	s := api.State{Ours: adds(1), Closed: -1, Points: [2]api.Hash{full(1), full(2)}}
	for n := range int64(300) {
		secret, _ := seed.Secret(root, n)
		checkRefused(t, s, api.Record{Kind: 4, Index: n, Secret: secret})
		s = apply(t, s, api.Record{Kind: 2, Index: n + 1, Counts: counts(1, 0)})
		for _, index := range []int64{n - 1, n + 1, n + 2} {
			other, _ := seed.Secret(root, index)
			checkRefused(t, s, api.Record{Kind: 4, Index: index, Secret: other})
		}
		if level, _ := seed.Level(n); level > 0 {
			checkRefused(t, s, api.Record{Kind: 4, Index: n, Secret: full(byte(n))})
		}
		r := api.Record{Kind: 4, Index: n, Secret: secret, Point: full(byte(n))}
		checkLikeModel(t, s, r)
		s = apply(t, s, r)
	}
	for n := range int64(300) {
		want, _ := seed.Secret(root, n)
		if got, e := shelf.Get(s.Shelf, n); got != want || e != api.OK {
			t.Errorf("P17.1: the shelf tells %x, %d of %d", got, e, n)
		}
	}
	for _, slots := range []int{49, 50, 1000} {
		x := api.State{Remote: 1, Shelf: make([]api.Slot, slots)}
		if _, ok := checkLikeModel(t, x, api.Record{Kind: 4}); ok != (slots == 49) {
			t.Errorf("P17.1: on a shelf of %d slots Apply takes it: %v", slots, ok)
		}
	}
}

func TestFailedAndClosed(t *testing.T) {
	for _, failed := range []int{math.MinInt, -1, 1, 5, 65535, 65536, math.MaxInt} {
		s := strange()
		s.Failed = failed
		for _, code := range []int{1, 5, 65535} {
			checkTaken(t, s, api.Record{Kind: 5, Code: code}, s)
		}
	}
	for _, local := range numbers() {
		for _, index := range numbers() {
			s := strange()
			s.Local = local
			if _, ok := checkLikeModel(t, s, api.Record{Kind: 6, Index: index}); ok != (local == index && 0 <= index && index < 1<<48) {
				t.Errorf("P17.1: closed at %d with Local %d: Apply takes it: %v", index, local, ok)
			}
		}
	}
}

// Dead states take records as others do: that is layer 15's to ask.
func TestDeadStates(t *testing.T) {
	s := strange()
	s.Failed = 7
	for _, r := range []api.Record{{Kind: 1, Update: add(2, 1)}, {Kind: 2, Index: 51, Counts: counts(3, 3)}, {Kind: 3, Index: 41}, {Kind: 5, Code: 1}, {Kind: 6, Index: 40}} {
		if got, ok := checkLikeModel(t, s, r); !ok || got.Failed != 7 {
			t.Errorf("P17.1: of %+v Apply tells %d, %v", r, got.Failed, ok)
		}
	}
}

// Indexes at the ends of all numbers, where a sum wraps.
func TestIndexesOfAnyState(t *testing.T) {
	taken := 0
	for _, a := range numbers() {
		for _, b := range numbers() {
			s := strange()
			s.Local, s.Remote, s.Acked = a, a, b
			for _, n := range []int64{a - 1, a, a + 1, b - 1, b, b + 1} {
				for _, r := range []api.Record{{Kind: 2, Index: n, Counts: counts(3, 3)}, {Kind: 3, Index: n}, {Kind: 4, Index: n}, {Kind: 6, Index: n}} {
					if _, ok := checkLikeModel(t, s, r); ok {
						taken++
					}
				}
			}
		}
	}
	if taken < 100 {
		t.Errorf("P17.1: only %d were taken", taken)
	}
	last := api.State{Local: 1<<48 - 2, Remote: 1<<48 - 2, Acked: 1<<48 - 2}
	for _, r := range []api.Record{{Kind: 2, Index: 1<<48 - 1}, {Kind: 3, Index: 1<<48 - 1}} {
		next := apply(t, last, r)
		next.Acked = next.Remote
		r.Index++
		checkRefused(t, next, r)
	}
}

// Records that aren't valid are refused wherever they are applied.
func TestInvalidRecords(t *testing.T) {
	states := []api.State{{}, {Closed: -1}, strange(), {Remote: 1}}
	refused := 0
	for _, r := range append(plain(), api.Record{}) {
		bent(r, func(r api.Record) {
			if _, ok := modelWrite(r); ok {
				return
			}
			refused++
			for _, s := range states {
				checkRefused(t, s, r)
			}
		})
		withLists(r, func(r api.Record) { checkLikeModel(t, states[2], r) })
	}
	// One that could stand but for a field that its kind doesn't name, or for a number beyond its bounds.
	s := strange()
	for _, r := range []api.Record{{Kind: 1, Update: add(2, 1)}, {Kind: 2, Index: 51, Counts: counts(3, 3)}, {Kind: 3, Index: 41}, {Kind: 5, Code: 1}, {Kind: 6, Index: 40}} {
		apply(t, s, r)
		named, _ := shape(r.Kind)
		for _, letter := range everyLetter {
			for _, x := range fieldLaid(r, letter) {
				if !slices.Contains([]rune(named), letter) {
					checkRefused(t, s, x)
				}
			}
		}
	}
	s.Local = -1
	checkRefused(t, s, api.Record{Kind: 6, Index: -1})
	s.Remote, s.Acked = 1<<48-1, 1<<48-1
	checkRefused(t, s, api.Record{Kind: 2, Index: 1 << 48, Counts: counts(3, 3)})
	s.Ours, s.At.Peers = make([]api.Update, 2049), 2049
	checkRefused(t, s, api.Record{Kind: 2, Index: 1 << 48, Counts: counts(2049, 2049)})
	s.Remote, s.Acked = 7, 7
	checkRefused(t, s, api.Record{Kind: 2, Index: 8, Counts: counts(2049, 2048)})
	checkRefused(t, s, api.Record{Kind: 2, Index: 8, Counts: counts(2048, 2049)})
	if refused < 500 {
		t.Errorf("P17.1: only %d records", refused)
	}
}

// Any record at any state, bent by chance.
func TestApplyByChance(t *testing.T) {
	r := rand.New(rand.NewSource(173))
	taken, refused := map[int]int{}, map[int]int{}
	for range 60000 {
		s := stateByChance(r)
		if r.Intn(3) == 0 {
			s = bentState(r, s)
		}
		x := recordFor(r, s)
		if r.Intn(8) == 0 {
			x = validByChance(r)
		}
		if _, ok := checkLikeModel(t, s, x); ok {
			taken[x.Kind]++
		} else {
			refused[x.Kind]++
		}
		if t.Failed() {
			t.FailNow()
		}
	}
	for kind := 1; kind <= 6; kind++ {
		if taken[kind] < 500 || refused[kind] < 50 && kind != 5 {
			t.Errorf("P17.1: of kind %d %d were taken, %d not", kind, taken[kind], refused[kind])
		}
	}
}

// Lists far longer than a side's may be are gone through all the same.
func TestLongLists(t *testing.T) {
	s := api.State{Ours: make([]api.Update, 100000), Peers: make([]api.Update, 100000), At: counts(0, 1500), Remote: 4, Acked: 4}
	for i := range s.Ours {
		s.Ours[i], s.Peers[i] = add(int64(i%2048), 1), fail(int64(1000+i%1000), "")
	}
	checkRefused(t, s, api.Record{Kind: 1, Update: fail(1, "")})
	var l []api.Update
	for id := range int64(512) {
		l = append(l, fulfill(id))
	}
	for range 3 {
		got := apply(t, s, api.Record{Kind: 3, Index: 1, Updates: l})
		if len(got.Peers) != 2012 || len(got.Ours) != 100000 {
			t.Errorf("P17.1: the lists have %d and %d", len(got.Peers), len(got.Ours))
		}
	}
	apply(t, s, api.Record{Kind: 2, Index: 5, Counts: counts(2048, 1500)})
}
