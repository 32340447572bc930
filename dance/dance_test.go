package dance

import (
	"math"
	"strings"
	"testing"

	"escrow/api"
)

// few is a state as a message tells it.
func few(s api.State) api.State {
	s.Ours, s.Peers = s.Ours[:min(len(s.Ours), 5)], s.Peers[:min(len(s.Peers), 5)]
	s.Shelf = nil
	return s
}

// checkRecord holds what a call answered against what is asked of it, and tells the error.
func checkRecord(t *testing.T, call string, s api.State, got api.Record, e api.Errno, want api.Record, errno api.Errno) api.Errno {
	t.Helper()
	if e != errno || !sameRecord(got, want) {
		t.Errorf("P15.1: %s of %+v with %d and %d updates tells %+v, %d, want %+v, %d", call, few(s), len(s.Ours), len(s.Peers), got, e, want, errno)
	}
	return e
}

// The check calls hold a call against the model, and answer what it told.

func checkOffer(t *testing.T, s api.State, amount int64, h api.Hash) (api.Record, api.Errno) {
	t.Helper()
	got, e := Offer(s, amount, h)
	want, errno := modelOffer(s, amount, h)
	return got, checkRecord(t, "Offer", s, got, e, want, errno)
}

func checkSettle(t *testing.T, s api.State, id int64, p api.Hash) (api.Record, api.Errno) {
	t.Helper()
	got, e := Settle(s, id, p)
	want, errno := modelSettle(s, id, p)
	return got, checkRecord(t, "Settle", s, got, e, want, errno)
}

func checkRefuse(t *testing.T, s api.State, id int64, note string) (api.Record, api.Errno) {
	t.Helper()
	got, e := Refuse(s, id, note)
	want, errno := modelRefuse(s, id, note)
	return got, checkRecord(t, "Refuse", s, got, e, want, errno)
}

func checkSign(t *testing.T, c api.Config, s api.State) (api.Record, api.Errno) {
	t.Helper()
	got, e := Sign(c, s)
	want, errno := modelSign(s)
	return got, checkRecord(t, "Sign", s, got, e, want, errno)
}

func checkCame(t *testing.T, c api.Config, s api.State, m api.Message) (api.Record, api.Errno) {
	t.Helper()
	got, e := Came(c, s, m)
	want, errno := modelCame(c, s, m)
	return got, checkRecord(t, "Came", s, got, e, want, errno)
}

func checkRevoked(t *testing.T, s api.State, m api.Message) (api.Record, api.Errno) {
	t.Helper()
	got, e := Revoked(s, m)
	want, errno := modelRevoked(s, m)
	return got, checkRecord(t, "Revoked", s, got, e, want, errno)
}

func checkHeard(t *testing.T, s api.State, u api.Update) api.Errno {
	t.Helper()
	e := Heard(s, u)
	if errno := modelHeard(s, u); e != errno {
		t.Errorf("P15.1: Heard of %+v with %d and %d updates, of %+v, tells %d, want %d", few(s), len(s.Ours), len(s.Peers), u, e, errno)
	}
	return e
}

// checkLooks holds the calls that only look at a sound state.
func checkLooks(t *testing.T, c api.Config, s api.State) {
	t.Helper()
	if got, want := Fixed(s), modelFixed(s); got != want {
		t.Errorf("P15.1: Fixed of %+v tells %v, want %v", few(s), got, want)
	}
	if got, want := Spendable(s), modelSpendable(s); got != want {
		t.Errorf("P15.1: Spendable of %+v tells %d, want %d", few(s), got, want)
	}
	if got, want := PeerSpendable(s), modelSpendable(turned(s)); got != want {
		t.Errorf("P15.1: PeerSpendable of %+v tells %d, want %d", few(s), got, want)
	}
	text, _ := signedModel(s)
	if got, want := Again(c, s), (api.Message{Kind: 4, Index: s.Remote, Hash: modelSeal(c.Key, text)}); got != want {
		t.Errorf("P15.1: Again of %+v tells %+v, want %+v", few(s), got, want)
	}
	cut := s
	cut.Peers = s.Peers[:s.At.Peers]
	if got := Cut(s); !sameState(got, cut) {
		t.Errorf("P15.1: Cut of %+v tells %+v", s, got)
	}
}

func checkErrno(t *testing.T, what string, e, want api.Errno) {
	t.Helper()
	if e != want {
		t.Errorf("P15.1: %s tells %d, want %d", what, e, want)
	}
}

func start(t *testing.T, c api.Config) api.State {
	t.Helper()
	s, e := Start(c)
	if e != api.OK || unsound(s) != "" {
		t.Fatalf("P15.1: Start(%+v) tells %+v, %d: %s", c, s, e, unsound(s))
	}
	return s
}

// first is side 0 of the examples, and what it begins with.
func first(t *testing.T) (api.Config, api.State) {
	t.Helper()
	c := configOf(0, 1000, 700)
	return c, start(t, c)
}

func TestStart(t *testing.T) {
	for _, x := range []struct {
		capacity, ours int64
		e              api.Errno
	}{
		{1000, 700, 0}, {1, 0, 0}, {1, 1, 0}, {most, 0, 0}, {most, most, 0}, {1000, 1000, 0}, {1000, 0, 0},
		{0, 0, 1}, {-1, 0, 1}, {-1, -1, 1}, {most + 1, 0, 1}, {most + 1, most, 1}, {1000, 1001, 1}, {1000, -1, 1},
		{math.MaxInt64, 5, 1}, {math.MinInt64, 0, 1}, {math.MinInt64, math.MinInt64, 1}, {5, math.MinInt64, 1}, {5, math.MaxInt64, 1},
	} {
		for _, side := range []int{0, 1, 2, -1, math.MaxInt, math.MinInt} {
			c := configOf(0, 5, 5)
			c.Side, c.Capacity, c.Ours = side, x.capacity, x.ours
			want, errno := api.State{Side: side, Capacity: x.capacity, BaseOurs: x.ours, BasePeers: x.capacity - x.ours, Points: c.Points, Closed: -1}, x.e
			if side != 0 && side != 1 {
				errno = api.ErrArg
			}
			if errno != api.OK {
				want = api.State{}
			}
			if got, e := Start(c); e != errno || !sameState(got, want) {
				t.Errorf("P15.1: Start(%+v) tells %+v, %d, want %+v, %d", c, got, e, want, errno)
			}
		}
	}
}

func TestExampleOne(t *testing.T) {
	c, s := first(t)
	h := full32(5)
	if s.BaseOurs != 700 || s.BasePeers != 300 || s.Local != 0 || s.Remote != 0 || s.Acked != 0 || Spendable(s) != 700 || PeerSpendable(s) != 300 {
		t.Errorf("P15.1: example 1 begins with %+v", s)
	}
	_, e := checkOffer(t, s, 701, h)
	checkErrno(t, "Offer of 701", e, api.ErrFunds)
	_, e = checkOffer(t, s, 0, h)
	checkErrno(t, "Offer of 0", e, api.ErrAmount)
	r, e := Offer(s, 600, h)
	checkRecord(t, "Offer of 600", s, r, e, api.Record{Kind: api.RecOurs, Update: api.Update{Kind: api.Add, Amount: 600, Hash: h}}, api.OK)
	s = apply(s, r)
	if Spendable(s) != 100 || PeerSpendable(s) != 300 {
		t.Errorf("P15.1: behind the offer %d and %d may be added", Spendable(s), PeerSpendable(s))
	}
	r, e = Sign(c, s)
	checkRecord(t, "Sign", s, r, e, api.Record{Kind: api.RecSigned, Index: 1, Counts: counts(1, 0)}, api.OK)
	s = apply(s, r)
	_, e = checkSign(t, c, s)
	checkErrno(t, "Sign a second time", e, api.ErrState)
}

func TestExampleTwo(t *testing.T) {
	c, s := first(t)
	_, e := checkSign(t, c, s)
	checkErrno(t, "Sign of nothing new", e, api.ErrState)
	_, e = checkCame(t, c, s, api.Message{Kind: api.MsgCommit, Index: 2})
	checkErrno(t, "Came of index 2", e, api.ErrIndex)
	_, e = checkCame(t, c, s, api.Message{Kind: api.MsgCommit, Index: 1})
	checkErrno(t, "Came of nothing new", e, api.ErrState)
	s = heard(s, add(1, 0, 5))
	_, e = checkCame(t, c, s, api.Message{Kind: api.MsgCommit, Index: 1, Hash: full32(5)})
	checkErrno(t, "Came of another hash", e, api.ErrSeal)
	_, e = checkRevoked(t, s, api.Message{Kind: api.MsgRevoke, Secret: modelSecret(seedOf(1), 0)})
	checkErrno(t, "Revoked where R is A", e, api.ErrIndex)
}

// must is what a call answered, which has to be taken.
func must(t *testing.T) func(r api.Record, e api.Errno) api.Record {
	t.Helper()
	return func(r api.Record, e api.Errno) api.Record {
		t.Helper()
		if e != api.OK {
			t.Fatalf("P15.3: refused with %d", e)
		}
		return r
	}
}

func checkFixed(t *testing.T, s api.State, want api.Counts) {
	t.Helper()
	if got := Fixed(s); got != want {
		t.Errorf("P15.1: Fixed of %+v tells %v, want %v", s, got, want)
	}
}

// Examples 3 and 4.
func TestExampleThree(t *testing.T) {
	c, d := configOf(0, 1000, 700), configOf(1, 1000, 700)
	a, b := start(t, c), start(t, d)
	offer := must(t)(checkOffer(t, a, 600, sum(preimage(0, 0))))
	a = apply(a, offer)
	a = apply(a, must(t)(checkSign(t, c, a)))
	checkErrno(t, "Heard", checkHeard(t, b, offer.Update), api.OK)
	b = heard(b, offer.Update)
	b = apply(b, must(t)(checkCame(t, d, b, Again(c, a))))
	if b.At != counts(0, 1) {
		t.Errorf("P15.1: side 1 holds %v", b.At)
	}
	a = apply(a, must(t)(checkRevoked(t, a, Reveal(d, 0))))
	if a.Acked != 1 || a.Held != counts(1, 0) {
		t.Errorf("P15.1: side 0 has A %d, Held %v", a.Acked, a.Held)
	}
	checkFixed(t, a, counts(0, 0))
	checkFixed(t, b, counts(0, 0))
	p := preimage(0, 0)
	for _, s := range []api.State{b, apply(b, must(t)(checkSign(t, d, b)))} {
		_, e := checkSettle(t, s, 0, p)
		checkErrno(t, "Settle ahead of its time", e, api.ErrUpdate)
		_, e = checkRefuse(t, s, 0, "")
		checkErrno(t, "Refuse ahead of its time", e, api.ErrUpdate)
	}
	sign := must(t)(checkSign(t, d, b))
	if sign.Counts != counts(0, 1) {
		t.Errorf("P15.1: side 1 signs %v", sign.Counts)
	}
	b = apply(b, sign)
	checkErrno(t, "a removal that isn't irrevocable", checkHeard(t, a, fulfill(1, 0)), api.ErrUpdate)
	a = apply(a, must(t)(checkCame(t, c, a, Again(d, b))))
	if a.At != counts(1, 0) {
		t.Errorf("P15.1: side 0 holds %v", a.At)
	}
	checkFixed(t, a, counts(1, 0))
	b = apply(b, must(t)(checkRevoked(t, b, Reveal(c, 0))))
	if b.Held != counts(0, 1) {
		t.Errorf("P15.1: side 1 has Held %v", b.Held)
	}
	checkFixed(t, b, counts(0, 1))
	_, e := checkSettle(t, b, 0, preimage(0, 1))
	checkErrno(t, "Settle with another preimage", e, api.ErrUpdate)
	settle := must(t)(checkSettle(t, b, 0, p))
	b = apply(b, settle)
	_, e = checkSettle(t, b, 0, p)
	checkErrno(t, "Settle a second time", e, api.ErrUpdate)
	_, e = checkRefuse(t, b, 0, "no")
	checkErrno(t, "Refuse behind it", e, api.ErrUpdate)
	checkErrno(t, "Heard of the fulfill", checkHeard(t, a, settle.Update), api.OK)
	checkErrno(t, "Heard of one with another preimage", checkHeard(t, a, api.Update{Kind: api.Fulfill, Hash: full32(1)}), api.ErrUpdate)
}

// Every call that a dead state may refuse says so ahead of all else, whatever else is wrong, or right.
func TestDead(t *testing.T) {
	c, s := first(t)
	s.Ours, s.Peers = append(s.Ours, add(0, 0, 600)), append(s.Peers, add(1, 0, 5))
	s = settled(s, counts(1, 1))
	s.Ours, s.Peers = append(s.Ours, add(0, 1, 1)), append(s.Peers, add(1, 1, 5))
	signed := s
	signed.Remote, signed.Signed = 1, counts(2, 1)
	text, _ := ownModel(c, s, 1, counts(1, 2))
	came := api.Message{Kind: api.MsgCommit, Index: 1, Hash: modelSeal(c.PeerKey, text)}
	gone := api.Message{Kind: api.MsgRevoke, Secret: modelSecret(seedOf(1), 0)}
	for _, x := range []struct {
		failed int
		closed int64
		e      api.Errno
	}{{0, -1, 0}, {1, -1, 220}, {-1, -1, 220}, {0, 0, 220}, {0, 7, 220}, {0, -2, 220}, {110, 3, 220}, {65535, -1, 220}} {
		s.Failed, s.Closed, signed.Failed, signed.Closed = x.failed, x.closed, x.failed, x.closed
		var told [14]api.Errno
		_, told[0] = checkOffer(t, s, 1, full32(5))
		_, told[1] = checkSettle(t, s, 0, preimage(1, 0))
		_, told[2] = checkRefuse(t, s, 0, "no")
		_, told[3] = checkSign(t, c, s)
		told[4] = checkHeard(t, s, fulfill(1, 0))
		_, told[5] = checkCame(t, c, s, came)
		_, told[6] = checkRevoked(t, signed, gone)
		if x.e != 0 {
			_, told[7] = checkOffer(t, s, -1, full32(5))
			_, told[8] = checkSettle(t, s, 8, preimage(1, 0))
			_, told[9] = checkRefuse(t, s, -8, strings.Repeat("n", 65))
			_, told[10] = checkSign(t, c, signed)
			told[11] = checkHeard(t, s, api.Update{})
			_, told[12] = checkCame(t, c, s, api.Message{})
			_, told[13] = checkRevoked(t, s, api.Message{})
		}
		for i, e := range told {
			if e != x.e {
				t.Errorf("P15.1: with Failed %d, Closed %d call %d tells %d, want %d", x.failed, x.closed, i, e, x.e)
			}
		}
		checkLooks(t, c, s)
		checkLooks(t, c, signed)
	}
}

// sound is a state of which the test rests on that it is.
func sound(t *testing.T, s api.State) api.State {
	t.Helper()
	if why := unsound(s); why != "" {
		t.Fatalf("the test's own state isn't sound: %s", why)
	}
	return s
}

// rich is side 0 with all that there can be on either side.
func rich(t *testing.T) (api.Config, api.State) {
	t.Helper()
	c := configOf(0, most, most/2)
	return c, start(t, c)
}

func TestAmountsOfOffer(t *testing.T) {
	_, s := first(t)
	whole := start(t, configOf(0, most, most))
	for _, x := range []struct {
		s      api.State
		amount int64
		e      api.Errno
	}{
		{s, math.MinInt64, 80}, {s, -1, 80}, {s, 0, 80}, {s, 1, 0}, {s, 700, 0}, {s, 701, 130}, {s, most, 130}, {s, most + 1, 80}, {s, math.MaxInt64, 80},
		{whole, most - 1, 0}, {whole, most, 0}, {whole, most + 1, 80},
	} {
		_, e := checkOffer(t, x.s, x.amount, full32(5))
		checkErrno(t, "Offer", e, x.e)
	}
}

// ErrAmount, ErrFull, ErrMany, ErrFunds: each applies, and the first that is named is told.
func TestOrderOfOffer(t *testing.T) {
	_, s := rich(t)
	s.BaseOurs, s.BasePeers = 512, most-512
	s.Ours = ones(0, 0, 512)
	s = sound(t, s)
	_, e := checkOffer(t, s, 0, full32(5))
	checkErrno(t, "Offer of 0", e, api.ErrAmount)
	_, e = checkOffer(t, s, 1, full32(5))
	checkErrno(t, "Offer with 512 beyond Held.Ours", e, api.ErrFull)
	s = sound(t, settled(s, counts(1, 0)))
	_, e = checkOffer(t, s, 1, full32(5))
	checkErrno(t, "Offer with 511 beyond Held.Ours", e, api.ErrMany)
	s.Peers = fails(0, 30)
	s = sound(t, settled(s, counts(512, 29)))
	_, e = checkOffer(t, s, 1, full32(5))
	checkErrno(t, "Offer with 483 open", e, api.ErrMany)
	s = sound(t, settled(s, counts(512, 30)))
	_, e = checkOffer(t, s, 31, full32(5))
	checkErrno(t, "Offer with 482 open", e, api.ErrFunds)
	r, e := checkOffer(t, s, 30, full32(5))
	checkErrno(t, "Offer of all", e, api.OK)
	if r.Update.ID != 512 {
		t.Errorf("P15.1: Offer has the id %d, want 512", r.Update.ID)
	}
}

// As many open adds as there may be count as irrevocable counts say, on both sides.
func TestMany(t *testing.T) {
	_, s := rich(t)
	s.Ours, s.Peers = ones(0, 0, 483), ones(1, 0, 483)
	s = sound(t, settled(s, counts(483, 483)))
	for _, x := range []struct {
		at, held api.Counts
		ours     api.Errno
		peers    api.Errno
	}{
		{counts(483, 483), counts(483, 483), 131, 131},
		{counts(483, 484), counts(483, 483), 131, 131},
		{counts(483, 484), counts(484, 483), 131, 131},
		{counts(483, 484), counts(483, 484), 0, 131},
		{counts(484, 484), counts(484, 483), 131, 0},
		{counts(484, 484), counts(484, 484), 0, 0},
	} {
		more := s
		more.Ours, more.Peers = append(ones(0, 0, 483), fulfill(0, 7)), append(ones(1, 0, 483), fail(9, "no"))
		more.At, more.Held, more.Signed = x.at, x.held, x.held
		more = sound(t, more)
		_, e := checkOffer(t, more, 1, full32(5))
		checkErrno(t, "Offer with 484 or 483 adds", e, x.ours)
		checkErrno(t, "Heard with 484 or 483 adds", checkHeard(t, more, add(1, 483, 1)), x.peers)
	}
	few := s
	few.Ours, few.Peers = ones(0, 0, 482), ones(1, 0, 482)
	few = sound(t, settled(few, counts(482, 482)))
	_, e := checkOffer(t, few, 1, full32(5))
	checkErrno(t, "Offer with 482 open", e, api.OK)
	checkErrno(t, "Heard with 482 open", checkHeard(t, few, add(1, 482, 1)), api.OK)
}

// Settle and Refuse tell ErrUpdate ahead of ErrFull, and are full as Offer is.
func TestOrderOfRemovals(t *testing.T) {
	_, s := rich(t)
	s.Peers = append(ones(1, 0, 3), fails(0, 1)...)
	for _, x := range []struct {
		n, held int
		e       api.Errno
	}{{511, 0, 0}, {512, 0, 6}, {513, 1, 6}, {513, 2, 0}, {2047, 2047, 0}, {2047, 1535, 6}, {2047, 1536, 0}, {2048, 2048, 6}, {2048, 1500, 6}} {
		s.Ours = append(ones(0, 0, int64(x.n)-1), fulfill(0, 0))
		s = sound(t, settled(s, counts(x.held, 3)))
		_, e := checkSettle(t, s, 1, preimage(1, 1))
		checkErrno(t, "Settle", e, x.e)
		_, e = checkRefuse(t, s, 1, strings.Repeat("n", 64))
		checkErrno(t, "Refuse", e, x.e)
		for _, id := range []int64{0, 3, -1, 2048, math.MinInt64} {
			_, e = checkSettle(t, s, id, preimage(1, id))
			checkErrno(t, "Settle of none", e, api.ErrUpdate)
			_, e = checkRefuse(t, s, id, "")
			checkErrno(t, "Refuse of none", e, api.ErrUpdate)
		}
		_, e = checkSettle(t, s, 1, preimage(1, 2))
		checkErrno(t, "Settle with another preimage", e, api.ErrUpdate)
		_, e = checkRefuse(t, s, 1, strings.Repeat("n", 65))
		checkErrno(t, "Refuse with a long note", e, api.ErrUpdate)
		_, e = checkOffer(t, s, 0, full32(5))
		checkErrno(t, "Offer of 0", e, api.ErrAmount)
		if x.e != 0 {
			_, e = checkOffer(t, s, 1, full32(5))
			checkErrno(t, "Offer", e, x.e)
		}
	}
}

// What I may remove is what both commitments hold of the peer.
func TestRemovableIsIrrevocable(t *testing.T) {
	_, s := rich(t)
	s.Peers = ones(1, 0, 4)
	s.At, s.Signed, s.Held, s.Remote = counts(0, 3), counts(0, 2), counts(0, 1), 1
	s = sound(t, s)
	for id := range int64(5) {
		want := api.ErrUpdate
		if id == 0 {
			want = api.OK
		}
		_, e := checkSettle(t, s, id, preimage(1, id))
		checkErrno(t, "Settle", e, want)
		_, e = checkRefuse(t, s, id, "")
		checkErrno(t, "Refuse", e, want)
	}
	s = turned(s)
	s.Side, s.Peers = 1, nil
	s.At, s.Signed, s.Held = counts(1, 0), counts(4, 0), counts(3, 0)
	s = sound(t, s)
	for id := range int64(5) {
		want := api.ErrUpdate
		if id == 0 {
			want = api.OK
		}
		checkErrno(t, "Heard of a fulfill", checkHeard(t, s, api.Update{Kind: api.Fulfill, ID: id, Hash: preimage(1, id)}), want)
		checkErrno(t, "Heard of a fail", checkHeard(t, s, fail(id, "no")), want)
	}
}

func TestSignIndexes(t *testing.T) {
	c, s := first(t)
	s.Ours = ones(0, 0, 1)
	for _, x := range []struct {
		remote int64
		e      api.Errno
	}{{0, 0}, {5, 0}, {api.MaxIndex - 3, 0}, {api.MaxIndex - 2, 0}, {api.MaxIndex - 1, 90}, {api.MaxIndex, 90}} {
		s.Remote, s.Acked = x.remote, x.remote
		r, e := checkSign(t, c, sound(t, s))
		checkErrno(t, "Sign", e, x.e)
		if e == api.OK && r.Index != x.remote+1 {
			t.Errorf("P15.1: Sign of %d has the index %d", x.remote, r.Index)
		}
		if x.remote > 0 {
			s.Acked--
			_, e = checkSign(t, c, sound(t, s))
			checkErrno(t, "Sign where R isn't A", e, api.ErrState)
		}
		none := s
		none.Acked, none.Ours = x.remote, nil
		_, e = checkSign(t, c, sound(t, none))
		checkErrno(t, "Sign of nothing new", e, api.ErrState)
	}
}

// What is new is an update of mine, or that my commitment holds more of the peer's.
func TestSignNews(t *testing.T) {
	c, s := first(t)
	s.Ours, s.Peers = ones(0, 0, 2), ones(1, 0, 2)
	for _, x := range []struct {
		signed, at api.Counts
		e          api.Errno
	}{{counts(2, 1), counts(1, 1), 8}, {counts(2, 1), counts(2, 1), 8}, {counts(1, 1), counts(1, 1), 0}, {counts(2, 1), counts(2, 2), 0}, {counts(0, 0), counts(0, 2), 0}, {counts(2, 2), counts(0, 2), 8}} {
		s.Signed, s.Held, s.At = x.signed, x.signed, x.at
		r, e := checkSign(t, c, sound(t, s))
		checkErrno(t, "Sign", e, x.e)
		if e == api.OK && r.Counts != counts(2, x.at.Peers) {
			t.Errorf("P15.1: Sign holds %v, want 2 and %d", r.Counts, x.at.Peers)
		}
	}
}

func TestOrderOfHeard(t *testing.T) {
	_, s := rich(t)
	s.Peers = ones(1, 0, 600)
	for _, x := range []struct {
		at int
		u  api.Update
		e  api.Errno
	}{
		{87, api.Update{}, 131}, {88, api.Update{}, 131}, {89, api.Update{}, 120},
		{88, add(1, 600, most), 131}, {89, add(1, 600, most), 131}, {89, add(1, 599, most), 120}, {89, add(1, 601, 1), 120},
		{600, add(1, 600, 0), 120}, {600, add(1, 600, most+1), 120}, {600, fail(0, ""), 120}, {600, api.Update{Kind: 4}, 120},
	} {
		checkErrno(t, "Heard", checkHeard(t, sound(t, settled(s, counts(0, x.at))), x.u), x.e)
	}
	s.Ours = fails(0, 118)
	checkErrno(t, "Heard of too much", checkHeard(t, sound(t, settled(s, counts(118, 600))), add(1, 600, most)), api.ErrFunds)
	left := PeerSpendable(settled(s, counts(118, 600)))
	checkErrno(t, "Heard of all", checkHeard(t, settled(s, counts(118, 600)), add(1, 600, left)), api.OK)
	checkErrno(t, "Heard of one more", checkHeard(t, settled(s, counts(118, 600)), add(1, 600, left+1)), api.ErrFunds)
	checkErrno(t, "Heard of another id", checkHeard(t, settled(s, counts(118, 600)), add(1, 599, left+1)), api.ErrUpdate)
	s.Ours = ones(0, 0, 1)
	s.At, s.Signed, s.Held = counts(1, 600), counts(1, 0), counts(1, 0)
	checkErrno(t, "Heard with 600 beyond Held.Peers", checkHeard(t, sound(t, s), fail(0, "")), api.OK)
	s.Peers, s.Ours = ones(1, 0, 2047), nil
	checkErrno(t, "Heard of the last update", checkHeard(t, sound(t, settled(s, counts(0, 2047))), add(1, 2047, 1)), api.ErrMany)
	s.Ours = append(ones(0, 0, 1), fails(0, 2000)...)
	checkErrno(t, "Heard of the last update", checkHeard(t, sound(t, settled(s, counts(2001, 2047))), add(1, 2047, 1)), api.OK)
	s.Peers = ones(1, 0, 2048)
	for _, u := range []api.Update{add(1, 2048, 1), add(1, 2047, 1), fail(0, "")} {
		checkErrno(t, "Heard behind the last update", checkHeard(t, sound(t, settled(s, counts(2001, 2048))), u), api.ErrUpdate)
	}
}

// comes is a message with the right signature of my next commitment.
func comes(c api.Config, s api.State) api.Message {
	text, _ := ownModel(c, s, s.Local+1, counts(s.Held.Ours, len(s.Peers)))
	return api.Message{Kind: api.MsgCommit, Index: s.Local + 1, Hash: modelSeal(c.PeerKey, text)}
}

// signedState is a state whose next commitment differs from all others near it: by counts, index, side and point.
func signedState(t *testing.T) (api.Config, api.State) {
	t.Helper()
	c, s := first(t)
	s.Ours, s.Peers = append(ones(0, 0, 4), fail(1, "no")), append(ones(1, 0, 4), fulfill(1, 0), add(1, 4, 9))
	s.Local, s.Remote, s.Acked = 8, 6, 5
	s.At, s.Signed, s.Held = counts(1, 3), counts(4, 3), counts(3, 2)
	return c, sound(t, s)
}

func TestCame(t *testing.T) {
	c, s := signedState(t)
	m := comes(c, s)
	r, e := Came(c, s, m)
	checkRecord(t, "Came", s, r, e, api.Record{Kind: api.RecCame, Index: 9, Updates: s.Peers[3:], Sig: m.Hash}, api.OK)
	other := m
	other.ID, other.Amount, other.Next, other.Secret, other.Note = 1, 2, 3, full32(5), "no"
	r, e = Came(c, s, other)
	checkRecord(t, "Came with other fields", s, r, e, api.Record{Kind: api.RecCame, Index: 9, Updates: s.Peers[3:], Sig: m.Hash}, api.OK)
	for _, kind := range []int{0, 1, 2, 3, 5, 6, 7, -4, 260} {
		other = m
		other.Kind, other.Index = kind, 3
		_, e = checkCame(t, c, s, other)
		checkErrno(t, "Came of another kind", e, api.ErrMessage)
	}
	for _, n := range []int64{-1, 0, 7, 8, 10, math.MaxInt64, math.MinInt64} {
		other = m
		other.Index = n
		_, e = checkCame(t, c, s, other)
		checkErrno(t, "Came of another index", e, api.ErrIndex)
	}
	for i := range m.Hash {
		for b := range 8 {
			other = m
			other.Hash[i] ^= 1 << b
			_, e = checkCame(t, c, s, other)
			checkErrno(t, "Came with a bit turned", e, api.ErrSeal)
		}
	}
}

// A right seal of any other text, or under any other key, is none of my next commitment.
func TestCameOfAnother(t *testing.T) {
	c, s := signedState(t)
	v, _ := fold(s, counts(3, 6))
	theirs := view{v.peers, v.ours, v.openPeers, v.openOurs}
	near := map[string]string{
		"":                                       "nothing",
		v.text(1, 9, modelPoint(c.Seed, 9)):      "the other side's",
		v.text(0, 8, modelPoint(c.Seed, 9)):      "another index",
		v.text(0, 9, modelPoint(c.Seed, 8)):      "another point",
		v.text(0, 9, modelPoint(c.PeerKey, 9)):   "another seed's point",
		v.text(0, 9, modelSecret(c.Seed, 9)):     "the secret as point",
		theirs.text(0, 9, modelPoint(c.Seed, 9)): "the peer's view",
		theirs.text(1, 9, modelPoint(c.Seed, 9)): "the peer's view, and side",
	}
	for ours := range len(s.Ours) + 1 {
		for peers := range len(s.Peers) + 1 {
			if ours != 3 || peers != 6 {
				text, _ := ownModel(c, s, 9, counts(ours, peers))
				near[text] = "other counts"
			}
		}
	}
	for text, why := range near {
		_, e := checkCame(t, c, s, api.Message{Kind: api.MsgCommit, Index: 9, Hash: modelSeal(c.PeerKey, text)})
		checkErrno(t, "Came of "+why, e, api.ErrSeal)
	}
	right, _ := ownModel(c, s, 9, counts(3, 6))
	for _, key := range []api.Hash{c.Key, c.Seed, {}} {
		_, e := checkCame(t, c, s, api.Message{Kind: api.MsgCommit, Index: 9, Hash: modelSeal(key, right)})
		checkErrno(t, "Came under another key", e, api.ErrSeal)
	}
}

func TestCameIndexesAndNews(t *testing.T) {
	c, s := signedState(t)
	for _, x := range []struct {
		local int64
		e     api.Errno
	}{{0, 0}, {api.MaxIndex - 3, 0}, {api.MaxIndex - 2, 0}, {api.MaxIndex - 1, 90}, {api.MaxIndex, 90}} {
		s.Local = x.local
		m := api.Message{Kind: api.MsgCommit, Index: x.local + 1}
		if x.e == api.OK {
			m = comes(c, s)
		}
		_, e := checkCame(t, c, sound(t, s), m)
		checkErrno(t, "Came", e, x.e)
	}
	s.Local, s.Remote, s.Acked, s.Ours = 8, 5, 5, ones(0, 0, 4)
	for _, x := range []struct {
		held, at api.Counts
		n        int
		e        api.Errno
	}{{counts(3, 2), counts(3, 3), 3, 8}, {counts(3, 2), counts(3, 3), 4, 0}, {counts(3, 2), counts(2, 3), 3, 0}, {counts(0, 0), counts(0, 0), 0, 8}} {
		more := s
		more.Held, more.Signed, more.At, more.Peers = x.held, x.held, x.at, s.Peers[:x.n]
		more = sound(t, more)
		r, e := checkCame(t, c, more, comes(c, more))
		checkErrno(t, "Came", e, x.e)
		if e == api.OK && len(r.Updates) != x.n-x.at.Peers {
			t.Errorf("P15.1: Came holds %d updates, want %d", len(r.Updates), x.n-x.at.Peers)
		}
	}
}

// Counts that the ledger refuses: no seal is right, be it one of no text at all.
func TestCameWithoutFunds(t *testing.T) {
	c, s := first(t)
	s.Peers = []api.Update{add(1, 0, 300), add(1, 1, 1)}
	s.At = counts(0, 1)
	s = sound(t, s)
	for _, text := range []string{"", "x"} {
		_, e := checkCame(t, c, s, api.Message{Kind: api.MsgCommit, Index: 1, Hash: modelSeal(c.PeerKey, text)})
		checkErrno(t, "Came without funds", e, api.ErrSeal)
	}
	// More open adds than a commitment has.
	s.BaseOurs, s.BasePeers, s.Peers, s.At = 0, 1000, ones(1, 0, 484), counts(0, 0)
	for _, text := range []string{"", "x"} {
		_, e := Came(c, sound(t, s), api.Message{Kind: api.MsgCommit, Index: 1, Hash: modelSeal(c.PeerKey, text)})
		checkErrno(t, "Came with 484 open", e, api.ErrSeal)
	}
}

func TestAgain(t *testing.T) {
	c, s := first(t)
	checkLooks(t, c, s)
	if m := Again(c, s); m.Index != 0 {
		t.Errorf("P15.1: Again of the beginning has the index %d", m.Index)
	}
	c, s = signedState(t)
	s.Points = [2]api.Hash{full32(20), full32(21)}
	checkLooks(t, c, s)
	v, _ := fold(s, s.Signed)
	text := view{v.peers, v.ours, v.openPeers, v.openOurs}.text(1, 6, full32(21))
	if got, want := Again(c, s), (api.Message{Kind: api.MsgCommit, Index: 6, Hash: modelSeal(c.Key, text)}); got != want {
		t.Errorf("P15.6: Again tells %+v, want %+v", got, want)
	}
	s.Acked, s.Held = 6, s.Signed
	checkLooks(t, c, sound(t, s))
	text = view{v.peers, v.ours, v.openPeers, v.openOurs}.text(1, 6, full32(20))
	if got := Again(c, s); got.Hash != modelSeal(c.Key, text) {
		t.Errorf("P15.6: Again where R is A tells %+v", got)
	}
}

func TestReveal(t *testing.T) {
	c := configOf(1, 1000, 700)
	for _, n := range []int64{0, 1, 2, 3, 1 << 20, api.MaxIndex - 3, api.MaxIndex - 2} {
		want := api.Message{Kind: api.MsgRevoke, Index: n, Secret: modelSecret(c.Seed, n), Hash: modelPoint(c.Seed, n+2)}
		if got := Reveal(c, n); got != want {
			t.Errorf("P15.1: Reveal of %d tells %+v, want %+v", n, got, want)
		}
	}
	for _, n := range []int64{-1, -2, math.MinInt64, api.MaxIndex - 1, api.MaxIndex, api.MaxIndex + 1, math.MaxInt64} {
		if got := Reveal(c, n); got != (api.Message{}) {
			t.Errorf("P15.1: Reveal of %d tells %+v, want none", n, got)
		}
	}
}

// revokedBy is a state in which the peer owes the revocation of an index, with all earlier secrets on the shelf.
func revokedBy(t *testing.T, index int64) (api.State, api.Message) {
	t.Helper()
	_, s := first(t)
	for n := range index {
		s.Remote, s.Acked, s.Points[0] = n+1, n, modelPoint(seedOf(1), n)
		s = apply(s, must(t)(checkRevoked(t, s, api.Message{Kind: api.MsgRevoke, Index: n, Secret: modelSecret(seedOf(1), n)})))
	}
	s.Remote, s.Acked, s.Points[0] = index+1, index, modelPoint(seedOf(1), index)
	return sound(t, s), api.Message{Kind: api.MsgRevoke, Index: index, Secret: modelSecret(seedOf(1), index), Hash: full32(77)}
}

func TestRevoked(t *testing.T) {
	for _, index := range []int64{0, 1, 2, 3, 7, 8} {
		s, m := revokedBy(t, index)
		r, e := Revoked(s, m)
		want := api.Record{Kind: api.RecRevoked, Index: index, Secret: m.Secret, Point: full32(77)}
		checkRecord(t, "Revoked", s, r, e, want, api.OK)
		other := m
		other.ID, other.Amount, other.Next, other.Note = 1, 2, 3, "no"
		r, e = Revoked(s, other)
		checkRecord(t, "Revoked with other fields", s, r, e, want, api.OK)
		for _, kind := range []int{0, 1, 2, 3, 4, 6, 7, -5} {
			other = m
			other.Kind, other.Index = kind, 99
			_, e = checkRevoked(t, s, other)
			checkErrno(t, "Revoked of another kind", e, api.ErrMessage)
		}
		for _, n := range []int64{-1, index - 1, index + 1, api.MaxIndex, math.MinInt64} {
			other = m
			other.Index, other.Secret = n, full32(1)
			_, e = checkRevoked(t, s, other)
			checkErrno(t, "Revoked of another index", e, api.ErrIndex)
		}
		for i := range m.Secret {
			other = m
			other.Secret[i] ^= 1 << (i % 8)
			_, e = checkRevoked(t, s, other)
			checkErrno(t, "Revoked with a bit turned", e, api.ErrSecret)
		}
		idle := s
		idle.Remote, idle.Held = idle.Acked, idle.Signed
		_, e = checkRevoked(t, sound(t, idle), m)
		checkErrno(t, "Revoked where R is A", e, api.ErrIndex)
	}
}

// A secret that fits its point, and doesn't yield the earlier ones: the shelf refuses it.
func TestRevokedByTheShelf(t *testing.T) {
	for _, index := range []int64{1, 3, 7} {
		s, m := revokedBy(t, index)
		m.Secret = full32(50)
		s.Points[0] = sum(m.Secret)
		_, e := checkRevoked(t, sound(t, s), m)
		checkErrno(t, "Revoked with a secret of another seed", e, api.ErrSecret)
		s.Shelf = nil
		_, e = checkRevoked(t, s, m)
		checkErrno(t, "Revoked on an empty shelf", e, api.OK)
		s.Shelf = make([]api.Slot, 50)
		_, e = checkRevoked(t, s, m)
		checkErrno(t, "Revoked on a shelf that is none", e, api.ErrSecret)
	}
}

func TestCut(t *testing.T) {
	c, s := signedState(t)
	s.Shelf = []api.Slot{{Index: 4, Secret: full32(9), Full: true}, {}}
	s.Behind, s.Sig, s.Failed, s.Closed = true, full32(8), 7, 3
	checkLooks(t, c, s)
	for n := range len(s.Peers) + 1 {
		s.At, s.Signed, s.Held, s.Remote = counts(0, n), counts(0, 0), counts(0, 0), 5
		checkLooks(t, c, sound(t, s))
		if cut := Cut(Cut(s)); len(cut.Peers) != n || !sameState(cut, Cut(s)) {
			t.Errorf("P15.1: Cut of Cut is another: %+v", cut)
		}
	}
}

// Each count is the lesser one by itself, of whatever counts.
func TestFixed(t *testing.T) {
	for _, x := range [][6]int{{1, 2, 3, 4, 1, 2}, {3, 4, 1, 2, 1, 2}, {1, 4, 3, 2, 1, 2}, {3, 2, 1, 4, 1, 2}, {0, 0, 0, 0, 0, 0}, {-1, math.MaxInt, math.MinInt, 0, math.MinInt, 0}} {
		s := api.State{At: counts(x[0], x[1]), Held: counts(x[2], x[3]), Signed: counts(-9, -9)}
		checkFixed(t, s, counts(x[4], x[5]))
	}
}

// Spendable and PeerSpendable where what is left is below 0, or above all that there can be.
func TestSpendableAtItsEnds(t *testing.T) {
	c, s := first(t)
	s.Ours, s.Peers = []api.Update{add(0, 0, 700), add(0, 1, most)}, []api.Update{add(1, 0, 300), add(1, 1, 1)}
	checkLooks(t, c, sound(t, s))
	if Spendable(s) != 0 || PeerSpendable(s) != 0 {
		t.Errorf("P15.1: below 0 %d and %d are told", Spendable(s), PeerSpendable(s))
	}
	s.Ours, s.Peers = []api.Update{fulfill(0, 0), fulfill(0, 1)}, []api.Update{add(1, 0, most), add(1, 1, most)}
	s.At, s.Held, s.Signed = counts(2, 0), counts(2, 0), counts(2, 0)
	checkLooks(t, c, sound(t, s))
	if Spendable(s) != most {
		t.Errorf("P15.1: above all amounts %d is told", Spendable(s))
	}
}
