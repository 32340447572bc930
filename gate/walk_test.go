package gate

import (
	"math/rand"
	"testing"

	"escrow/api"
	"escrow/dance"
	"escrow/hash"
	"escrow/record"
	"escrow/seed"
)

// side is a side that goes on by layer 17's records: its mark as it is durable, what it signed, and the greatest index that it revealed.
type side struct {
	c        api.Config
	s        api.State
	mark     int64
	signed   map[int64]api.Counts
	revealed int64
}

func begin(t *testing.T) *side {
	t.Helper()
	p := &side{mark: -1, revealed: -1, signed: map[int64]api.Counts{}}
	p.c = api.Config{Capacity: 1 << 40, Ours: 1 << 39, Seed: api.Hash{1}, Key: api.Hash{2}, PeerKey: api.Hash{3}, Segment: 4096}
	for n := range int64(2) {
		p.c.Points[n] = seed.Point(peerSecret(t, n))
	}
	s, e := dance.Start(p.c)
	if e != api.OK {
		t.Fatalf("Start tells %d", e)
	}
	p.s = s
	return p
}

func peerSecret(t *testing.T, n int64) api.Hash {
	t.Helper()
	h, e := seed.Secret(api.Hash{9}, n)
	if e != api.OK {
		t.Fatalf("Secret(%d) tells %d", n, e)
	}
	return h
}

// do applies a record, if it can stand there.
func (p *side) do(r api.Record) bool {
	s, e := record.Apply(p.s, r)
	if e == api.OK {
		p.s = s
	}
	return e == api.OK
}

func (p *side) gate() Gate { return Of(p.mark, p.s) }

// step is one of all that may become of a side.
func (p *side) step(t *testing.T, r *rand.Rand) {
	t.Helper()
	switch r.Intn(12) {
	case 0, 1, 2:
		u, e := dance.Offer(p.s, 1+r.Int63n(9), hash.Sum("p"))
		if e == api.OK {
			p.do(u)
		}
	case 3, 4:
		p.sign(t, r)
	case 5, 6:
		p.come(r)
	case 7, 8:
		n := p.s.Acked
		p.do(api.Record{Kind: api.RecRevoked, Index: n, Secret: peerSecret(t, n), Point: seed.Point(peerSecret(t, n+2))})
	case 9, 10:
		// The mark is raised some time behind the commitment: the power may have gone between.
		p.mark = max(p.mark, p.s.Local-1)
	case 11:
		p.reveal(t, r)
	}
}

// sign signs what the gate allows, anew or again, and holds it against all that was signed before.
func (p *side) sign(t *testing.T, r *rand.Rand) {
	t.Helper()
	x := text{p.s.Remote + int64(r.Intn(4)) - 2, counts(r.Intn(len(p.s.Ours)+2), p.s.At.Peers+r.Intn(3)-1)}
	if r.Intn(2) == 0 {
		x = text{p.s.Remote + 1, counts(len(p.s.Ours), p.s.At.Peers)}
	} else if r.Intn(2) == 0 {
		x = text{p.s.Remote, p.s.Signed}
	}
	if !p.gate().MaySign(x.index, x.n) {
		return
	}
	was, ok := p.signed[x.index]
	if ok && was != x.n {
		t.Fatalf("P20.3: %d was signed with %v, and may be with %v: %s", x.index, was, x.n, shown(p.s))
	}
	p.signed[x.index] = x.n
	if ok {
		return
	}
	// What may be signed anew can be made durable ahead of it.
	if !p.do(api.Record{Kind: api.RecSigned, Index: x.index, Counts: x.n}) {
		t.Fatalf("P20.3: %s: %d may be signed with %v, and isn't taken as a record", shown(p.s), x.index, x.n)
	}
	if !p.gate().MaySign(x.index, x.n) {
		t.Fatalf("P20.1: %s: what was signed may not be signed again", shown(p.s))
	}
}

// come is a commitment of mine, with none or some more of the peer's updates.
func (p *side) come(r *rand.Rand) {
	c := api.Record{Kind: api.RecCame, Index: p.s.Local + 1, Sig: api.Hash{7}}
	for range r.Intn(3) {
		c.Updates = append(c.Updates, api.Update{Kind: api.Add, ID: int64(p.s.At.Peers + len(c.Updates)), Amount: 1})
	}
	// A side takes the next commitment only when the last one's revocation is durable.
	if p.mark == p.s.Local-1 {
		p.do(c)
	}
}

func (p *side) reveal(t *testing.T, r *rand.Rand) {
	t.Helper()
	n := p.s.Local + int64(r.Intn(4)) - 2
	if !p.gate().MaySend(n) {
		return
	}
	if m := dance.Reveal(p.c, n); m.Kind != api.MsgRevoke || m.Index != n {
		t.Fatalf("Reveal of %d tells %+v", n, m)
	}
	p.revealed = max(p.revealed, n)
}

// check holds what the gate says of a sound state that is still against the layers below.
func (p *side) check(t *testing.T) {
	t.Helper()
	g := p.gate()
	sign, e := dance.Sign(p.c, p.s)
	next := text{p.s.Remote + 1, counts(len(p.s.Ours), p.s.At.Peers)}
	if g.MaySign(next.index, next.n) != (e == api.OK) || e == api.OK && (next != text{sign.Index, sign.Counts}) {
		t.Fatalf("P20.1: %s: Sign tells %+v, %d", shown(p.s), sign, e)
	}
	if again := dance.Again(p.c, p.s); g.MaySign(again.Index, p.s.Signed) != (p.s.Remote > 0) {
		t.Fatalf("P20.1: %s: Again tells %+v", shown(p.s), again)
	}
	if last := p.s.Local - 1; g.MaySend(last) != (last >= 0 && p.mark >= last) {
		t.Fatalf("P20.1: with the mark %d, %s: MaySend(%d) = %v", p.mark, shown(p.s), last, g.MaySend(last))
	}
	if !g.MayBroadcast(p.s.Local) {
		t.Fatalf("P20.1: with the mark %d, %s: my commitment may not be broadcast", p.mark, shown(p.s))
	}
	p.checkBroadcasts(t, p.s)
}

// checkBroadcasts holds that nothing which was ever revealed may be broadcast, in this state or behind a failure or a closing of it.
func (p *side) checkBroadcasts(t *testing.T, s api.State) {
	t.Helper()
	for n := int64(-1); n <= s.Local+2; n++ {
		for _, at := range []int64{-1, n, s.Local} {
			for _, code := range []int{0, 110, 180} {
				s.Failed, s.Closed = code, at
				if Of(p.mark, s).MayBroadcast(n) && n <= p.revealed {
					t.Fatalf("P20.2: %d was revealed, and %d may be broadcast: %s", p.revealed, n, shown(s))
				}
			}
		}
	}
}

// A side that asks the gate ahead of each signature, secret and broadcast signs one commitment an index, and broadcasts nothing that it revealed.
func TestWalks(t *testing.T) {
	t.Parallel()
	r := rand.New(rand.NewSource(207))
	signed, revealed, old := 0, 0, 0
	for range 150 {
		p := begin(t)
		var states []api.State
		for range 120 {
			p.step(t, r)
			p.check(t)
			states = append(states, p.s)
		}
		// Against a mark that is durable an old state broadcasts nothing that was revealed either.
		for _, s := range states {
			p.checkBroadcasts(t, s)
			if s.Local <= p.revealed {
				old++
			}
		}
		signed += len(p.signed)
		revealed += int(p.revealed + 1)
	}
	if signed < 500 || revealed < 500 || old < 1000 {
		t.Errorf("P20.3: %d signed, %d revealed, %d old states", signed, revealed, old)
	}
}

// Of a still state what may be signed anew is just what layer 17 takes as a record, if there is something new in it.
func TestAnewLikeTheRecord(t *testing.T) {
	t.Parallel()
	for i := range 4 * 4 * 4 * 3 * 3 {
		s := api.State{Remote: int64(i % 4), Acked: int64(i / 4 % 4), Signed: counts(i/16%4, i/64%3), At: counts(0, i/192), Ours: make([]api.Update, 3), Closed: -1}
		for j := range 6 * 5 * 4 {
			x := text{int64(j % 6), counts(j/6%5, j/30)}
			_, e := record.Apply(s, api.Record{Kind: api.RecSigned, Index: x.index, Counts: x.n})
			again := x == text{s.Remote, s.Signed} && x.index > 0
			if got, want := Of(-1, s).MaySign(x.index, x.n), again || e == api.OK && x.n != s.Signed; got != want {
				t.Fatalf("P20.1: %s: MaySign(%d, %v) = %v", shown(s), x.index, x.n, got)
			}
		}
	}
}
