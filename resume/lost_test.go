package resume

import (
	"math"
	"math/rand"
	"testing"

	"escrow/api"
	"escrow/dance"
)

// A side that goes on with what it had some time ago learns of it from the peer's hello, as soon as that shows a secret which it doesn't know to have told.
func TestOldStatesAreLost(t *testing.T) {
	t.Parallel()
	r := rand.New(rand.NewSource(183))
	lost, kept, wrong := 0, 0, 0
	for range 60 {
		p := begin(t)
		var old [2][]api.State
		for range 150 {
			p.step(t, r)
			side := r.Intn(2)
			if r.Intn(8) == 0 {
				old[side] = append(old[side], dance.Cut(p.s[side]))
			}
			peer := dance.Cut(p.s[1-side])
			m := Hello(p.c[1-side], peer)
			for _, s := range old[side] {
				l, e := Answer(p.c[side], s, m)
				if isLost := peer.Acked > s.Local; isLost != (e == api.ErrLost) || isLost && len(l) != 0 {
					t.Fatalf("P18.3: with %d, and %d revoked, Answer tells %+v, %d", s.Local, peer.Acked, l, e)
				}
				if e != api.ErrLost {
					kept++
					continue
				}
				lost++
				// Without the proof it might be anyone.
				bad := m
				bad.Secret[r.Intn(32)] ^= 1 << r.Intn(8)
				for _, x := range []api.Message{bad, hello(m.Index, m.Next, none), hello(m.Index, m.Next+1, m.Secret), hello(near(r, m.Index), m.Next, full(1))} {
					wrong++
					refused(t, p.c[side], s, x, api.ErrSecret)
				}
			}
		}
	}
	if lost < 200 || kept < 200 || wrong < 800 {
		t.Errorf("P18.3: %d were lost, %d not, %d wrong", lost, kept, wrong)
	}
}

// Whatever else a peer says: with the right secret of an index that I haven't told ErrLost, with none or a wrong one ErrSecret.
func TestWhatASecretProves(t *testing.T) {
	c := configOf(0)
	indexes := numbers()
	for _, local := range []int64{0, 1, 2, 7, 1000, top - 2, top - 1} {
		s := api.State{Capacity: 1000, BaseOurs: 700, BasePeers: 300, Local: local, Acked: 6, Remote: 7, Closed: -1}
		for _, next := range []int64{1, 2, 3, local - 1, local, local + 1, local + 2, local + 100, 1 << 47, top - 1, top} {
			if next < 1 || next > top {
				continue
			}
			right := modelSecret(c.Seed, next-1)
			wrong := []api.Hash{none, full(0xff), c.Seed, modelSecret(c.Seed, next), modelSecret(seedOf(1), next-1), sum(right)}
			for bit := range 256 {
				h := right
				h[bit/8] ^= 1 << (bit % 8)
				wrong = append(wrong, h)
			}
			for _, index := range indexes {
				if next > local {
					refused(t, c, s, hello(index, next, right), api.ErrLost)
				} else if _, e := Answer(c, s, hello(index, next, right)); e == api.ErrLost || e == api.ErrSecret {
					t.Errorf("P18.3: with %d told, the right secret of %d makes it %d", local, next-1, e)
				}
			}
			for i, h := range wrong {
				refused(t, c, s, hello(indexes[i%len(indexes)], next, h), api.ErrSecret)
			}
		}
	}
}

// Above all indexes there is no proof: the secret of the last one is the seed itself.
func TestNextAboveAllIndexes(t *testing.T) {
	for _, seed := range []api.Hash{none, full(0xff), seedOf(0)} {
		c := configOf(0)
		c.Seed = seed
		for _, local := range []int64{0, 5, top} {
			s := api.State{Capacity: 1000, BaseOurs: 700, BasePeers: 300, Local: local, Closed: -1}
			for _, next := range []int64{top + 1, top + 2, 1 << 49, 1 << 60, math.MaxInt64} {
				for _, h := range []api.Hash{none, seed, sum(seed), modelSecret(seed, 0)} {
					refused(t, c, s, hello(1, next, h), api.ErrSecret)
				}
			}
		}
	}
}

// Who says to have got none shows none; below 0 no secret is looked at.
func TestNextOfNone(t *testing.T) {
	c := configOf(0)
	for _, local := range []int64{0, 1, 5} {
		s := api.State{Capacity: 1000, BaseOurs: 700, BasePeers: 300, Local: local, Closed: -1}
		for _, h := range []api.Hash{{31: 1}, {0: 128}, c.Seed, modelSecret(c.Seed, 0)} {
			for _, index := range numbers() {
				refused(t, c, s, hello(index, 0, h), api.ErrSecret)
			}
			for _, next := range []int64{-1, -2, -top, math.MinInt64 + 1, math.MinInt64} {
				refused(t, c, s, hello(1, next, h), api.ErrIndex)
				refused(t, c, s, hello(1, next, none), api.ErrIndex)
			}
		}
	}
}
