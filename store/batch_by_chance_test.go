package store

import (
	"math/rand"
	"slices"
	"strings"

	"escrow/api"
	"escrow/hash"
	"escrow/record"
)

// preimage is the one of each add's hash that these tests make.
func preimage() api.Hash {
	var p api.Hash
	copy(p[:], strings.Repeat("preimage", 4))
	return p
}

// nextFor is an update that may well stand behind a list.
func nextFor(r *rand.Rand, mine, others []api.Update) api.Update {
	id := r.Int63n(int64(len(others)) + 1)
	switch r.Intn(6) {
	case 0:
		return failOf(id, strings.Repeat("n", r.Intn(65)))
	case 1:
		return api.Update{Kind: api.Fulfill, ID: id, Hash: preimage()}
	}
	n := int64(0)
	for _, u := range mine {
		if u.Kind == api.Add {
			n++
		}
	}
	p := preimage()
	return api.Update{Kind: api.Add, ID: n, Amount: 1 + r.Int63n(100), Hash: hash.Sum(string(p[:]))}
}

// recordFor is a record that a state takes more often than not.
func recordFor(r *rand.Rand, s api.State) api.Record {
	switch r.Intn(12) {
	case 0, 1, 2, 3:
		return ours(nextFor(r, s.Ours, s.Peers))
	case 4, 5:
		return signed(s.Remote+1, len(s.Ours), s.At.Peers)
	case 6, 7:
		x := came(s.Local+1, 0, 0)
		peers := slices.Clone(s.Peers[:min(max(s.At.Peers, 0), len(s.Peers))])
		for range r.Intn(4) {
			u := nextFor(r, peers, s.Ours)
			peers, x.Updates = append(peers, u), append(x.Updates, u)
		}
		return x
	case 8, 9:
		return revoked(s.Acked)
	case 10:
		return failed(r.Intn(70000))
	}
	return closed(s.Local)
}

// batchFor is some records which a state takes more often than not, and what they make of it; nothing and false, if it doesn't.
func batchFor(r *rand.Rand, s api.State) ([]api.Record, api.State, bool) {
	var l []api.Record
	ok := true
	for range 1 + r.Intn(4) {
		x := recordFor(r, s)
		next, e := record.Apply(s, x)
		for range 3 {
			if e == api.OK {
				break
			}
			x = recordFor(r, s)
			next, e = record.Apply(s, x)
		}
		l, ok = append(l, x), ok && e == api.OK
		if ok {
			s = next
		}
	}
	if !ok {
		return l, api.State{}, false
	}
	return l, s, true
}
