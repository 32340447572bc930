package dance

import (
	"escrow/api"
	"escrow/commit"
	"escrow/ledger"
	"escrow/seed"
	"escrow/update"
)

// remove is a removal of mine, if it may stand behind what I proposed.
func remove(s api.State, u api.Update) (api.Record, api.Errno) {
	switch {
	case dead(s):
		return api.Record{}, api.ErrDead
	case !removable(s, u):
		return api.Record{}, api.ErrUpdate
	case full(s):
		return api.Record{}, api.ErrFull
	}
	return api.Record{Kind: api.RecOurs, Update: u}, api.OK
}

// removable tells whether a removal of mine has an add of the peer that is irrevocable and that I haven't removed.
func removable(s api.State, u api.Update) bool {
	if _, twice := update.Removal(s.Ours, u.ID); twice {
		return false
	}
	// Next is shown none of mine: of a full list it would tell that alone, and nothing of the removal.
	return update.Next(nil, s.Peers[:within(Fixed(s).Peers, s.Peers)], u) == api.OK
}

// ownText is the text of my commitment with an index and counts.
func ownText(c api.Config, s api.State, n int64, counts api.Counts) (string, api.Errno) {
	l, errno := ledger.Fold(s.BaseOurs, s.BasePeers, s.Ours, s.Peers, counts)
	if errno != api.OK {
		return "", errno
	}
	return commit.Text(s.Side, n, seed.Point(secret(c, n)), l)
}

// signedText is the text of the peer's commitment that I signed last.
func signedText(s api.State) (string, api.Errno) {
	l, errno := ledger.Fold(s.BaseOurs, s.BasePeers, s.Ours, s.Peers, s.Signed)
	if errno != api.OK {
		return "", errno
	}
	point := s.Points[0]
	if s.Remote != s.Acked {
		point = s.Points[1]
	}
	return commit.Text(1-s.Side, s.Remote, point, commit.Turn(l))
}

// secret is my secret of an index; the zero hash of a number that is none, which commit takes for no commitment.
func secret(c api.Config, n int64) api.Hash {
	h, _ := seed.Secret(c.Seed, n)
	return h
}

// dead tells whether a side has failed or closed.
func dead(s api.State) bool { return s.Failed != 0 || s.Closed != -1 }

// full tells whether no more of mine may stand behind what I proposed.
func full(s api.State) bool {
	return len(s.Ours) >= api.MaxUpdates || len(s.Ours)-s.Held.Ours >= api.MaxHeard
}

// nextID is the ID that the next add of a list has: how many there are, which is how many are open while nothing is removed.
func nextID(l []api.Update) int64 { return int64(ledger.Open(l, nil, 0)) }

// within is the count of a list's updates that is nearest to a number: states that are not sound have any.
func within(n int, l []api.Update) int { return min(max(n, 0), len(l)) }
