package pair

import (
	"escrow/api"
	"escrow/seed"
)

func isSide(side int) bool { return side == 0 || side == 1 }

// configOf: what a side has of the world.
func configOf(w World, side int) api.Config {
	other := 1 - side
	ours := [2]int64{w.Ours, w.Capacity - w.Ours}
	return api.Config{
		Side:     side,
		Capacity: w.Capacity,
		Ours:     ours[side],
		Seed:     w.Seeds[side],
		Key:      w.Keys[side],
		PeerKey:  w.Keys[other],
		Points:   [2]api.Hash{pointOf(w.Seeds[other], 0), pointOf(w.Seeds[other], 1)},
		Segment:  w.Segment,
	}
}

// pointOf: the point of a seed's secret with a number that there is.
func pointOf(from api.Hash, n int64) api.Hash {
	secret, _ := seed.Secret(from, n)
	return seed.Point(secret)
}
