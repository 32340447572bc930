package store

import (
	"escrow/api"
	"escrow/update"
)

const (
	maxNumber = 1 << 60
	maxSlots  = 49
	maxFailed = 1000000
)

// writable: can a checkpoint of that number and that state be written?
func writable(n int64, s api.State) bool {
	return within(0, maxNumber, n) &&
		within(0, 1, int64(s.Side)) &&
		within(0, api.MaxAmount, s.Capacity, s.BaseOurs, s.BasePeers) &&
		areUpdates(s.Ours) && areUpdates(s.Peers) &&
		within(0, api.MaxIndex, s.Local, s.Remote, s.Acked) &&
		areCounts(s.At) && areCounts(s.Signed) && areCounts(s.Held) &&
		areSlots(s.Shelf) &&
		within(0, maxFailed, int64(s.Failed)) &&
		within(-1, api.MaxIndex, s.Closed)
}

// within: is each of the numbers from least to most?
func within(least, most int64, numbers ...int64) bool {
	for _, n := range numbers {
		if n < least || n > most {
			return false
		}
	}
	return true
}

func areUpdates(l []api.Update) bool {
	if len(l) > api.MaxUpdates {
		return false
	}
	for _, u := range l {
		if !update.Valid(u) {
			return false
		}
	}
	return true
}

func areCounts(c api.Counts) bool {
	return within(0, api.MaxUpdates, int64(c.Ours), int64(c.Peers))
}

func areSlots(l []api.Slot) bool {
	if len(l) > maxSlots {
		return false
	}
	for _, slot := range l {
		if !within(0, api.MaxIndex, slot.Index) {
			return false
		}
	}
	return true
}
