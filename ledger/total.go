package ledger

import "escrow/api"

// total is amounts together and without others: high times api.MaxAmount, and low, which is 0 or above and less than that. What stands between may be far outside an int64, where the end is an amount again.
type total struct{ high, low int64 }

// plus puts an amount to it.
func (t *total) plus(a int64) {
	t.low += a
	if t.low >= api.MaxAmount {
		t.low -= api.MaxAmount
		t.high++
	}
}

// minus takes an amount from it.
func (t *total) minus(a int64) {
	t.low -= a
	if t.low < 0 {
		t.low += api.MaxAmount
		t.high--
	}
}

// below tells whether it is below 0.
func (t *total) below() bool { return t.high < 0 }

// nearest is the amount that is nearest to it.
func (t *total) nearest() int64 {
	switch {
	case t.high < 0:
		return 0
	case t.high > 0:
		return api.MaxAmount
	}
	return t.low
}
