package ledger

import (
	"math"
	"math/big"
	"math/rand"
	"slices"
	"strings"

	"escrow/api"
)

// The chapter, said once more and otherwise: whole numbers without end for the balances, each add's removal looked for from the front, and what is open gathered one ID after the other.

func modelValid(u api.Update) bool {
	if u.ID < 0 || u.ID > 2047 {
		return false
	}
	switch u.Kind {
	case 1:
		return u.Amount > 0 && u.Amount <= 1152921504606846976 && u.Note == ""
	case 2:
		return u.Amount == 0 && u.Note == ""
	case 3:
		return u.Amount == 0 && u.Hash == api.Hash{} && len(u.Note) < 65
	}
	return false
}

// passed is a list without what isn't valid.
func passed(l []api.Update) []api.Update {
	return slices.DeleteFunc(slices.Clone(l), func(u api.Update) bool { return !modelValid(u) })
}

// fate is what becomes of an add: 2 where it is fulfilled, 3 where it is failed, 0 where it is open.
func fate(add api.Update, others []api.Update) int {
	at := slices.IndexFunc(others, func(u api.Update) bool { return (u.Kind == 2 || u.Kind == 3) && u.ID == add.ID })
	if at < 0 {
		return 0
	}
	return others[at].Kind
}

func addsOf(l []api.Update) []api.Update {
	return slices.DeleteFunc(slices.Clone(l), func(u api.Update) bool { return u.Kind != 1 })
}

// modelSide is what a side's adds take from it, what they bring to the other, and those that are open.
func modelSide(l, others []api.Update, ours bool) (taken, brought *big.Int, open []api.Pending) {
	taken, brought = new(big.Int), new(big.Int)
	top := int64(-1)
	for _, u := range l {
		top = max(top, u.ID)
	}
	for id := range top + 1 {
		for _, u := range l {
			if u.Kind != 1 || u.ID != id {
				continue
			}
			f := fate(u, others)
			if f != 3 {
				taken.Add(taken, big.NewInt(u.Amount))
			}
			if f == 2 {
				brought.Add(brought, big.NewInt(u.Amount))
			}
			if f == 0 {
				open = append(open, api.Pending{Ours: ours, ID: id, Amount: u.Amount, Hash: u.Hash})
			}
		}
	}
	return taken, brought, open
}

func modelFold(baseOurs, basePeers int64, ours, peers []api.Update, c api.Counts) (api.Ledger, api.Errno) {
	if c.Ours < 0 || c.Ours > len(ours) || c.Peers < 0 || c.Peers > len(peers) {
		return api.Ledger{}, 1
	}
	both := new(big.Int).Add(big.NewInt(baseOurs), big.NewInt(basePeers))
	if baseOurs < 0 || basePeers < 0 || both.Cmp(big.NewInt(1<<60)) > 0 {
		return api.Ledger{}, 1
	}
	a, b := ours[:c.Ours], peers[:c.Peers]
	if len(passed(a)) < len(a) || len(passed(b)) < len(b) {
		return api.Ledger{}, 120
	}
	outA, inA, openA := modelSide(a, b, true)
	outB, inB, openB := modelSide(b, a, false)
	mine, theirs := big.NewInt(baseOurs), big.NewInt(basePeers)
	mine.Sub(mine.Add(mine, inB), outA)
	theirs.Sub(theirs.Add(theirs, inA), outB)
	if mine.Sign() < 0 || theirs.Sign() < 0 {
		return api.Ledger{}, 130
	}
	return api.Ledger{Ours: mine.Int64(), Peers: theirs.Int64(), Open: append(openA, openB...)}, 0
}

func modelFirst(l []api.Update, n int) []api.Update {
	return passed(l[:min(len(l), max(n, 0))])
}

func modelSpendable(base int64, mine, others []api.Update, fixed api.Counts) int64 {
	if base < 0 {
		return 0
	}
	left := big.NewInt(base)
	if base > 1<<60 {
		left.SetInt64(1 << 60)
	}
	for _, u := range addsOf(passed(mine)) {
		left.Sub(left, big.NewInt(u.Amount))
		if fate(u, modelFirst(others, fixed.Peers)) == 3 {
			left.Add(left, big.NewInt(u.Amount))
		}
	}
	for _, u := range addsOf(passed(others)) {
		if fate(u, modelFirst(mine, fixed.Ours)) == 2 {
			left.Add(left, big.NewInt(u.Amount))
		}
	}
	switch {
	case left.Sign() < 0:
		return 0
	case left.Cmp(big.NewInt(1<<60)) > 0:
		return 1 << 60
	}
	return left.Int64()
}

func modelOpen(mine, others []api.Update, fixed int) int {
	n := 0
	for _, u := range addsOf(passed(mine)) {
		if fate(u, modelFirst(others, fixed)) == 0 {
			n++
		}
	}
	return n
}

// What the tests choose from.

const most = 1 << 60

func add(id, amount int64) api.Update {
	return api.Update{Kind: api.Add, ID: id, Amount: amount, Hash: api.Hash{0: byte(id), 31: byte(amount)}}
}
func fulfill(id int64) api.Update       { return api.Update{Kind: api.Fulfill, ID: id, Hash: api.Hash{1: 7}} }
func fail(id int64) api.Update          { return api.Update{Kind: api.Fail, ID: id, Note: "no"} }
func list(u ...api.Update) []api.Update { return u }

func mine(id, amount int64) api.Pending {
	return api.Pending{Ours: true, ID: id, Amount: amount, Hash: add(id, amount).Hash}
}
func theirs(id, amount int64) api.Pending {
	return api.Pending{ID: id, Amount: amount, Hash: add(id, amount).Hash}
}

func ledgerOf(ours, peers int64, open ...api.Pending) api.Ledger {
	return api.Ledger{Ours: ours, Peers: peers, Open: open}
}

// wrong is updates that aren't valid, of each kind and field.
func wrong() []api.Update {
	return list(api.Update{}, api.Update{Kind: -1}, api.Update{Kind: 4}, api.Update{Kind: 9, Amount: 5}, api.Update{Kind: 257, Amount: 5}, api.Update{Kind: math.MinInt}, api.Update{Kind: math.MaxInt},
		add(0, 0), add(0, -1), add(0, math.MinInt64), add(0, most+1), add(0, math.MaxInt64), add(-1, 5), add(2048, 5), add(math.MinInt64, 5), add(math.MaxInt64, 5), api.Update{Kind: 1, Amount: 5, Note: "n"},
		api.Update{Kind: 2, Amount: 1}, api.Update{Kind: 2, Note: "n"}, fulfill(-1), fulfill(2048),
		api.Update{Kind: 3, Amount: 1}, api.Update{Kind: 3, Hash: api.Hash{31: 1}}, api.Update{Kind: 3, Note: strings.Repeat("n", 65)}, fail(-1), fail(2048))
}

func byChance(r *rand.Rand, ids, amounts int64, odd int) api.Update {
	if odd > 0 && r.Intn(odd) == 0 {
		l := wrong()
		return l[r.Intn(len(l))]
	}
	id := r.Int63n(ids)
	switch r.Intn(5) {
	case 0:
		return fulfill(id)
	case 1:
		return fail(id)
	}
	return add(id, 1+r.Int63n(amounts))
}

// listByChance is up to n updates, of which one in odd isn't valid.
func listByChance(r *rand.Rand, n int, ids, amounts int64, odd int) []api.Update {
	l := make([]api.Update, r.Intn(n+1))
	for i := range l {
		l[i] = byChance(r, ids, amounts, odd)
	}
	return l
}

// times is one update again and again.
func times(n int, u api.Update) []api.Update { return slices.Repeat(list(u), n) }
