package ledger

import (
	"math"
	"math/rand"
	"slices"
	"strings"
	"testing"

	"escrow/api"
)

func same(l, m api.Ledger) bool {
	return l.Ours == m.Ours && l.Peers == m.Peers && slices.Equal(l.Open, m.Open)
}

func brief(l []api.Update) []api.Update { return l[:min(len(l), 12)] }

func checkFold(t *testing.T, baseOurs, basePeers int64, ours, peers []api.Update, c api.Counts, want api.Ledger, errno api.Errno) {
	t.Helper()
	if got, e := Fold(baseOurs, basePeers, ours, peers, c); !same(got, want) || e != errno {
		t.Errorf("P13.1: Fold(%d, %d, %v, %v, %v) tells %v, %d, want %v, %d", baseOurs, basePeers, brief(ours), brief(peers), c, got, e, want, errno)
	}
}

// checkLikeModel holds Fold against the model, and answers what both tell.
func checkLikeModel(t *testing.T, baseOurs, basePeers int64, ours, peers []api.Update, c api.Counts) (api.Ledger, api.Errno) {
	t.Helper()
	want, errno := modelFold(baseOurs, basePeers, ours, peers, c)
	checkFold(t, baseOurs, basePeers, ours, peers, c, want, errno)
	return want, errno
}

// whole is the counts of all that stands in two lists.
func whole(ours, peers []api.Update) api.Counts {
	return api.Counts{Ours: len(ours), Peers: len(peers)}
}

// checkWhole holds Fold of all that stands in two lists.
func checkWhole(t *testing.T, baseOurs, basePeers int64, ours, peers []api.Update, want api.Ledger, errno api.Errno) {
	t.Helper()
	checkFold(t, baseOurs, basePeers, ours, peers, whole(ours, peers), want, errno)
}

func checkSpendable(t *testing.T, base int64, mine, others []api.Update, fixed api.Counts, want int64) {
	t.Helper()
	if got := Spendable(base, mine, others, fixed); got != want {
		t.Errorf("P13.1: Spendable(%d, %v, %v, %v) tells %d, want %d", base, brief(mine), brief(others), fixed, got, want)
	}
}

func checkOpen(t *testing.T, mine, others []api.Update, fixed, want int) {
	t.Helper()
	if got := Open(mine, others, fixed); got != want {
		t.Errorf("P13.1: Open(%v, %v, %d) tells %d, want %d", brief(mine), brief(others), fixed, got, want)
	}
}

func TestExamplesOfFold(t *testing.T) {
	one := list(add(0, 600))
	checkFold(t, 700, 300, one, nil, api.Counts{Ours: 1}, ledgerOf(100, 300, mine(0, 600)), api.OK)
	checkFold(t, 700, 300, one, nil, api.Counts{}, ledgerOf(700, 300), api.OK)
	checkFold(t, 700, 300, one, nil, api.Counts{Ours: 2}, api.Ledger{}, api.ErrArg)
	checkFold(t, 700, 300, one, nil, api.Counts{Ours: -1}, api.Ledger{}, api.ErrArg)
	checkFold(t, 700, 300, list(add(0, 701)), nil, api.Counts{Ours: 1}, api.Ledger{}, api.ErrFunds)
	ours, peers := list(add(0, 600), add(1, 50)), list(fulfill(0), add(0, 800))
	checkFold(t, 700, 300, ours, peers, api.Counts{Ours: 2, Peers: 1}, ledgerOf(50, 900, mine(1, 50)), api.OK)
	checkFold(t, 700, 300, ours, peers, api.Counts{Ours: 2, Peers: 2}, ledgerOf(50, 100, mine(1, 50), theirs(0, 800)), api.OK)
	checkFold(t, 700, 300, ours, peers, api.Counts{Ours: 1, Peers: 2}, ledgerOf(100, 100, theirs(0, 800)), api.OK)
	checkFold(t, 700, 300, ours, peers, api.Counts{Peers: 2}, api.Ledger{}, api.ErrFunds)
	checkFold(t, 700, 300, one, list(fail(0)), api.Counts{Ours: 1, Peers: 1}, ledgerOf(700, 300), api.OK)
}

func TestExamplesOfSpendableAndOpen(t *testing.T) {
	one := list(add(0, 600))
	checkSpendable(t, 700, one, nil, api.Counts{}, 100)
	checkSpendable(t, 700, one, list(fail(0)), api.Counts{Peers: 1}, 700)
	checkSpendable(t, 700, one, list(fail(0)), api.Counts{}, 100)
	checkSpendable(t, 700, one, list(fulfill(0)), api.Counts{Peers: 1}, 100)
	checkSpendable(t, 700, one, list(fulfill(0)), api.Counts{}, 100)
	checkSpendable(t, 700, list(fulfill(0)), list(add(0, 300)), api.Counts{Ours: 1, Peers: 1}, 1000)
	checkSpendable(t, 700, list(fulfill(0)), list(add(0, 300)), api.Counts{Peers: 1}, 700)
	checkOpen(t, list(add(0, 1), add(1, 1)), list(fail(0)), 1, 1)
	checkOpen(t, list(add(0, 1), add(1, 1)), list(fail(0)), 0, 2)
}

// Counts of either side from below 0 to above the length, with faults of the later kinds beside them.
func TestFoldCounts(t *testing.T) {
	ours, peers := list(add(0, 100), fail(0), add(1, 20)), list(add(0, 7), fulfill(0))
	for _, n := range []int{math.MinInt, -1, 0, 1, 2, 3, 4, 1 << 32, math.MaxInt} {
		for _, m := range []int{math.MinInt, -1, 0, 1, 2, 3, 1 << 32, math.MaxInt} {
			c := api.Counts{Ours: n, Peers: m}
			_, e := checkLikeModel(t, 700, 300, ours, peers, c)
			if right := n >= 0 && n <= 3 && m >= 0 && m <= 2; right != (e == api.OK) {
				t.Errorf("P13.1: the counts %v make %d", c, e)
			}
			if e == api.ErrArg {
				checkFold(t, 700, 300, times(len(ours), api.Update{}), peers, c, api.Ledger{}, api.ErrArg)
				checkFold(t, 0, 0, ours, peers, c, api.Ledger{}, api.ErrArg)
			}
		}
	}
	for _, c := range []api.Counts{{Ours: 1}, {Peers: 1}, {Ours: -1}, {Peers: -1}} {
		checkFold(t, 1, 1, nil, nil, c, api.Ledger{}, api.ErrArg)
		checkFold(t, 1, 1, []api.Update{}, []api.Update{}, c, api.Ledger{}, api.ErrArg)
	}
	checkFold(t, 1, 2, nil, nil, api.Counts{}, ledgerOf(1, 2), api.OK)
	checkFold(t, 1, 2, []api.Update{}, []api.Update{}, api.Counts{}, ledgerOf(1, 2), api.OK)
}

// What stands behind the end of a list, in its memory, is no part of it.
func TestFoldCountsNoSpareRoom(t *testing.T) {
	room := list(add(0, 1), add(1, 2), add(2, 3))
	checkFold(t, 700, 300, room[:1], nil, api.Counts{Ours: 2}, api.Ledger{}, api.ErrArg)
	checkFold(t, 700, 300, nil, room[:1], api.Counts{Peers: 3}, api.Ledger{}, api.ErrArg)
	checkSpendable(t, 700, room[:1], nil, api.Counts{}, 699)
	checkOpen(t, room[:1], list(fail(0), fail(1))[:0], 2, 1)
}

func TestFoldBases(t *testing.T) {
	bases := []int64{math.MinInt64, math.MinInt64 + 1, -most, -1, 0, 1, most / 2, most/2 + 1, most - 1, most, most + 1, 1 << 61, 1 << 62, math.MaxInt64}
	for _, a := range bases {
		for _, b := range bases {
			right := a >= 0 && a <= most && b >= 0 && b <= most && a+b <= most
			want, errno := api.Ledger{}, api.ErrArg
			if right {
				want, errno = ledgerOf(a, b), api.OK
			}
			checkFold(t, a, b, nil, nil, api.Counts{}, want, errno)
			if !right {
				checkWhole(t, a, b, list(api.Update{}), nil, api.Ledger{}, api.ErrArg)
				checkWhole(t, a, b, nil, list(add(0, most)), api.Ledger{}, api.ErrArg)
			}
			checkLikeModel(t, a, b, list(add(0, 1)), list(fulfill(0)), api.Counts{Ours: 1, Peers: 1})
		}
	}
}

// An update that isn't valid counts within the counts, of either side, at every place, ahead of missing funds; behind them it doesn't.
func TestFoldOfWrongUpdates(t *testing.T) {
	for _, u := range wrong() {
		right := list(add(0, 10), fail(5), fulfill(6))
		for at := range len(right) + 1 {
			l := slices.Insert(slices.Clone(right), at, u)
			for n := range len(l) + 1 {
				errno := api.OK
				if n > at {
					errno = api.ErrUpdate
				}
				if _, e := checkLikeModel(t, 700, 300, l, right, api.Counts{Ours: n, Peers: 3}); e != errno {
					t.Errorf("P13.1: %d of %v make %d", n, l, e)
				}
				if _, e := checkLikeModel(t, 700, 300, right, l, api.Counts{Ours: 3, Peers: n}); e != errno {
					t.Errorf("P13.1: %d of the peer's %v make %d", n, l, e)
				}
			}
		}
		checkWhole(t, 0, 0, list(add(0, most), u), nil, api.Ledger{}, api.ErrUpdate)
		checkWhole(t, 0, 0, list(add(0, most)), list(u), api.Ledger{}, api.ErrUpdate)
	}
}

// The longest note and the last ID are valid.
func TestFoldOfEdges(t *testing.T) {
	long := api.Update{Kind: api.Fail, ID: 2047, Note: strings.Repeat("n", 64)}
	checkWhole(t, most, 0, list(add(2047, most)), list(long), ledgerOf(most, 0), api.OK)
	checkWhole(t, most, 0, list(add(2047, most)), list(fulfill(2047)), ledgerOf(0, most), api.OK)
	checkWhole(t, most, 0, list(add(2047, most)), nil, ledgerOf(0, 0, mine(2047, most)), api.OK)
	checkWhole(t, 0, most, nil, list(add(2047, most)), ledgerOf(0, 0, theirs(2047, most)), api.OK)
	checkWhole(t, 0, most, list(fulfill(2047)), list(add(2047, most)), ledgerOf(most, 0), api.OK)
}

func TestFoldOfManyWithOneID(t *testing.T) {
	several := list(add(3, 10), add(3, 20), add(4, 5), add(3, 30))
	checkWhole(t, 700, 300, several, nil, ledgerOf(635, 300, mine(3, 10), mine(3, 20), mine(3, 30), mine(4, 5)), api.OK)
	checkWhole(t, 700, 300, several, list(fulfill(3)), ledgerOf(635, 360, mine(4, 5)), api.OK)
	checkWhole(t, 700, 300, several, list(fail(3)), ledgerOf(695, 300, mine(4, 5)), api.OK)
	checkWhole(t, 700, 300, several, list(fail(3), fulfill(3), fulfill(3)), ledgerOf(695, 300, mine(4, 5)), api.OK)
	checkWhole(t, 700, 300, several, list(fulfill(3), fail(3)), ledgerOf(635, 360, mine(4, 5)), api.OK)
	checkFold(t, 700, 300, several, list(fulfill(4), fail(3), fulfill(3)), api.Counts{Ours: 4, Peers: 1}, ledgerOf(635, 305, mine(3, 10), mine(3, 20), mine(3, 30)), api.OK)
	checkWhole(t, 700, 300, list(fulfill(3), fail(3)), several, ledgerOf(760, 235, theirs(4, 5)), api.OK)
	checkWhole(t, 700, 300, list(fail(3), fulfill(3)), several, ledgerOf(700, 295, theirs(4, 5)), api.OK)
}

func TestFoldOfRemovalsAlone(t *testing.T) {
	checkWhole(t, 700, 300, list(fail(0), fulfill(1)), list(fulfill(0), fail(1)), ledgerOf(700, 300), api.OK)
	checkWhole(t, 700, 300, list(add(0, 5), fail(0)), nil, ledgerOf(695, 300, mine(0, 5)), api.OK)
	checkWhole(t, 700, 300, list(fulfill(0), add(0, 5)), nil, ledgerOf(695, 300, mine(0, 5)), api.OK)
	checkWhole(t, 700, 300, nil, list(add(0, 5), fulfill(0)), ledgerOf(700, 295, theirs(0, 5)), api.OK)
	checkWhole(t, 700, 300, list(add(1, 5)), list(fulfill(0), fail(2)), ledgerOf(695, 300, mine(1, 5)), api.OK)
	checkWhole(t, 700, 300, list(add(0, 5)), list(fulfill(0), add(0, 9)), ledgerOf(695, 296, theirs(0, 9)), api.OK)
	checkFold(t, 700, 300, list(add(0, 5)), list(fulfill(0)), api.Counts{Peers: 1}, ledgerOf(700, 300), api.OK)
}

// Balances of exactly 0 are taken, one below is not; what stands between doesn't matter.
func TestFoldAtNothing(t *testing.T) {
	checkWhole(t, 700, 300, list(add(0, 700)), nil, ledgerOf(0, 300, mine(0, 700)), api.OK)
	checkWhole(t, 700, 300, list(add(0, 701)), nil, api.Ledger{}, api.ErrFunds)
	checkWhole(t, 700, 300, nil, list(add(0, 300)), ledgerOf(700, 0, theirs(0, 300)), api.OK)
	checkWhole(t, 700, 300, nil, list(add(0, 301)), api.Ledger{}, api.ErrFunds)
	checkWhole(t, 700, 300, list(add(0, 700)), list(fulfill(0), add(0, 1000)), ledgerOf(0, 0, theirs(0, 1000)), api.OK)
	checkWhole(t, 700, 300, list(add(0, 700)), list(fulfill(0), add(0, 1001)), api.Ledger{}, api.ErrFunds)
	checkWhole(t, 700, 300, list(add(0, 1000), fulfill(0)), list(add(0, 300)), ledgerOf(0, 0, mine(0, 1000)), api.OK)
	checkWhole(t, 700, 300, list(add(0, 1001), fulfill(0)), list(add(0, 300)), api.Ledger{}, api.ErrFunds)
	checkWhole(t, 700, 300, list(add(0, 701), add(1, 9)), list(fail(0)), ledgerOf(691, 300, mine(1, 9)), api.OK)
	checkWhole(t, 0, 0, list(add(0, most)), list(fail(0)), ledgerOf(0, 0), api.OK)
	checkWhole(t, 0, 0, list(add(0, 1)), list(fulfill(0)), api.Ledger{}, api.ErrFunds)
	checkWhole(t, 0, 0, list(add(0, 1), fulfill(0)), list(add(0, 1), fulfill(0)), ledgerOf(0, 0), api.OK)
	checkWhole(t, 0, 1, list(add(0, 1)), list(fulfill(0)), api.Ledger{}, api.ErrFunds)
	checkWhole(t, 1, 0, list(add(0, 1)), list(fulfill(0)), ledgerOf(0, 1), api.OK)
	checkWhole(t, most, 0, list(add(0, most), add(1, 1)), nil, api.Ledger{}, api.ErrFunds)
}

// Sums that pass 2^63 and 2^64 in between, either way.
func TestFoldOfGreatSums(t *testing.T) {
	for _, n := range []int{1, 7, 8, 9, 15, 16, 17, 31, 32, 33, 64, 1000, 40000} {
		there, back := append(times(n, add(0, most)), fulfill(0)), append(times(n, add(0, most)), fulfill(0))
		checkWhole(t, most, 0, there, back, ledgerOf(most, 0), api.OK)
		checkWhole(t, 0, most, there, back, ledgerOf(0, most), api.OK)
		checkWhole(t, 5, 6, there, back, ledgerOf(5, 6), api.OK)
		checkWhole(t, 5, 6, append(there, add(1, 5)), append(back, add(1, 6)), ledgerOf(0, 0, mine(1, 5), theirs(1, 6)), api.OK)
		checkWhole(t, 5, 6, append(there, add(1, 6)), append(back, add(1, 6)), api.Ledger{}, api.ErrFunds)
		checkWhole(t, 5, 6, append(there, add(1, 5)), append(back, add(1, 7)), api.Ledger{}, api.ErrFunds)
		// One more on one side: from it to the other.
		checkWhole(t, most, 0, append(there, add(0, most)), back, ledgerOf(0, most), api.OK)
		checkWhole(t, most-1, 0, append(there, add(0, most)), back, api.Ledger{}, api.ErrFunds)
		// A balance that an int64 would show as 0 or above again.
		checkWhole(t, most, 0, times(n+1, add(0, most)), nil, api.Ledger{}, api.ErrFunds)
		checkWhole(t, 0, most, nil, times(n+1, add(0, most)), api.Ledger{}, api.ErrFunds)
		checkWhole(t, 0, most, times(n, add(0, most)), list(fulfill(0)), api.Ledger{}, api.ErrFunds)
		checkWhole(t, 0, most, times(n, add(0, most)), list(fail(0)), ledgerOf(0, most), api.OK)
	}
}

// Amounts of the greatest one and a little less, so that the halves of a great sum carry at every place.
func TestFoldOfGreatSumsByChance(t *testing.T) {
	r := rand.New(rand.NewSource(131))
	told := map[api.Errno]int{}
	for range 4000 {
		n := 1 + r.Intn(40)
		var ours, peers []api.Update
		for range n {
			id := r.Int63n(3)
			ours = append(ours, add(id, most-r.Int63n(3)))
			peers = append(peers, add(id, most-r.Int63n(3)))
		}
		ours = append(ours, fulfill(0), fulfill(1), fulfill(2))
		peers = append(peers, fulfill(0), fulfill(1), fulfill(2))
		part := r.Int63n(int64(n))
		_, e := checkLikeModel(t, part, r.Int63n(int64(n)), ours, peers, whole(ours, peers))
		told[e]++
	}
	if told[api.OK] < 100 || told[api.ErrFunds] < 100 {
		t.Errorf("P13.1: of great sums %d are taken, %d refused", told[api.OK], told[api.ErrFunds])
	}
}

// Mine ahead of the peer's, each by ID, those of one ID as they stand: for every order of some adds.
func TestOrderOfOpen(t *testing.T) {
	l := list(add(2, 1), add(0, 2), add(2, 3), add(2047, 4), add(0, 5))
	want := []api.Pending{mine(0, 2), mine(0, 5), mine(2, 1), mine(2, 3), mine(2047, 4)}
	peers := []api.Pending{theirs(0, 2), theirs(0, 5), theirs(2, 1), theirs(2, 3), theirs(2047, 4)}
	checkWhole(t, 700, 300, l, l, ledgerOf(685, 285, append(slices.Clone(want), peers...)...), api.OK)
	checkWhole(t, 700, 300, nil, l, ledgerOf(700, 285, peers...), api.OK)
	checkWhole(t, 700, 300, list(add(9, 1)), list(add(1, 1), add(0, 1)), ledgerOf(699, 298, mine(9, 1), theirs(0, 1), theirs(1, 1)), api.OK)
	orders(l, 0, func(l []api.Update) {
		checkLikeModel(t, 700, 300, l, nil, api.Counts{Ours: 5})
		checkLikeModel(t, 700, 300, list(fulfill(2)), l, api.Counts{Ours: 1, Peers: 5})
	})
}

// orders hands over every order of what stands behind the first k.
func orders(l []api.Update, k int, do func([]api.Update)) {
	if k == len(l) {
		do(l)
		return
	}
	for i := k; i < len(l); i++ {
		l[k], l[i] = l[i], l[k]
		orders(l, k+1, do)
		l[k], l[i] = l[i], l[k]
	}
}

// Many adds of few IDs, told apart by their amounts: more than a sort of a few does.
func TestOrderOfManyOpen(t *testing.T) {
	r := rand.New(rand.NewSource(132))
	for _, n := range []int{11, 12, 13, 20, 21, 50, 500, 2048} {
		l := make([]api.Update, n)
		for i := range l {
			l[i] = add(r.Int63n(4), int64(i)+1)
		}
		got, e := checkLikeModel(t, most/2, most/2, l, l, api.Counts{Ours: n, Peers: n})
		if e != api.OK || len(got.Open) != 2*n {
			t.Errorf("P13.1: of %d adds on either side %d are open, %d", n, len(got.Open), e)
		}
	}
	for _, up := range []bool{true, false} {
		l := make([]api.Update, 2048)
		for i := range l {
			l[i] = add(int64(i), 1)
		}
		if !up {
			slices.Reverse(l)
		}
		checkLikeModel(t, 2048, 2048, l, l, api.Counts{Ours: 2048, Peers: 2048})
	}
}

// chance is one call of Fold, and the same with the sides exchanged.
type chance struct {
	a, b        int64
	ours, peers []api.Update
	c           api.Counts
}

func (x chance) exchanged() chance {
	return chance{x.b, x.a, x.peers, x.ours, api.Counts{Ours: x.c.Peers, Peers: x.c.Ours}}
}

func (x chance) fold() (api.Ledger, api.Errno) { return Fold(x.a, x.b, x.ours, x.peers, x.c) }

func foldByChance(r *rand.Rand) chance {
	great := []int64{20, 1000, most}[r.Intn(3)]
	odd := []int{0, 0, 30}[r.Intn(3)]
	x := chance{r.Int63n(great/2 + 1), r.Int63n(great/2 + 1), listByChance(r, 9, 5, great/4, odd), listByChance(r, 9, 5, great/4, odd), api.Counts{}}
	x.c = api.Counts{Ours: r.Intn(len(x.ours) + 1), Peers: r.Intn(len(x.peers) + 1)}
	switch r.Intn(30) {
	case 0:
		x.c.Ours = len(x.ours) + 1
	case 1:
		x.c.Peers = -1
	case 2:
		x.a = -1
	case 3:
		x.b = most + 1
	}
	return x
}

func TestFoldByChance(t *testing.T) {
	r := rand.New(rand.NewSource(133))
	told := map[api.Errno]int{}
	for range 30000 {
		x := foldByChance(r)
		_, e := checkLikeModel(t, x.a, x.b, x.ours, x.peers, x.c)
		told[e]++
	}
	for _, e := range []api.Errno{api.OK, api.ErrArg, api.ErrUpdate, api.ErrFunds} {
		if told[e] < 500 {
			t.Errorf("P13.1: %d is told only %d times", e, told[e])
		}
	}
}

func TestNothingIsLost(t *testing.T) {
	r := rand.New(rand.NewSource(134))
	taken := 0
	for range 30000 {
		x := foldByChance(r)
		l, e := x.fold()
		if e != api.OK {
			if l.Ours != 0 || l.Peers != 0 || len(l.Open) != 0 {
				t.Fatalf("P13.1: %v tells %v beside %d", x, l, e)
			}
			continue
		}
		taken++
		all := l.Ours + l.Peers
		for _, p := range l.Open {
			all += p.Amount
		}
		if l.Ours < 0 || l.Ours > most || l.Peers < 0 || l.Peers > most || all != x.a+x.b {
			t.Fatalf("P13.2: %v tells %v, in all %d", x, l, all)
		}
	}
	if taken < 5000 {
		t.Errorf("P13.2: only %d are taken", taken)
	}
}

func TestTwoViews(t *testing.T) {
	r := rand.New(rand.NewSource(135))
	for range 30000 {
		x := foldByChance(r)
		l, e := x.fold()
		seen, errno := x.exchanged().fold()
		var ours, peers []api.Pending
		for _, p := range l.Open {
			if p.Ours = !p.Ours; p.Ours {
				ours = append(ours, p)
			} else {
				peers = append(peers, p)
			}
		}
		if want := ledgerOf(l.Peers, l.Ours, append(ours, peers...)...); !same(seen, want) || errno != e {
			t.Fatalf("P13.3: %v tells %v, %d, and exchanged %v, %d", x, l, e, seen, errno)
		}
	}
}

// One add more, of each amount around my balance, with an ID that nobody removes.
func TestOneAddMore(t *testing.T) {
	r := rand.New(rand.NewSource(136))
	taken := 0
	for range 20000 {
		x := foldByChance(r)
		l, e := x.fold()
		if e != api.OK {
			continue
		}
		taken++
		id := r.Int63n(6)
		if slices.ContainsFunc(x.peers[:x.c.Peers], func(u api.Update) bool { return u.Kind != api.Add && u.ID == id }) {
			id = 5 + r.Int63n(2043)
		}
		for _, m := range []int64{1, l.Ours / 2, l.Ours - 1, l.Ours, l.Ours + 1, most} {
			if m >= 1 && m <= most {
				checkOneMore(t, x, l, add(id, m))
			}
		}
	}
	if taken < 3000 {
		t.Errorf("P13.5: only %d are taken", taken)
	}
}

// checkOneMore holds P13.5 of a call that tells l.
func checkOneMore(t *testing.T, x chance, l api.Ledger, u api.Update) {
	t.Helper()
	x.ours = append(slices.Clone(x.ours[:x.c.Ours]), u)
	x.c.Ours++
	got, e := x.fold()
	if u.Amount > l.Ours {
		if e != api.ErrFunds {
			t.Fatalf("P13.5: %v, with one add more than its balance %d, tells %v, %d", x, l.Ours, got, e)
		}
		return
	}
	at := 0
	for at < len(l.Open) && l.Open[at].Ours && l.Open[at].ID <= u.ID {
		at++
	}
	want := ledgerOf(l.Ours-u.Amount, l.Peers, slices.Insert(slices.Clone(l.Open), at, mine(u.ID, u.Amount))...)
	if !same(got, want) || e != api.OK {
		t.Fatalf("P13.5: %v tells %v, %d, want %v", x, got, e, want)
	}
}

func TestSpendableOfCounts(t *testing.T) {
	ours, peers := list(add(0, 100), fulfill(1), fulfill(0), add(1, 10)), list(add(1, 5), fail(1), add(0, 7), fail(0))
	for _, x := range []struct {
		ours, peers int
		want        int64
		open        int
	}{
		{math.MinInt, math.MinInt, 590, 2}, {-1, -1, 590, 2}, {0, 0, 590, 2}, {1, 1, 590, 2}, {0, 2, 600, 1}, {0, 3, 600, 1}, {0, 4, 700, 0}, {0, 5, 700, 0}, {0, math.MaxInt, 700, 0},
		{2, 0, 595, 2}, {3, 0, 602, 2}, {4, 0, 602, 2}, {5, 0, 602, 2}, {math.MaxInt, 0, 602, 2}, {4, 4, 712, 0}, {math.MaxInt, math.MaxInt, 712, 0}, {math.MaxInt, math.MinInt, 602, 2}, {math.MinInt, math.MaxInt, 700, 0},
	} {
		checkSpendable(t, 700, ours, peers, api.Counts{Ours: x.ours, Peers: x.peers}, x.want)
		checkOpen(t, ours, peers, x.peers, x.open)
	}
	for _, n := range []int{math.MinInt, -1, 0, 1, math.MaxInt} {
		for _, none := range [][]api.Update{nil, {}} {
			checkSpendable(t, 7, none, none, api.Counts{Ours: n, Peers: n}, 7)
			checkOpen(t, none, none, n, 0)
			checkOpen(t, list(add(0, 1)), none, n, 1)
		}
	}
}

// Of several removals the first counts; of several adds each.
func TestSpendableOfManyWithOneID(t *testing.T) {
	several := list(add(3, 10), add(3, 20), add(4, 5))
	for _, x := range []struct {
		l           []api.Update
		n           int
		gives, gets int64
		open        int
	}{
		{list(fail(3), fulfill(3)), 2, 695, 700, 1}, {list(fulfill(3), fail(3)), 2, 665, 730, 1}, {list(fulfill(3), fail(3)), 1, 665, 730, 1}, {list(fail(3), fulfill(3)), 1, 695, 700, 1}, {list(fail(3), fulfill(3)), 0, 665, 700, 3},
		{list(fulfill(9), fail(8)), 2, 665, 700, 3}, {list(fail(4), fail(3)), 2, 700, 700, 0}, {list(fulfill(4), fulfill(3)), 2, 665, 735, 0},
	} {
		checkSpendable(t, 700, several, x.l, api.Counts{Peers: x.n}, x.gives)
		checkSpendable(t, 700, x.l, several, api.Counts{Ours: x.n}, x.gets)
		checkOpen(t, several, x.l, x.n, x.open)
	}
	// All adds of the others count, irrevocable or not; and those of mine.
	checkSpendable(t, 700, list(fulfill(0)), list(fail(9), add(0, 30)), api.Counts{Ours: 1}, 730)
	checkSpendable(t, 700, list(fail(9), add(0, 30)), nil, api.Counts{}, 670)
	// A side's own removals are not of its own adds.
	checkSpendable(t, 700, list(add(0, 30), fail(0)), nil, api.Counts{Ours: 2}, 670)
	checkSpendable(t, 700, nil, list(add(0, 30), fulfill(0)), api.Counts{Peers: 2}, 700)
	checkOpen(t, list(add(0, 30), fail(0), fulfill(0)), nil, 5, 1)
}

// Updates that aren't valid are passed over: as adds, as removals, and in front of those that count.
func TestSpendableOfWrongUpdates(t *testing.T) {
	for _, u := range wrong() {
		checkSpendable(t, 700, list(u), nil, api.Counts{Ours: 1}, 700)
		checkSpendable(t, 700, list(fulfill(0), fulfill(2047)), list(u), api.Counts{Ours: 2, Peers: 1}, 700)
		checkSpendable(t, 700, list(u, add(0, 600)), list(u), api.Counts{Ours: 2, Peers: 1}, 100)
		checkSpendable(t, 700, list(u, add(0, 600)), list(u, fail(0)), api.Counts{Ours: 2, Peers: 2}, 700)
		checkSpendable(t, 700, list(u, add(0, 600)), list(u, fail(0)), api.Counts{Ours: 2, Peers: 1}, 100)
		checkSpendable(t, 700, list(u), list(add(0, 300), u), api.Counts{Ours: 1, Peers: 2}, 700)
		checkSpendable(t, 700, list(u, fulfill(0)), list(u, add(0, 300), u), api.Counts{Ours: 2, Peers: 2}, 1000)
		checkSpendable(t, 700, list(u, fulfill(0)), list(u, add(0, 300), u), api.Counts{Ours: 1, Peers: 2}, 700)
		checkOpen(t, list(u), nil, 0, 0)
		checkOpen(t, list(u, add(0, 1), u), list(u), 1, 1)
		checkOpen(t, list(u, add(0, 1), u), list(u, fail(0)), 2, 0)
		checkOpen(t, list(u, add(0, 1), u), list(u, fail(0)), 1, 1)
	}
}

func TestSpendableBasesAndResults(t *testing.T) {
	won, gone := list(fulfill(0)), list(fail(0))
	for _, base := range []int64{math.MinInt64, -most, -1} {
		checkSpendable(t, base, nil, nil, api.Counts{}, 0)
		checkSpendable(t, base, won, list(add(0, 300)), api.Counts{Ours: 1, Peers: 1}, 0)
		checkSpendable(t, base, won, list(add(0, most)), api.Counts{Ours: 1, Peers: 1}, 0)
	}
	for _, base := range []int64{most, most + 1, 1 << 61, 1 << 62, math.MaxInt64} {
		checkSpendable(t, base, nil, nil, api.Counts{}, most)
		checkSpendable(t, base, list(add(0, 1)), nil, api.Counts{}, most-1)
		checkSpendable(t, base, list(add(0, most)), nil, api.Counts{}, 0)
		checkSpendable(t, base, list(add(0, most), add(1, 1)), nil, api.Counts{}, 0)
		checkSpendable(t, base, won, list(add(0, 1)), api.Counts{Ours: 1}, most)
		checkSpendable(t, base, won, list(add(0, most)), api.Counts{Ours: 1}, most)
		checkSpendable(t, base, append(won, add(5, 2)), list(add(0, 1)), api.Counts{Ours: 1}, most-1)
	}
	checkSpendable(t, 0, nil, nil, api.Counts{}, 0)
	checkSpendable(t, 0, list(add(0, 1)), nil, api.Counts{}, 0)
	checkSpendable(t, 0, list(add(0, 1)), gone, api.Counts{Peers: 1}, 0)
	checkSpendable(t, 5, list(add(0, 5)), nil, api.Counts{}, 0)
	checkSpendable(t, 5, list(add(0, 6)), nil, api.Counts{}, 0)
	checkSpendable(t, 5, list(add(0, 4)), nil, api.Counts{}, 1)
	checkSpendable(t, most-1, won, list(add(0, 1)), api.Counts{Ours: 1}, most)
	checkSpendable(t, most-1, won, list(add(0, 2)), api.Counts{Ours: 1}, most)
	checkSpendable(t, most-2, won, list(add(0, 1)), api.Counts{Ours: 1}, most-1)
}

// What is below 0, or above the greatest amount, in between is not yet the result.
func TestSpendableOfGreatSums(t *testing.T) {
	for _, n := range []int{1, 7, 8, 9, 15, 16, 17, 31, 32, 33, 1000, 40000} {
		gives, gets := times(n, add(0, most)), times(n, add(0, most))
		checkSpendable(t, 700, append(gives, fulfill(0)), gets, api.Counts{Ours: n + 1}, 700)
		checkSpendable(t, 700, append(gives, fulfill(0), add(1, 600)), gets, api.Counts{Ours: n + 1}, 100)
		checkSpendable(t, 700, append(gives, fulfill(0), add(1, 701)), gets, api.Counts{Ours: n + 1}, 0)
		checkSpendable(t, 700, append(gives, fulfill(0)), append(gets, add(0, 1)), api.Counts{Ours: n + 1}, 701)
		checkSpendable(t, 700, gives, nil, api.Counts{}, 0)
		checkSpendable(t, 700, gives, list(fail(0)), api.Counts{Peers: 1}, 700)
		checkSpendable(t, 700, list(fulfill(0)), gets, api.Counts{Ours: 1}, most)
		checkSpendable(t, 700, append(gives, fulfill(0)), append(gets, add(0, most)), api.Counts{Ours: n + 1}, most)
		checkSpendable(t, 0, append(gives, fulfill(0)), append(gets, add(0, most)), api.Counts{Ours: n + 1}, most)
		checkOpen(t, gives, nil, 0, n)
		checkOpen(t, gives, list(fail(0)), 1, 0)
	}
}

func TestSpendableAndOpenByChance(t *testing.T) {
	r := rand.New(rand.NewSource(137))
	between := 0
	for range 40000 {
		great := []int64{20, 1000, most}[r.Intn(3)]
		mine, others := listByChance(r, 9, 5, great/4, 12), listByChance(r, 9, 5, great/4, 12)
		fixed := api.Counts{Ours: r.Intn(len(mine)+3) - 1, Peers: r.Intn(len(others)+3) - 1}
		base := r.Int63n(great) - great/20
		want := modelSpendable(base, mine, others, fixed)
		if want > 0 && want < most && want != base {
			between++
		}
		checkSpendable(t, base, mine, others, fixed, want)
		checkOpen(t, mine, others, fixed.Peers, modelOpen(mine, others, fixed.Peers))
	}
	if between < 5000 {
		t.Errorf("P13.1: Spendable tells a new number only %d times", between)
	}
}
