package ledger

import (
	"math/rand"
	"slices"
	"sync"
	"testing"

	"escrow/api"
)

// spare is a list with room behind it, in which something stands.
func spare(l []api.Update) []api.Update {
	room := append(slices.Clone(l), add(7, 7), fail(0), fulfill(1), add(1, 1), api.Update{Kind: -9, Note: "behind"})
	return room[:len(l)]
}

func TestListsAreLeftAsTheyWere(t *testing.T) {
	r := rand.New(rand.NewSource(138))
	for range 10000 {
		x := foldByChance(r)
		x.ours, x.peers = spare(x.ours), spare(x.peers)
		ours, peers := slices.Clone(x.ours[:cap(x.ours)]), slices.Clone(x.peers[:cap(x.peers)])
		x.fold()
		Spendable(x.a, x.ours, x.peers, x.c)
		Open(x.ours, x.peers, x.c.Peers)
		if !slices.Equal(x.ours[:cap(x.ours)], ours) || !slices.Equal(x.peers[:cap(x.peers)], peers) {
			t.Fatalf("P13.1, R3: Fold, Spendable or Open changed a list of %v", x)
		}
		checkLikeModel(t, x.a, x.b, x.ours, x.peers, x.c)
		checkSpendable(t, x.a, x.ours, x.peers, x.c, modelSpendable(x.a, x.ours, x.peers, x.c))
		checkOpen(t, x.ours, x.peers, x.c.Peers, modelOpen(x.ours, x.peers, x.c.Peers))
	}
}

// What is answered is the caller's: a change of it, in its spare room too, is seen by no other answer.
func TestAnswersAreNewMemory(t *testing.T) {
	ours, peers := list(add(1, 10), add(0, 20)), list(add(0, 5), add(1, 6))
	c := api.Counts{Ours: 2, Peers: 2}
	want := ledgerOf(670, 289, mine(0, 20), mine(1, 10), theirs(0, 5), theirs(1, 6))
	first, _ := Fold(700, 300, ours, peers, c)
	second, _ := Fold(700, 300, ours, peers, c)
	clear(first.Open[:cap(first.Open)])
	if !same(second, want) {
		t.Errorf("P13.1, R3: two answers share memory: %v", second)
	}
	checkFold(t, 700, 300, ours, peers, c, want, api.OK)
	if !slices.Equal(ours, list(add(1, 10), add(0, 20))) || !slices.Equal(peers, list(add(0, 5), add(1, 6))) {
		t.Errorf("P13.1, R3: an answer shares memory with a list")
	}
}

// Nothing is kept: lists that change between two calls are seen as they are.
func TestNothingIsKept(t *testing.T) {
	ours, peers := list(add(0, 600)), list(fail(0))
	c := api.Counts{Ours: 1, Peers: 1}
	for range 3 {
		peers[0] = fail(0)
		checkFold(t, 700, 300, ours, peers, c, ledgerOf(700, 300), api.OK)
		checkSpendable(t, 700, ours, peers, c, 700)
		checkOpen(t, ours, peers, 1, 0)
		peers[0] = fulfill(0)
		checkFold(t, 700, 300, ours, peers, c, ledgerOf(100, 900), api.OK)
		checkSpendable(t, 700, ours, peers, c, 100)
		peers[0] = fail(1)
		checkFold(t, 700, 300, ours, peers, c, ledgerOf(100, 300, mine(0, 600)), api.OK)
		checkOpen(t, ours, peers, 1, 1)
		peers[0] = api.Update{}
		checkFold(t, 700, 300, ours, peers, c, api.Ledger{}, api.ErrUpdate)
		checkFold(t, 700, 300, ours, peers, api.Counts{Ours: 2}, api.Ledger{}, api.ErrArg)
		checkFold(t, 599, 300, ours, peers, api.Counts{Ours: 1}, api.Ledger{}, api.ErrFunds)
	}
}

// One array as both lists, also parts that lie over one another.
func TestListsThatShareMemory(t *testing.T) {
	l := list(add(0, 5), fulfill(0), add(1, 6), fail(1), add(2, 7), fulfill(2))
	for i := range len(l) + 1 {
		for j := range len(l) + 1 {
			checkLikeModel(t, 20, 20, l[:i], l[:j], api.Counts{Ours: i, Peers: j})
			checkLikeModel(t, 20, 20, l[i:], l[:j], api.Counts{Ours: len(l) - i, Peers: j})
			fixed := api.Counts{Ours: i, Peers: j}
			checkSpendable(t, 20, l, l, fixed, modelSpendable(20, l, l, fixed))
			checkSpendable(t, 20, l[i:], l[:j], fixed, modelSpendable(20, l[i:], l[:j], fixed))
			checkOpen(t, l[i:], l[:j], j, modelOpen(l[i:], l[:j], j))
		}
	}
}

// Lists far longer than a side's may be are gone through once.
func TestLongLists(t *testing.T) {
	const n = 200000
	ours, peers := make([]api.Update, n), make([]api.Update, n)
	for i := range ours {
		ours[i], peers[i] = add(int64(i)%2048, 1), fail(int64(i)%1024)
	}
	l, e := Fold(n, 0, ours, peers, api.Counts{Ours: n, Peers: n})
	open := 0
	for _, u := range ours {
		if u.ID >= 1024 {
			open++
		}
	}
	if e != api.OK || len(l.Open) != open || l.Ours != int64(n-open) {
		t.Errorf("P13.1: of long lists Fold tells %d, %d open, %d, want %d open", l.Ours, len(l.Open), e, open)
	}
	checkOpen(t, ours, peers, n, open)
	checkSpendable(t, n, ours, peers, api.Counts{Ours: n, Peers: n}, int64(n-open))
}

func TestManyAtOnce(t *testing.T) {
	shared := foldByChance(rand.New(rand.NewSource(139)))
	var w sync.WaitGroup
	for lane := range 8 {
		w.Go(func() {
			r := rand.New(rand.NewSource(int64(lane)))
			for range 300 {
				checkLikeModel(t, shared.a, shared.b, shared.ours, shared.peers, shared.c)
				x := foldByChance(r)
				checkLikeModel(t, x.a, x.b, x.ours, x.peers, x.c)
				checkSpendable(t, x.a, shared.ours, x.peers, x.c, modelSpendable(x.a, shared.ours, x.peers, x.c))
				checkOpen(t, shared.ours, x.peers, x.c.Peers, modelOpen(shared.ours, x.peers, x.c.Peers))
			}
		})
	}
	w.Wait()
}
