package ledger

import (
	"math/rand"
	"slices"
	"testing"

	"escrow/api"
)

// channel is two lists that grow as P13.4 says, and how many of each are irrevocable.
type channel struct {
	base  [2]int64
	lists [2][]api.Update
	fixed [2]int
}

func (c channel) spendable(side int) int64 {
	return Spendable(c.base[side], c.lists[side], c.lists[1-side], api.Counts{Ours: c.fixed[side], Peers: c.fixed[1-side]})
}

// removable is the adds of the other list that a side may remove.
func (c channel) removable(side int) []api.Update {
	return slices.DeleteFunc(addsOf(c.lists[1-side][:c.fixed[1-side]]), func(u api.Update) bool { return fate(u, c.lists[side]) != 0 })
}

// with is the channel with one update more; the one that it was goes on beside it.
func (c channel) with(side int, u api.Update) channel {
	c.lists[side] = append(slices.Clone(c.lists[side]), u)
	return c
}

// freeID is an ID that no add of a list has.
func (c channel) freeID(side int, from int64) int64 {
	for slices.ContainsFunc(c.lists[side], func(u api.Update) bool { return u.Kind == api.Add && u.ID == from }) {
		from = (from + 1) % 2048
	}
	return from
}

// checkTakes holds that Fold takes all counts that are at least the irrevocable ones, and that nothing is lost in any.
func checkTakes(t *testing.T, c channel) {
	t.Helper()
	for n := c.fixed[0]; n <= len(c.lists[0]); n++ {
		for m := c.fixed[1]; m <= len(c.lists[1]); m++ {
			l, e := Fold(c.base[0], c.base[1], c.lists[0], c.lists[1], api.Counts{Ours: n, Peers: m})
			all := l.Ours + l.Peers
			for _, p := range l.Open {
				all += p.Amount
			}
			if e != api.OK || l.Ours < 0 || l.Peers < 0 || all != c.base[0]+c.base[1] {
				t.Fatalf("P13.4: Fold(%v, %v, irrevocable %v) of %d, %d tells %v, %d", c.base, c.lists, c.fixed, n, m, l, e)
			}
		}
	}
}

// step is the channel behind one step by chance.
func step(r *rand.Rand, c channel) channel {
	side := r.Intn(2)
	switch r.Intn(5) {
	case 0:
		c.fixed[side] += r.Intn(len(c.lists[side]) - c.fixed[side] + 1)
	case 1, 2:
		if l := c.removable(side); len(l) > 0 {
			id := l[r.Intn(len(l))].ID
			return c.with(side, []api.Update{fulfill(id), fail(id)}[r.Intn(2)])
		}
	default:
		m := c.spendable(side)
		if m > 0 && r.Intn(3) > 0 {
			m = 1 + r.Int63n(m)
		}
		if m > 0 {
			return c.with(side, add(c.freeID(side, r.Int63n(2048)), m))
		}
	}
	return c
}

func TestNobodyFallsBelow(t *testing.T) {
	kinds, nothing := map[int]int{}, 0
	for seed := range int64(400) {
		r := rand.New(rand.NewSource(seed))
		great := []int64{3, 20, 1000, most}[r.Intn(4)]
		mine := r.Int63n(great + 1)
		c := channel{base: [2]int64{mine, great - mine}}
		for range 60 {
			c = step(r, c)
			if c.spendable(0) == 0 && c.spendable(1) == 0 {
				nothing++
			}
			checkTakes(t, c)
		}
		for _, u := range append(slices.Clone(c.lists[0]), c.lists[1]...) {
			kinds[u.Kind]++
		}
	}
	if kinds[api.Add] < 1000 || kinds[api.Fulfill] < 300 || kinds[api.Fail] < 300 || nothing < 100 {
		t.Errorf("P13.4: the lists hold only %v, and nothing was left %d times", kinds, nothing)
	}
}

// Every way to grow by a few steps: each takes all that is left or one, removes what it may, or one more is irrevocable.
func TestNobodyFallsBelowEitherWay(t *testing.T) {
	seen := 0
	var grow func(c channel, steps int)
	grow = func(c channel, steps int) {
		seen++
		checkTakes(t, c)
		if steps == 0 || t.Failed() {
			return
		}
		for side := range 2 {
			if c.fixed[side] < len(c.lists[side]) {
				more := c
				more.fixed[side]++
				grow(more, steps-1)
			}
			id := c.freeID(side, 0)
			if m := c.spendable(side); m > 0 {
				grow(c.with(side, add(id, m)), steps-1)
				if m > 1 {
					grow(c.with(side, add(id, 1)), steps-1)
				}
			}
			for _, u := range c.removable(side) {
				grow(c.with(side, fulfill(u.ID)), steps-1)
				grow(c.with(side, fail(u.ID)), steps-1)
			}
		}
	}
	for _, base := range [][2]int64{{2, 1}, {3, 0}, {0, 1}} {
		grow(channel{base: base}, 9)
	}
	if seen < 10000 {
		t.Errorf("P13.4: only %d channels", seen)
	}
}

// The whole of what is left may be offered, to and fro, as long as what came is irrevocable.
func TestAllOfItToAndFro(t *testing.T) {
	c := channel{base: [2]int64{most, 0}}
	for round := range int64(300) {
		for side := range 2 {
			if left := [2]int64{c.spendable(side), c.spendable(1 - side)}; left != [2]int64{most, 0} {
				t.Fatalf("P13.4: in round %d side %d may add %v", round, side, left)
			}
			c = c.with(side, add(round, most))
			c.fixed[side] = len(c.lists[side])
			if n := Open(c.lists[side], c.lists[1-side], c.fixed[1-side]); n != 1 || c.spendable(0)+c.spendable(1) != 0 {
				t.Fatalf("P13.4: in round %d %d are open", round, n)
			}
			c = c.with(1-side, fulfill(round))
			if c.spendable(0)+c.spendable(1) != 0 {
				t.Fatalf("P13.4: in round %d what isn't irrevocable may be added", round)
			}
			checkTakes(t, c)
			c.fixed[1-side] = len(c.lists[1-side])
			checkTakes(t, c)
		}
	}
}
