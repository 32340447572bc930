package commit

import (
	"encoding/binary"
	"math"
	"math/rand"
	"slices"
	"strings"

	"escrow/api"
)

// The chapter, said once more and otherwise: bytes by the library's binary numbers, each field read at its place, and a ledger held against what sorting makes of it.

// commitment is what a text says.
type commitment struct {
	owner int
	index int64
	point api.Hash
	l     api.Ledger
}

func (c commitment) text() (string, api.Errno) { return Text(c.owner, c.index, c.point, c.l) }

func sameCommitment(c, d commitment) bool {
	return c.owner == d.owner && c.index == d.index && c.point == d.point && same(c.l, d.l)
}

func same(l, m api.Ledger) bool {
	return l.Ours == m.Ours && l.Peers == m.Peers && slices.Equal(l.Open, m.Open)
}

// of is those of a list that are Ours, or those that are not, in their order.
func of(l []api.Pending, ours bool) []api.Pending {
	return slices.DeleteFunc(slices.Clone(l), func(p api.Pending) bool { return p.Ours != ours })
}

// rising tells whether IDs stand as a sorted list without doubles has them.
func rising(l []api.Pending) bool {
	var ids []int64
	for _, p := range l {
		ids = append(ids, p.ID)
	}
	sorted := slices.Clone(ids)
	slices.Sort(sorted)
	return slices.Equal(slices.Compact(sorted), ids)
}

func modelSound(l api.Ledger) bool {
	for _, a := range []int64{l.Ours, l.Peers} {
		if uint64(a) > 1152921504606846976 {
			return false
		}
	}
	for _, p := range l.Open {
		if uint64(p.ID) > math.MaxInt64 || p.Amount == 0 || uint64(p.Amount) > 1152921504606846976 {
			return false
		}
	}
	ours, others := of(l.Open, true), of(l.Open, false)
	if len(ours) > 483 || len(others) > 483 || !rising(ours) || !rising(others) {
		return false
	}
	return slices.Equal(append(ours, others...), l.Open)
}

// laid is the bytes of a commitment, sound or not, as far as its fields fit.
func laid(c commitment) string {
	b := binary.BigEndian.AppendUint64([]byte{byte(c.owner)}, uint64(c.index))
	b = append(b, c.point[:]...)
	b = binary.BigEndian.AppendUint64(b, uint64(c.l.Ours))
	b = binary.BigEndian.AppendUint64(b, uint64(c.l.Peers))
	b = binary.BigEndian.AppendUint16(b, uint16(len(c.l.Open)))
	for _, p := range c.l.Open {
		b = append(b, map[bool]byte{false: 0, true: 1}[p.Ours])
		b = binary.BigEndian.AppendUint64(b, uint64(p.ID))
		b = binary.BigEndian.AppendUint64(b, uint64(p.Amount))
		b = append(b, p.Hash[:]...)
	}
	return string(b)
}

func modelText(c commitment) (string, api.Errno) {
	if c.owner != 0 && c.owner != 1 || uint64(c.index) > 281474976710655 {
		return "", 1
	}
	if !modelSound(c.l) {
		return "", 4
	}
	return laid(c), 0
}

// at is the number of eight bytes that stands at a place.
func at(b string, place int) int64 {
	return int64(binary.BigEndian.Uint64([]byte(b[place : place+8])))
}

func modelRead(b string) (commitment, api.Errno) {
	if len(b) < 59 || len(b) != 59+49*(int(b[57])<<8+int(b[58])) {
		return commitment{}, 4
	}
	c := commitment{owner: int(b[0]), index: at(b, 1), point: api.Hash([]byte(b[9:41]))}
	c.l.Ours, c.l.Peers = at(b, 41), at(b, 49)
	for i := 59; i < len(b); i += 49 {
		if b[i] > 1 {
			return commitment{}, 4
		}
		c.l.Open = append(c.l.Open, api.Pending{Ours: b[i] == 1, ID: at(b, i+1), Amount: at(b, i+9), Hash: api.Hash([]byte(b[i+17 : i+49]))})
	}
	if _, e := modelText(c); e != 0 {
		return commitment{}, 4
	}
	return c, 0
}

func modelTurn(l api.Ledger) api.Ledger {
	t := api.Ledger{Ours: l.Peers, Peers: l.Ours, Open: slices.Clone(l.Open)}
	for i := range t.Open {
		t.Open[i].Ours = !l.Open[i].Ours
	}
	rank := map[bool]int{true: 0, false: 1}
	slices.SortStableFunc(t.Open, func(p, q api.Pending) int { return rank[p.Ours] - rank[q.Ours] })
	return t
}

// What the tests ask with.

func full(b byte) api.Hash { return api.Hash([]byte(strings.Repeat(string(rune(b)), 32))) }

func open(ours bool, id, amount int64) api.Pending {
	return api.Pending{Ours: ours, ID: id, Amount: amount, Hash: full(7)}
}

func ledgerOf(ours, peers int64, open ...api.Pending) api.Ledger {
	return api.Ledger{Ours: ours, Peers: peers, Open: open}
}

// many is open adds with IDs from 0 up.
func many(ours bool, n int) []api.Pending {
	var l []api.Pending
	for i := range n {
		l = append(l, open(ours, int64(i), int64(i)+1))
	}
	return l
}

func both(ours, others int) []api.Pending { return append(many(true, ours), many(false, others)...) }

// numbers is every number that an edge stands at, and such as differ in one byte.
func numbers() []int64 {
	l := []int64{0, 1, 2, 3, 255, 256, 257, 65535, 65536, 1<<31 - 1, 1 << 31, 1<<32 - 1, 1 << 32, 1<<48 - 2, 1<<48 - 1, 1 << 48, 1<<48 + 1, 1<<60 - 1, 1 << 60, 1<<60 + 1, 1 << 61, 1 << 62, 0x0102030405060708, math.MaxInt64 - 1, math.MaxInt64}
	for _, n := range slices.Clone(l) {
		l = append(l, -n)
	}
	return append(l, math.MinInt64, math.MinInt64+1, math.MinInt64+1<<60)
}

func hashByChance(r *rand.Rand) api.Hash {
	var h api.Hash
	r.Read(h[:])
	return h
}

func amountByChance(r *rand.Rand, least int64) int64 {
	switch r.Intn(4) {
	case 0:
		return least
	case 1:
		return 1 << 60
	case 2:
		return least + r.Int63n(300)
	}
	return least + r.Int63n(1<<60)
}

func risingByChance(r *rand.Rand, ours bool, n int) []api.Pending {
	var l []api.Pending
	id := r.Int63n(3)
	for range n {
		l = append(l, api.Pending{Ours: ours, ID: id, Amount: amountByChance(r, 1), Hash: hashByChance(r)})
		id += 1 + r.Int63n(1+int64(r.Intn(3))*(1<<50))
	}
	return l
}

func soundByChance(r *rand.Rand) api.Ledger {
	l := ledgerOf(amountByChance(r, 0), amountByChance(r, 0), risingByChance(r, true, r.Intn(5))...)
	l.Open = append(l.Open, risingByChance(r, false, r.Intn(5))...)
	return l
}

// oddByChance is any ledger, few of them sound.
func oddByChance(r *rand.Rand) api.Ledger {
	n := numbers()
	one := func() int64 { return n[r.Intn(len(n))] }
	l := ledgerOf(one(), one())
	for range r.Intn(8) {
		l.Open = append(l.Open, api.Pending{Ours: r.Intn(2) == 0, ID: one(), Amount: one(), Hash: full(byte(r.Intn(3)))})
	}
	return l
}

// bentByChance is a sound ledger with one thing changed: mostly unsound, and never by much.
func bentByChance(r *rand.Rand) api.Ledger {
	l := soundByChance(r)
	n := numbers()
	one := n[r.Intn(len(n))]
	if len(l.Open) == 0 {
		l.Ours = one
		return l
	}
	i, j := r.Intn(len(l.Open)), r.Intn(len(l.Open))
	switch r.Intn(8) {
	case 0:
		l.Ours = one
	case 1:
		l.Peers = one
	case 2:
		l.Open[i].ID = one
	case 3:
		l.Open[i].Amount = one
	case 4:
		l.Open[i].Ours = !l.Open[i].Ours
	case 5:
		l.Open[i], l.Open[j] = l.Open[j], l.Open[i]
	case 6:
		l.Open[i].ID = l.Open[j].ID
	case 7:
		l.Open = slices.Insert(l.Open, j, l.Open[i])
	}
	return l
}

func commitmentByChance(r *rand.Rand) commitment {
	index := []int64{0, 1, r.Int63n(1 << 48), 1<<48 - 1}[r.Intn(4)]
	return commitment{r.Intn(2), index, hashByChance(r), soundByChance(r)}
}
