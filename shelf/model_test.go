package shelf

import (
	"math"
	"math/rand"
	"slices"
	"testing"

	"escrow/api"
	"escrow/seed"
)

// The tests hold the calls against the chapter's words, in which a shelf is its full places by their numbers.

const last = 1<<48 - 1

// put and read are what the two calls tell.
type put struct {
	list  []api.Slot
	errno api.Errno
}

type read struct {
	secret api.Hash
	errno  api.Errno
}

func gotPut(l []api.Slot, errno api.Errno) put { return put{l, errno} }

func gotRead(h api.Hash, errno api.Errno) read { return read{h, errno} }

func (p put) same(q put) bool { return p.errno == q.errno && slices.Equal(p.list, q.list) }

func inBounds(n int64) bool { return n >= 0 && n <= last }

func levelOf(n int64) int {
	level, _ := seed.Level(n)
	return level
}

func derived(h api.Hash, from, to int64) read { return gotRead(seed.Derive(h, from, to)) }

func secretOf(root api.Hash, n int64) api.Hash {
	h, _ := seed.Secret(root, n)
	return h
}

func holding(n int64, secret api.Hash) api.Slot {
	return api.Slot{Index: n, Secret: secret, Full: true}
}

func slotOf(root api.Hash, n int64) api.Slot { return holding(n, secretOf(root, n)) }

func notFull(s api.Slot) api.Slot {
	s.Full = false
	return s
}

func spoilt(h api.Hash) api.Hash {
	h[31] ^= 1
	return h
}

func hashByChance(r *rand.Rand) api.Hash {
	var h api.Hash
	r.Read(h[:])
	return h
}

// fullSlots is the full places of a shelf.
func fullSlots(l []api.Slot) map[int]api.Slot {
	full := map[int]api.Slot{}
	for j, slot := range l {
		if slot.Full {
			full[j] = slot
		}
	}
	return full
}

func saidPut(l []api.Slot, n int64, secret api.Hash) put {
	if len(l) > 49 {
		return put{nil, api.ErrArg}
	}
	if !inBounds(n) {
		return put{nil, api.ErrIndex}
	}
	full, level := fullSlots(l), levelOf(n)
	for j, slot := range full {
		if j < level && derived(secret, n, slot.Index) != (read{slot.Secret, api.OK}) {
			return put{nil, api.ErrSecret}
		}
	}
	full[level] = holding(n, secret)
	want := put{nil, api.OK}
	for j := 0; j <= 48; j++ {
		want.list = append(want.list, full[j])
	}
	return want
}

func saidGet(l []api.Slot, n int64) read {
	if len(l) > 49 {
		return read{api.Hash{}, api.ErrArg}
	}
	if !inBounds(n) {
		return read{api.Hash{}, api.ErrIndex}
	}
	want := read{api.Hash{}, api.ErrNone}
	full := fullSlots(l)
	for j := 48; j >= 0; j-- { // backwards: the first place speaks last
		if slot, ok := full[j]; ok {
			if d := derived(slot.Secret, slot.Index, n); d.errno == api.OK {
				want = d
			}
		}
	}
	return want
}

// checkPut and checkGet hold a call against the words, and its list against what it was.
func checkPut(t *testing.T, l []api.Slot, n int64, secret api.Hash) put {
	t.Helper()
	room := slices.Clone(l[:cap(l)])
	g, want := gotPut(Put(l, n, secret)), saidPut(l, n, secret)
	if !g.same(want) {
		t.Fatalf("P10.1: Put(%d slots, %d, %x) tells %v, want %v\nof %v", len(l), n, secret, g, want, l)
	}
	if !slices.Equal(room, l[:cap(l)]) {
		t.Fatalf("P10.1: Put(%d slots, %d, %x) has changed its list", len(l), n, secret)
	}
	return g
}

func checkGet(t *testing.T, l []api.Slot, n int64) read {
	t.Helper()
	room := slices.Clone(l[:cap(l)])
	g, want := gotRead(Get(l, n)), saidGet(l, n)
	if g != want {
		t.Fatalf("P10.1: Get(%d slots, %d) tells %v, want %v\nof %v", len(l), n, g, want, l)
	}
	if !slices.Equal(room, l[:cap(l)]) {
		t.Fatalf("P10.1: Get(%d slots, %d) has changed its list", len(l), n)
	}
	return g
}

// edges is the numbers at which the answers change.
func edges() []int64 {
	return []int64{math.MinInt64, -1, 0, 1, 1<<47 - 1, 1 << 47, 1<<48 - 2, 1<<48 - 1, 1 << 48, math.MaxInt64}
}

// withLevel is a number with a level, by chance.
func withLevel(r *rand.Rand, level int) int64 {
	if level == 48 {
		return last
	}
	return last - (r.Int63n(1<<(47-level))*2+1)<<level
}

// anyNumber is a number by chance: small, of any level, at an edge, or any at all.
func anyNumber(r *rand.Rand) int64 {
	switch r.Intn(4) {
	case 0:
		return r.Int63n(70)
	case 1:
		return withLevel(r, r.Intn(49))
	case 2:
		return edges()[r.Intn(len(edges()))]
	}
	return int64(r.Uint64())
}

// hanging is a number that hangs on another, by chance.
func hanging(r *rand.Rand, from int64) int64 { return from - r.Int63n(1<<levelOf(from)) }

// lesser is a number with a lower level that hangs on another one.
func lesser(r *rand.Rand, n int64, level int) int64 {
	first := n - (1<<levelOf(n) - 1)
	return first + (r.Int63n(1<<(levelOf(n)-level-1))*2+1)<<level - 1
}

// agreeing is a shelf whose places below a number's level are full or empty and agree with its secret; the others are by chance.
func agreeing(r *rand.Rand, n int64, secret api.Hash) []api.Slot {
	l := make([]api.Slot, r.Intn(50))
	for j := range l {
		l[j] = holding(anyNumber(r), hashByChance(r))
		if j < levelOf(n) {
			index := hanging(r, n)
			if r.Intn(4) > 0 {
				index = lesser(r, n, j)
			}
			l[j] = holding(index, derived(secret, n, index).secret)
		}
		l[j].Full = r.Intn(3) > 0
	}
	return l
}

// anyShelf is one of any length up to 51 with slots by chance, of which many are of one seed, here and there in a place that isn't theirs.
func anyShelf(r *rand.Rand, root api.Hash) []api.Slot {
	lengths := []int{0, 1, 2, 48, 49, 50, 51, r.Intn(10), r.Intn(50)}
	l := make([]api.Slot, lengths[r.Intn(len(lengths))], 60)
	for j := range l[:cap(l)] {
		n := anyNumber(r)
		if j < 49 && r.Intn(3) > 0 {
			n = withLevel(r, j)
		}
		slot := slotOf(root, n)
		if r.Intn(6) == 0 {
			slot.Secret = hashByChance(r)
		}
		slot.Full = r.Intn(3) > 0
		l[:cap(l)][j] = slot
	}
	return l
}
