package resume

import (
	"crypto/sha256"
	"math"
	"math/rand"
	"slices"
	"strings"
	"testing"

	"escrow/api"
	"escrow/dance"
)

// The chapter, said once more and otherwise: secrets by the library's sums, the errors as rows of which the first that holds counts, the messages as parts that are put in order.

const top = 281474976710655

func sum(h api.Hash) api.Hash { return sha256.Sum256(h[:]) }

func modelSecret(seed api.Hash, n int64) api.Hash {
	place := uint64(top - n)
	for b := 47; b >= 0; b-- {
		if place&(1<<b) != 0 {
			seed[b/8] ^= 1 << (b % 8)
			seed = sum(seed)
		}
	}
	return seed
}

// modelReveal is the revocation of an index; there is none of the last two, whose successors have no point.
func modelReveal(c api.Config, n int64) api.Message {
	if n > top-2 {
		return api.Message{}
	}
	return api.Message{Kind: 5, Index: n, Secret: modelSecret(c.Seed, n), Hash: sum(modelSecret(c.Seed, n+2))}
}

func says(updates []api.Update) []api.Message {
	var l []api.Message
	for _, u := range updates {
		l = append(l, api.Message{Kind: u.Kind, ID: u.ID, Amount: u.Amount, Hash: u.Hash, Note: u.Note})
	}
	return l
}

func modelErrno(c api.Config, s api.State, m api.Message) api.Errno {
	expected := []int64{s.Remote + 1}
	if s.Remote-s.Acked == 1 {
		expected = append(expected, s.Remote)
	}
	for _, row := range []struct {
		errno api.Errno
		holds bool
	}{
		{160, m.Kind != 6},
		{100, m.Next > top},
		{100, m.Next > 0 && m.Next <= top && m.Secret != modelSecret(c.Seed, m.Next-1)},
		{100, m.Next == 0 && m.Secret != none},
		{180, m.Next > s.Local},
		{90, m.Next < 0},
		{90, !slices.Contains([]int64{s.Local, s.Local - 1}, m.Next)},
		{90, !slices.Contains(expected, m.Index)},
	} {
		if row.holds {
			return row.errno
		}
	}
	return 0
}

func modelAnswer(c api.Config, s api.State, m api.Message) ([]api.Message, api.Errno) {
	if e := modelErrno(c, s, m); e != 0 {
		return nil, e
	}
	var revocation, commitment []api.Message
	if m.Next != s.Local {
		revocation = []api.Message{modelReveal(c, s.Local-1)}
	}
	if m.Index == s.Remote {
		commitment = append(says(s.Ours[s.Held.Ours:s.Signed.Ours]), dance.Again(c, s))
	}
	rest := says(s.Ours[s.Signed.Ours:])
	if s.Behind {
		return slices.Concat(revocation, commitment, rest), 0
	}
	return slices.Concat(commitment, revocation, rest), 0
}

// fits tells whether a state's indexes are indexes and the counts that are looked at count its updates: then the chapter's words say what is answered, sound or not.
func fits(s api.State) bool {
	index := func(n int64) bool { return 0 <= n && n <= top }
	return index(s.Local) && index(s.Remote) && index(s.Acked) && 0 <= s.Held.Ours && s.Held.Ours <= s.Signed.Ours && s.Signed.Ours <= len(s.Ours)
}

// What the tests choose from.

var none = api.Hash{}

func full(b byte) api.Hash { return api.Hash([]byte(strings.Repeat(string([]byte{b}), 32))) }

func counts(ours, peers int) api.Counts { return api.Counts{Ours: ours, Peers: peers} }

func preimage(side int, id int64) api.Hash { return api.Hash{byte(side), byte(id), byte(id >> 8), 77} }

func seedOf(side int) api.Hash { return full(byte(11 + side)) }

// configOf is a side's config; side 0 has 700 of 1000.
func configOf(side int) api.Config {
	other := seedOf(1 - side)
	return api.Config{
		Side: side, Capacity: 1000, Ours: []int64{700, 300}[side], Seed: seedOf(side), Key: full(byte(21 + side)), PeerKey: full(byte(22 - side)),
		Points: [2]api.Hash{sum(modelSecret(other, 0)), sum(modelSecret(other, 1))}, Segment: 4096,
	}
}

func hello(index, next int64, secret api.Hash) api.Message {
	return api.Message{Kind: api.MsgHello, Index: index, Next: next, Secret: secret}
}

func numbers() []int64 {
	return []int64{math.MinInt64, math.MinInt64 + 1, -top, -2, -1, 0, 1, 2, 3, 4, 5, 6, 7, 511, 2048, 1 << 32, top - 3, top - 2, top - 1, top, top + 1, top + 2, 1 << 60, math.MaxInt64 - 1, math.MaxInt64}
}

// near is a number that is one of few, and now and then any.
func near(r *rand.Rand, n int64) int64 {
	if r.Intn(12) == 0 {
		return numbers()[r.Intn(len(numbers()))]
	}
	return n + r.Int63n(5) - 2
}

// helloFor is a hello that a state answers more often than not.
func helloFor(r *rand.Rand, c api.Config, s api.State) api.Message {
	m := hello(s.Remote+r.Int63n(2), s.Local-r.Int63n(2), none)
	if r.Intn(5) == 0 {
		m.Index = near(r, m.Index)
	}
	if r.Intn(5) == 0 {
		m.Next = near(r, m.Next)
	}
	if m.Next > 0 {
		m.Secret = modelSecret(c.Seed, min(m.Next-1, top))
	}
	switch r.Intn(20) {
	case 0:
		m.Secret[r.Intn(32)] ^= 1 << r.Intn(8)
	case 1:
		m.Secret = none
	case 2:
		m.Kind = r.Intn(9) - 1
	case 3:
		// Fields that a hello doesn't name are not looked at.
		m.ID, m.Amount, m.Hash, m.Note = near(r, 0), near(r, 0), full(byte(r.Intn(256))), "note"
	}
	return m
}

// bend changes one thing of a state to anything.
func bend(r *rand.Rand, s api.State) api.State {
	n := numbers()[r.Intn(len(numbers()))]
	if r.Intn(2) == 0 {
		n = int64(r.Intn(len(s.Ours) + 2))
	}
	switch field := r.Intn(16); field {
	case 0:
		s.Local = n
	case 1:
		s.Remote = n
	case 2:
		s.Acked = n
	case 3:
		s.Acked, s.Remote = n, n+1
	case 4:
		s.Behind = !s.Behind
	case 5:
		s.Side, s.Capacity = int(n), n
	case 6:
		s.BaseOurs, s.BasePeers = n, n
	case 7:
		s.Shelf = make([]api.Slot, r.Intn(60))
	case 8:
		s.Ours = append(slices.Clone(s.Ours), api.Update{Kind: r.Intn(6) - 1, ID: n, Amount: n, Hash: full(3), Note: strings.Repeat("n", r.Intn(100))})
	case 9:
		s.Failed, s.Closed = int(n), n
	default:
		count := [...]*int{&s.At.Ours, &s.At.Peers, &s.Signed.Ours, &s.Signed.Peers, &s.Held.Ours, &s.Held.Peers}[field-10]
		*count = int(n)
	}
	return s
}

// shown is a state as a failure tells it.
func shown(s api.State) api.State {
	s.Ours, s.Peers, s.Shelf = s.Ours[:min(len(s.Ours), 5)], s.Peers[:min(len(s.Peers), 5)], nil
	return s
}

// check holds an answer against what is asked.
func check(t *testing.T, c api.Config, s api.State, m api.Message, want []api.Message, errno api.Errno) []api.Message {
	t.Helper()
	got, e := Answer(c, s, m)
	if e != errno || !slices.Equal(got, want) {
		t.Errorf("P18.1: Answer to %+v of %+v tells %+v, %d, want %+v, %d", m, shown(s), got, e, want, errno)
	}
	return got
}

// checkLikeModel holds an answer against the model's, and tells its error.
func checkLikeModel(t *testing.T, c api.Config, s api.State, m api.Message) api.Errno {
	t.Helper()
	want, errno := modelAnswer(c, s, m)
	check(t, c, s, m, want, errno)
	return errno
}
