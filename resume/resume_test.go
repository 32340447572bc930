package resume

import (
	"math"
	"math/rand"
	"slices"
	"strings"
	"testing"

	"escrow/api"
	"escrow/dance"
	"escrow/shelf"
)

func add(side int, id, amount int64) api.Update {
	return api.Update{Kind: api.Add, ID: id, Amount: amount, Hash: sum(preimage(side, id))}
}

// refused holds that an answer is an error alone.
func refused(t *testing.T, c api.Config, s api.State, m api.Message, errno api.Errno) {
	t.Helper()
	if l, e := Answer(c, s, m); e != errno || len(l) != 0 {
		t.Errorf("P18.1: Answer to %+v of %+v tells %+v, %d, want %d", m, shown(s), l, e, errno)
	}
}

func TestExample1(t *testing.T) {
	p := begin(t)
	c, s := p.c[0], p.s[0]
	mine := modelSecret(c.Seed, 0)
	if m := Hello(c, s); m != hello(1, 0, none) {
		t.Errorf("P18.1: Hello at the beginning tells %+v", m)
	}
	check(t, c, s, hello(1, 0, none), nil, api.OK)
	refused(t, c, s, hello(0, 0, none), api.ErrIndex)
	refused(t, c, s, hello(2, 0, none), api.ErrIndex)
	refused(t, c, s, hello(1, -1, none), api.ErrIndex)
	refused(t, c, s, hello(1, 1, none), api.ErrSecret)
	refused(t, c, s, hello(1, 1, full(1)), api.ErrSecret)
	refused(t, c, s, hello(1, 1, mine), api.ErrLost)
	refused(t, c, s, hello(1, 0, mine), api.ErrSecret)
	refused(t, c, s, hello(1, 0, full(1)), api.ErrSecret)
	refused(t, c, s, api.Message{Kind: api.MsgCommit, Index: 1}, api.ErrMessage)
}

func TestExample2(t *testing.T) {
	p := begin(t)
	p.offer(t, 0, 600)
	offered := api.Message{Kind: api.MsgAdd, Amount: 600, Hash: sum(preimage(0, 0))}
	check(t, p.c[0], p.s[0], hello(1, 0, none), []api.Message{offered}, api.OK)
	p.sign(t, 0)
	signed := dance.Again(p.c[0], p.s[0])
	if signed.Index != 1 {
		t.Fatalf("P18.1: the commitment is %+v", signed)
	}
	check(t, p.c[0], p.s[0], hello(1, 0, none), []api.Message{offered, signed}, api.OK)
	check(t, p.c[0], p.s[0], hello(2, 0, none), nil, api.OK)
}

// example3 is the two when side 1 has the commitment 1, and what it said to that is lost.
func example3(t *testing.T, signsFirst bool) *two {
	t.Helper()
	p := begin(t)
	p.offer(t, 0, 600)
	p.sign(t, 0)
	if signsFirst {
		p.offer(t, 1, 50)
		p.sign(t, 1)
	}
	p.deliver(t, 0)
	p.deliver(t, 0)
	return p
}

func TestExample3(t *testing.T) {
	revocation := modelReveal(configOf(1), 0)
	p := example3(t, false)
	check(t, p.c[1], p.s[1], hello(1, 0, none), []api.Message{revocation}, api.OK)
	p.sign(t, 1)
	commitment := dance.Again(p.c[1], p.s[1])
	check(t, p.c[1], p.s[1], hello(1, 0, none), []api.Message{revocation, commitment}, api.OK)

	p = example3(t, true)
	offered := api.Message{Kind: api.MsgAdd, Amount: 50, Hash: sum(preimage(1, 0))}
	commitment = dance.Again(p.c[1], p.s[1])
	check(t, p.c[1], p.s[1], hello(1, 0, none), []api.Message{offered, commitment, revocation}, api.OK)
}

// busy is a sound state of side 0 with something of all kinds to tell: two updates that both hold, two that are signed, two that are not.
func busy(behind bool) (api.Config, api.State) {
	c := configOf(0)
	s := api.State{Capacity: 1000, BaseOurs: 700, BasePeers: 300, Points: c.Points, Closed: -1, Behind: behind}
	s.Peers = []api.Update{add(1, 0, 5), add(1, 1, 6)}
	s.Ours = []api.Update{add(0, 0, 1), add(0, 1, 2), add(0, 2, 3), {Kind: api.Fail, ID: 1, Note: "no"}, {Kind: api.Fulfill, Hash: preimage(1, 0)}, add(0, 3, 4)}
	s.At, s.Held, s.Signed = counts(2, 2), counts(2, 2), counts(4, 2)
	s.Local, s.Acked, s.Remote = 9, 7, 8
	return c, s
}

// What is told hangs on what lacks, the order on Behind: each of the two hellos' numbers at each of its two values.
func TestWhatIsTold(t *testing.T) {
	for _, behind := range []bool{true, false} {
		c, s := busy(behind)
		revocation, commitment := modelReveal(c, 8), dance.Again(c, s)
		covered := []api.Message{{Kind: api.MsgAdd, ID: 2, Amount: 3, Hash: sum(preimage(0, 2))}, {Kind: api.MsgFail, ID: 1, Note: "no"}}
		rest := []api.Message{{Kind: api.MsgFulfill, Hash: preimage(1, 0)}, {Kind: api.MsgAdd, ID: 3, Amount: 4, Hash: sum(preimage(0, 3))}}
		got, lacks := modelSecret(c.Seed, 8), modelSecret(c.Seed, 7)
		check(t, c, s, hello(9, 9, got), rest, api.OK)
		check(t, c, s, hello(8, 9, got), slices.Concat(covered, []api.Message{commitment}, rest), api.OK)
		check(t, c, s, hello(9, 8, lacks), slices.Concat([]api.Message{revocation}, rest), api.OK)
		all := slices.Concat(covered, []api.Message{commitment, revocation}, rest)
		if behind {
			all = slices.Concat([]api.Message{revocation}, covered, []api.Message{commitment}, rest)
		}
		check(t, c, s, hello(8, 8, lacks), all, api.OK)
		// The peer has revoked: the commitment that it hasn't got can't be the one.
		s.Acked, s.Held = 8, s.Signed
		check(t, c, s, hello(9, 9, got), rest, api.OK)
		refused(t, c, s, hello(8, 9, got), api.ErrIndex)
	}
}

// Where several errors apply the first that is named is told.
func TestWhichErrorComesFirst(t *testing.T) {
	for _, behind := range []bool{true, false} {
		c, s := busy(behind)
		for _, index := range numbers() {
			for _, next := range numbers() {
				for _, secret := range []api.Hash{none, full(1), c.Seed, modelSecret(c.Seed, min(max(next-1, 0), top)), modelSecret(c.Seed, min(max(next, 0), top))} {
					for _, kind := range []int{math.MinInt, -1, 0, 1, 2, 3, 4, 5, 6, 7, 8, 6 + 256, math.MaxInt} {
						m := hello(index, next, secret)
						m.Kind = kind
						checkLikeModel(t, c, s, m)
					}
				}
			}
		}
		// With a right secret, each next and each index round about what is expected.
		for next := int64(5); next < 13; next++ {
			for index := int64(5); index < 13; index++ {
				m := hello(index, next, modelSecret(c.Seed, next-1))
				errno := checkLikeModel(t, c, s, m)
				want := api.ErrIndex
				switch {
				case next > 9:
					want = api.ErrLost
				case next >= 8 && (index == 8 || index == 9):
					want = api.OK
				}
				if errno != want {
					t.Errorf("P18.1: Answer to %+v tells %d, want %d", m, errno, want)
				}
			}
		}
	}
}

// Fields that a hello doesn't name are not looked at.
func TestOtherFieldsOfAHello(t *testing.T) {
	c, s := busy(true)
	for _, next := range []int64{7, 8, 9, 10} {
		m := hello(8, next, modelSecret(c.Seed, next-1))
		want, errno := modelAnswer(c, s, m)
		m.ID, m.Amount, m.Hash, m.Note = -4, math.MinInt64, full(9), strings.Repeat("n", 1000)
		check(t, c, s, m, want, errno)
	}
}

// What stands in a state beside what is named shows nowhere: a dead side answers as others do.
func TestDeadSidesAnswerToo(t *testing.T) {
	c, s := busy(true)
	m := hello(8, 8, modelSecret(c.Seed, 7))
	want, _ := modelAnswer(c, s, m)
	was := Hello(c, s)
	s.Failed, s.Closed, s.Sig = int(api.ErrSeal), 9, full(8)
	check(t, c, s, m, want, api.OK)
	if Hello(c, s) != was {
		t.Errorf("P18.1: Hello of a dead side tells %+v, want %+v", Hello(c, s), was)
	}
}

// At the last indexes: the next commitment's number is told as it is, and a revocation that there is none of is the zero message.
func TestLastIndexes(t *testing.T) {
	c, s := busy(true)
	for local := int64(top - 3); local <= top; local++ {
		for acked := int64(top - 3); acked < top; acked++ {
			s.Local, s.Acked, s.Remote = local, acked, acked+1
			if m := Hello(c, s); m != hello(local+1, acked, none) {
				t.Errorf("P18.1: Hello of %+v tells %+v", shown(s), m)
			}
			for next := int64(top - 5); next <= top+2; next++ {
				for index := int64(top - 3); index <= top+2; index++ {
					checkLikeModel(t, c, s, hello(index, next, modelSecret(c.Seed, min(next-1, top))))
					checkLikeModel(t, c, s, hello(index, next, none))
				}
			}
		}
	}
	s.Local = top
	l, e := Answer(c, s, hello(s.Remote+1, top-1, modelSecret(c.Seed, top-2)))
	if e != api.OK || len(l) != 3 || l[0] != (api.Message{}) {
		t.Errorf("P18.1: with no revocation to tell: %+v, %d", l, e)
	}
	s.Local = top - 1
	l, e = Answer(c, s, hello(s.Remote+1, top-2, modelSecret(c.Seed, top-3)))
	if e != api.OK || len(l) != 3 || l[0] != modelReveal(c, top-2) || l[0].Hash != sum(c.Seed) {
		t.Errorf("P18.1: the last revocation: %+v, %d", l, e)
	}
}

// The secret that a hello shows is what the shelf tells of the last index that was revoked.
func TestSecretOfHello(t *testing.T) {
	c, s := configOf(0), api.State{Closed: -1}
	for n := range int64(70) {
		s.Acked, s.Remote, s.Local = n, n, n+5
		want := none
		if n > 0 {
			want = modelSecret(seedOf(1), n-1)
		}
		if m := Hello(c, s); m != hello(n+6, n, want) {
			t.Errorf("P18.1: Hello behind %d revocations tells %+v", n, m)
		}
		s.Remote++
		if m := Hello(c, s); m != hello(n+6, n, want) {
			t.Errorf("P18.1: Hello with one under way, behind %d revocations, tells %+v", n, m)
		}
		l, e := shelf.Put(s.Shelf, n, modelSecret(seedOf(1), n))
		if e != api.OK {
			t.Fatalf("Put tells %d", e)
		}
		s.Shelf = l
	}
	s.Acked = 0
	if m := Hello(c, s); m.Secret != none {
		t.Errorf("P18.1: Hello ahead of all revocations shows %x", m.Secret)
	}
	s.Acked = 20
	if m := Hello(c, s); m.Secret != modelSecret(seedOf(1), 19) {
		t.Errorf("P18.1: Hello shows %x, want the secret of 19", m.Secret)
	}
	// Of a shelf that doesn't tell it: none.
	s.Acked = 71
	if m := Hello(c, s); m != hello(75, 71, none) {
		t.Errorf("P18.1: Hello with a shelf that ends ahead tells %+v", m)
	}
	s.Acked, s.Shelf = 20, append(s.Shelf, api.Slot{})
	if m := Hello(c, s); m != hello(75, 20, none) {
		t.Errorf("P18.1: Hello with a list that is no shelf tells %+v", m)
	}
}

// walked is a side that a walk by chance came to, perhaps with what the other one said behind what is covered.
func walked(t *testing.T, r *rand.Rand) (api.Config, api.State) {
	t.Helper()
	p := begin(t)
	for range r.Intn(80) {
		p.step(t, r)
	}
	side := r.Intn(2)
	return p.c[side], p.s[side]
}

// Of states that are sound, and of others, as far as the words say something of them.
func TestLikeTheModel(t *testing.T) {
	t.Parallel()
	r := rand.New(rand.NewSource(182))
	told, odd := map[api.Errno]int{}, 0
	for range 250 {
		c, s := walked(t, r)
		for range 40 {
			x := s
			switch r.Intn(4) {
			case 0:
				x.Local, x.Acked, x.Remote = x.Local+r.Int63n(1<<48), r.Int63n(1<<47), x.Remote-x.Acked
				x.Local, x.Remote = min(x.Local, top), x.Acked+x.Remote
			case 1:
				x = bend(r, x)
			case 2:
				x = bend(r, bend(r, x))
			}
			m := helloFor(r, c, x)
			if !fits(x) {
				odd++
				Answer(c, x, m)
				Hello(c, x)
				continue
			}
			told[checkLikeModel(t, c, x, m)]++
			if m := Hello(c, x); m.Kind != api.MsgHello || m.Index != x.Local+1 || m.Next != x.Acked {
				t.Errorf("P18.1: Hello of %+v tells %+v", shown(x), m)
			}
		}
		if t.Failed() {
			return
		}
	}
	for _, e := range []api.Errno{api.OK, api.ErrMessage, api.ErrSecret, api.ErrLost, api.ErrIndex} {
		if told[e] < 100 {
			t.Errorf("P18.1: %d was told only %d times", e, told[e])
		}
	}
	if odd < 500 {
		t.Errorf("P18.1: only %d odd states", odd)
	}
}
