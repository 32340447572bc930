package dance

import (
	"math/rand"
	"slices"
	"strings"
	"testing"

	"escrow/api"
	"escrow/ledger"
)

// tally counts how often a call told an error, so that a walk shows that it went everywhere.
type tally map[string]map[api.Errno]int

func (n tally) saw(call string, e api.Errno) api.Errno {
	if n[call] == nil {
		n[call] = map[api.Errno]int{}
	}
	n[call][e]++
	return e
}

func (n tally) check(t *testing.T, call string, errors ...api.Errno) {
	t.Helper()
	for _, e := range errors {
		if n[call][e] < 10 {
			t.Errorf("the walk saw %s tell %d only %d times", call, e, n[call][e])
		}
	}
}

// checkSound holds that a state is sound, and that ledger takes every commitment that may come, with nothing lost in it.
func checkSound(t *testing.T, s api.State) {
	t.Helper()
	if why := unsound(s); why != "" {
		t.Fatalf("P15.2: %+v isn't sound: %s", s, why)
	}
	fixed := Fixed(s)
	for i := fixed.Ours; i <= len(s.Ours); i++ {
		for j := fixed.Peers; j <= len(s.Peers); j++ {
			l, e := ledger.Fold(s.BaseOurs, s.BasePeers, s.Ours, s.Peers, counts(i, j))
			all := l.Ours + l.Peers
			for _, p := range l.Open {
				all += p.Amount
			}
			if e != api.OK || l.Ours < 0 || l.Peers < 0 || all != s.Capacity {
				t.Fatalf("P15.2, P15.4: ledger tells %+v, %d of the counts %d, %d of %+v", l, e, i, j, s)
			}
		}
	}
}

// lone is a side whose peer does whatever it is let do.
type lone struct {
	c    api.Config
	s    api.State
	r    *rand.Rand
	seen tally
}

func (l *lone) chance(n int) bool { return l.r.Intn(n) == 0 }

// amountNear is an amount from 1 to what is left, often all of it, and at times one more.
func (l *lone) amountNear(left int64) int64 {
	switch l.r.Intn(6) {
	case 0:
		return left + 1
	case 1:
		return left
	}
	return 1 + l.r.Int63n(max(left, 1))
}

func (l *lone) offer(t *testing.T) {
	amount := l.amountNear(Spendable(l.s))
	if l.chance(20) {
		amount = []int64{0, -1, most + 1}[l.r.Intn(3)]
	}
	h := sum(preimage(l.s.Side, int64(len(addsOf(l.s.Ours)))))
	l.take(t, "Offer", func() (api.Record, api.Errno) { return checkOffer(t, l.s, amount, h) })
}

// anyID is an add of a list, and at times none.
func (l *lone) anyID(adds []api.Update) int64 { return int64(l.r.Intn(len(addsOf(adds)) + 1)) }

func (l *lone) remove(t *testing.T) {
	id := l.anyID(l.s.Peers)
	if l.chance(2) {
		note := strings.Repeat("n", l.r.Intn(66))
		l.take(t, "Refuse", func() (api.Record, api.Errno) { return checkRefuse(t, l.s, id, note) })
		return
	}
	p := preimage(1-l.s.Side, id)
	if l.chance(8) {
		p[31]++
	}
	l.take(t, "Settle", func() (api.Record, api.Errno) { return checkSettle(t, l.s, id, p) })
}

// hear has the peer propose something, which is right more often than not.
func (l *lone) hear(t *testing.T) {
	peer := 1 - l.s.Side
	var u api.Update
	switch l.r.Intn(5) {
	case 0, 1:
		u = add(peer, int64(len(addsOf(l.s.Peers))), l.amountNear(PeerSpendable(l.s)))
	case 2:
		u = fulfill(peer, l.anyID(l.s.Ours))
	case 3:
		u = fail(l.anyID(l.s.Ours), "no")
	case 4:
		u = api.Update{Kind: l.r.Intn(5), ID: int64(l.r.Intn(5) - 1), Amount: int64(l.r.Intn(3)), Note: strings.Repeat("n", l.r.Intn(2))}
	}
	if l.seen.saw("Heard", checkHeard(t, l.s, u)) == api.OK {
		l.s = heard(l.s, u)
	}
}

func (l *lone) come(t *testing.T) {
	m := comes(l.c, l.s)
	switch l.r.Intn(8) {
	case 0:
		m.Hash[l.r.Intn(32)] ^= 1 << l.r.Intn(8)
	case 1:
		m.Index += int64(l.r.Intn(3)) - 1
	}
	l.take(t, "Came", func() (api.Record, api.Errno) { return checkCame(t, l.c, l.s, m) })
}

func (l *lone) revoke(t *testing.T) {
	other := seedOf(1 - l.s.Side)
	m := api.Message{Kind: api.MsgRevoke, Index: l.s.Acked, Secret: modelSecret(other, l.s.Acked), Hash: modelPoint(other, l.s.Acked+2)}
	switch l.r.Intn(8) {
	case 0:
		m.Secret[l.r.Intn(32)] ^= 1 << l.r.Intn(8)
	case 1:
		m.Index += int64(l.r.Intn(3)) - 1
	}
	l.take(t, "Revoked", func() (api.Record, api.Errno) { return checkRevoked(t, l.s, m) })
}

// take applies what a call answers, if it isn't refused.
func (l *lone) take(t *testing.T, call string, ask func() (api.Record, api.Errno)) {
	t.Helper()
	if r, e := ask(); l.seen.saw(call, e) == api.OK {
		l.s = apply(l.s, r)
	}
}

func (l *lone) step(t *testing.T) {
	was, again := l.s.Remote, Again(l.c, l.s)
	switch l.r.Intn(12) {
	case 0, 1:
		l.offer(t)
	case 2, 3:
		l.remove(t)
	case 4, 5, 6:
		l.hear(t)
	case 7, 8:
		l.come(t)
	case 9:
		l.revoke(t)
	case 10:
		l.take(t, "Sign", func() (api.Record, api.Errno) { return checkSign(t, l.c, l.s) })
	case 11:
		if l.chance(4) {
			l.s = Cut(l.s)
		}
	}
	if l.s.Remote == was && Again(l.c, l.s) != again {
		t.Fatalf("P15.5: Again of %+v tells another signature without a Sign", l.s)
	}
}

// loneByChance is a side with a capacity that is soon used up, or a great one.
func loneByChance(r *rand.Rand, seen tally) *lone {
	capacity := []int64{1, 3, 20, 1000, most}[r.Intn(5)]
	c := configOf(r.Intn(2), capacity, r.Int63n(capacity+1))
	s, _ := Start(c)
	return &lone{c, s, r, seen}
}

func TestNobodyFallsBelow(t *testing.T) {
	seen := tally{}
	for seed := range int64(300) {
		l := loneByChance(rand.New(rand.NewSource(seed)), seen)
		for range 120 {
			l.step(t)
			checkSound(t, l.s)
			checkLooks(t, l.c, l.s)
			if t.Failed() {
				t.Fatalf("P15.2: in the walk of seed %d", seed)
			}
		}
	}
	seen.check(t, "Offer", api.OK, api.ErrAmount, api.ErrFunds)
	seen.check(t, "Settle", api.OK, api.ErrUpdate)
	seen.check(t, "Refuse", api.OK, api.ErrUpdate)
	seen.check(t, "Sign", api.OK, api.ErrState)
	seen.check(t, "Heard", api.OK, api.ErrUpdate, api.ErrFunds)
	seen.check(t, "Came", api.OK, api.ErrIndex, api.ErrState, api.ErrSeal)
	seen.check(t, "Revoked", api.OK, api.ErrIndex, api.ErrSecret)
}

// Each way to go on by a few steps, the peer doing all that is taken of it, with amounts of 1 and of all that is left.
func TestNobodyFallsBelowEitherWay(t *testing.T) {
	c := configOf(0, 3, 2)
	other := seedOf(1)
	states := 0
	var walk func(s api.State, steps int)
	walk = func(s api.State, steps int) {
		states++
		checkSound(t, s)
		if steps == 0 || t.Failed() {
			return
		}
		goOn := func(r api.Record, e api.Errno) {
			if e == api.OK {
				walk(apply(s, r), steps-1)
			}
		}
		mine, theirs := addsOf(s.Ours), addsOf(s.Peers)
		h := sum(preimage(0, int64(len(mine))))
		goOn(Offer(s, 1, h))
		goOn(Offer(s, max(Spendable(s), 2), h))
		for _, u := range theirs {
			goOn(Settle(s, u.ID, preimage(1, u.ID)))
			goOn(Refuse(s, u.ID, ""))
		}
		goOn(Sign(c, s))
		goOn(Came(c, s, comes(c, s)))
		goOn(Revoked(s, api.Message{Kind: api.MsgRevoke, Index: s.Acked, Secret: modelSecret(other, s.Acked), Hash: modelPoint(other, s.Acked+2)}))
		said := []api.Update{add(1, int64(len(theirs)), 1), add(1, int64(len(theirs)), max(PeerSpendable(s), 2))}
		for _, u := range mine {
			said = append(said, fulfill(1, u.ID), fail(u.ID, ""))
		}
		for _, u := range said {
			if Heard(s, u) == api.OK {
				walk(heard(s, u), steps-1)
			}
		}
	}
	s, _ := Start(c)
	walk(s, 12)
	if states < 100000 {
		t.Errorf("P15.2: only %d states", states)
	}
}

// Two sides and what is under way between them, in order.

type item struct {
	update  *api.Update
	message api.Message
}

// commitment is the owner and the index of one.
type commitment struct {
	owner int
	index int64
}

type two struct {
	c     [2]api.Config
	s     [2]api.State
	pipe  [2][]item
	again [2]api.Message
	texts map[commitment]string
	seen  tally
}

func begin(t *testing.T, capacity, mine int64) *two {
	t.Helper()
	p := &two{texts: map[commitment]string{}, seen: tally{}}
	for side := range 2 {
		p.c[side] = configOf(side, capacity, mine)
		p.s[side] = start(t, p.c[side])
		p.again[side] = Again(p.c[side], p.s[side])
	}
	return p
}

// propose puts an update that was answered behind what is under way.
func (p *two) propose(side int, call string, r api.Record, e api.Errno) bool {
	if p.seen.saw(call, e) != api.OK {
		return false
	}
	p.s[side] = apply(p.s[side], r)
	p.pipe[side] = append(p.pipe[side], item{update: &r.Update})
	return true
}

// note holds that a commitment has one text, and that its amounts are the capacity.
func (p *two) note(t *testing.T, owner int, index int64, text string, v view) {
	t.Helper()
	if was, ok := p.texts[commitment{owner, index}]; ok && was != text {
		t.Fatalf("P15.6: commitment %d of side %d has two texts: %x, %x", index, owner, was, text)
	}
	p.texts[commitment{owner, index}] = text
	if v.all() != p.c[0].Capacity {
		t.Fatalf("P15.4: commitment %d of side %d holds %d", index, owner, v.all())
	}
}

func (p *two) sign(t *testing.T, side int) bool {
	t.Helper()
	r, e := checkSign(t, p.c[side], p.s[side])
	if p.seen.saw("Sign", e) != api.OK {
		return false
	}
	p.s[side] = apply(p.s[side], r)
	p.again[side] = Again(p.c[side], p.s[side])
	p.pipe[side] = append(p.pipe[side], item{message: p.again[side]})
	text, _ := signedModel(p.s[side])
	v, _ := fold(p.s[side], r.Counts)
	p.note(t, 1-side, r.Index, text, v)
	return true
}

// deliver has the other side take the first of what a side has under way.
func (p *two) deliver(t *testing.T, side int) bool {
	t.Helper()
	if len(p.pipe[side]) == 0 {
		return false
	}
	x, to := p.pipe[side][0], 1-side
	p.pipe[side] = p.pipe[side][1:]
	switch {
	case x.update != nil:
		if e := checkHeard(t, p.s[to], *x.update); e != api.OK {
			t.Fatalf("P15.3: Heard of %+v tells %d of %+v", *x.update, e, p.s[to])
		}
		p.s[to] = heard(p.s[to], *x.update)
	case x.message.Kind == api.MsgCommit:
		p.come(t, to, x.message)
	default:
		p.s[to] = apply(p.s[to], must(t)(checkRevoked(t, p.s[to], x.message)))
	}
	return true
}

// come has a side take a signature, and answer it by the revocation of what it had.
func (p *two) come(t *testing.T, side int, m api.Message) {
	t.Helper()
	was := p.s[side].Local
	r := must(t)(checkCame(t, p.c[side], p.s[side], m))
	p.s[side] = apply(p.s[side], r)
	text, _ := ownModel(p.c[side], p.s[side], r.Index, p.s[side].At)
	v, _ := fold(p.s[side], p.s[side].At)
	p.note(t, side, r.Index, text, v)
	p.pipe[side] = append(p.pipe[side], item{message: Reveal(p.c[side], was)})
}

// cutOff loses all that is under way; then each side sends again what chapter 18 says, by what the other one has.
func (p *two) cutOff() {
	p.pipe = [2][]item{}
	p.s[0], p.s[1] = Cut(p.s[0]), Cut(p.s[1])
	for side := range 2 {
		s, other := p.s[side], p.s[1-side]
		var out []item
		updates := func(l []api.Update) {
			for _, u := range l {
				out = append(out, item{update: &u})
			}
		}
		reveal := func(behind bool) {
			if other.Acked == s.Local-1 && s.Behind == behind {
				out = append(out, item{message: Reveal(p.c[side], s.Local-1)})
			}
		}
		reveal(true)
		if other.Local+1 == s.Remote {
			updates(s.Ours[s.Held.Ours:s.Signed.Ours])
			out = append(out, item{message: Again(p.c[side], s)})
		}
		reveal(false)
		updates(s.Ours[s.Signed.Ours:])
		p.pipe[side] = out
	}
}

func (p *two) step(t *testing.T, r *rand.Rand) {
	t.Helper()
	side := r.Intn(2)
	l := lone{c: p.c[side], s: p.s[side], r: r}
	switch r.Intn(14) {
	case 0, 1:
		rec, e := checkOffer(t, l.s, l.amountNear(Spendable(l.s)), sum(preimage(side, int64(len(addsOf(l.s.Ours))))))
		p.propose(side, "Offer", rec, e)
	case 2, 3:
		id := l.anyID(l.s.Peers)
		rec, e := checkSettle(t, l.s, id, preimage(1-side, id))
		p.propose(side, "Settle", rec, e)
	case 4:
		rec, e := checkRefuse(t, l.s, l.anyID(l.s.Peers), "no")
		p.propose(side, "Refuse", rec, e)
	case 5, 6:
		p.sign(t, side)
	case 7:
		if r.Intn(10) == 0 {
			p.cutOff()
		}
	default:
		p.deliver(t, side)
	}
}

// check holds what is promised of both sides between two steps.
func (p *two) check(t *testing.T) {
	t.Helper()
	for side := range 2 {
		checkSound(t, p.s[side])
		if Again(p.c[side], p.s[side]) != p.again[side] {
			t.Fatalf("P15.5: Again of %+v tells another signature without a Sign", p.s[side])
		}
	}
}

// rest delivers and signs till there is nothing to do; then both have the same view.
func (p *two) rest(t *testing.T) {
	t.Helper()
	for busy := true; busy; {
		busy = false
		for side := range 2 {
			for p.deliver(t, side) {
				busy = true
			}
			busy = p.sign(t, side) || busy
		}
	}
	a, b := p.s[0], p.s[1]
	all := counts(len(a.Ours), len(a.Peers))
	if !slices.Equal(a.Ours, b.Peers) || !slices.Equal(a.Peers, b.Ours) || Fixed(a) != all || Fixed(turned(b)) != all || a.Local != b.Remote || b.Local != a.Remote {
		t.Fatalf("P15.3: at rest the two are %+v and %+v", a, b)
	}
	if Spendable(a) != PeerSpendable(b) || PeerSpendable(a) != Spendable(b) {
		t.Fatalf("P15.3: at rest the two may add %d, %d and %d, %d", Spendable(a), PeerSpendable(a), PeerSpendable(b), Spendable(b))
	}
}

func TestTwoViews(t *testing.T) {
	seen, commitments := tally{}, 0
	for seed := range int64(300) {
		r := rand.New(rand.NewSource(seed))
		capacity := []int64{1, 3, 20, 1000, most}[r.Intn(5)]
		p := begin(t, capacity, r.Int63n(capacity+1))
		p.seen = seen
		for k := range 150 {
			p.step(t, r)
			p.check(t)
			if k%50 == 49 {
				p.rest(t)
				p.check(t)
			}
			if t.Failed() {
				t.Fatalf("P15.3: in the walk of seed %d", seed)
			}
		}
		commitments += len(p.texts)
	}
	seen.check(t, "Offer", api.OK, api.ErrFunds)
	seen.check(t, "Settle", api.OK, api.ErrUpdate)
	seen.check(t, "Refuse", api.OK, api.ErrUpdate)
	seen.check(t, "Sign", api.OK, api.ErrState)
	if commitments < 2000 {
		t.Errorf("P15.6: only %d commitments", commitments)
	}
}

// As much as there may be: of open adds, of updates that wait, and of updates in all, what a side may do the other takes.
func TestToTheLimits(t *testing.T) {
	p := begin(t, 10000, 5000)
	offers := func(side, n int, want api.Errno) {
		t.Helper()
		for range n {
			r, e := Offer(p.s[side], 1, sum(preimage(side, int64(len(addsOf(p.s[side].Ours))))))
			if !p.propose(side, "Offer", r, e) {
				t.Fatalf("P15.1: side %d may not offer: %d", side, e)
			}
		}
		_, e := checkOffer(t, p.s[side], 1, full32(5))
		checkErrno(t, "one more Offer", e, want)
	}
	refuses := func(side, n int) {
		t.Helper()
		from := len(p.s[side].Ours) - len(addsOf(p.s[side].Ours))
		for i := range n {
			r, e := Refuse(p.s[side], int64(from+i), "no")
			if !p.propose(side, "Refuse", r, e) {
				t.Fatalf("P15.1: side %d may not refuse: %d", side, e)
			}
		}
	}
	for range 2 {
		offers(0, 483, api.ErrMany)
		offers(1, 483, api.ErrMany)
		p.rest(t)
		refuses(0, 483)
		refuses(1, 483)
		_, e := checkOffer(t, p.s[0], 1, full32(5))
		checkErrno(t, "Offer ahead of the removals", e, api.ErrMany)
		p.rest(t)
	}
	offers(0, api.MaxUpdates-len(p.s[0].Ours), api.ErrFull)
	p.rest(t)
	_, e := checkOffer(t, p.s[0], 1, full32(5))
	checkErrno(t, "Offer behind the last update", e, api.ErrFull)
	_, e = checkRefuse(t, p.s[0], 0, "")
	checkErrno(t, "Refuse of what is removed, behind the last update", e, api.ErrUpdate)
	for side := range 2 {
		if why := unsound(p.s[side]); why != "" {
			t.Errorf("P15.2: at the limits side %d isn't sound: %s", side, why)
		}
	}
}

// 512 updates may wait for the other side's revocation: adds and removals, and not one more.
func TestWaiting(t *testing.T) {
	p := begin(t, 10000, 5000)
	for id := range int64(100) {
		r, e := Offer(p.s[1], 1, sum(preimage(1, id)))
		p.propose(1, "Offer", r, e)
	}
	p.rest(t)
	for id := range int64(512) {
		r, e := Settle(p.s[0], id, preimage(1, id))
		if id >= 99 {
			r, e = Offer(p.s[0], 1, sum(preimage(0, id-99)))
		}
		if !p.propose(0, "all", r, e) {
			t.Fatalf("P15.1: the update %d is refused with %d", id, e)
		}
	}
	_, e := checkOffer(t, p.s[0], 1, full32(5))
	checkErrno(t, "Offer with 512 that wait", e, api.ErrFull)
	_, e = checkSettle(t, p.s[0], 99, preimage(1, 99))
	checkErrno(t, "Settle with 512 that wait", e, api.ErrFull)
	for p.deliver(t, 0) {
	}
	checkErrno(t, "Heard of one more", checkHeard(t, p.s[1], fail(0, "")), api.ErrMany)
	p.sign(t, 0)
	_, e = checkSettle(t, p.s[0], 99, preimage(1, 99))
	checkErrno(t, "Settle with 512 that are signed and not revoked", e, api.ErrFull)
	for p.deliver(t, 0) {
	}
	for p.deliver(t, 1) {
	}
	_, e = checkSettle(t, p.s[0], 99, preimage(1, 99))
	checkErrno(t, "Settle behind the revocation", e, api.OK)
	p.rest(t)
	p.check(t)
}
