package resume

import (
	"fmt"
	"math/rand"
	"slices"
	"strings"
	"testing"

	"escrow/api"
	"escrow/dance"
	"escrow/msg"
	"escrow/record"
)

// two is both sides, what is under way from each, as bytes, and all that each ever sent, in the order in which it went first.
type two struct {
	c    [2]api.Config
	s    [2]api.State
	pipe [2][]string
	sent [2][]string
}

func begin(t *testing.T) *two {
	t.Helper()
	p := &two{}
	for side := range 2 {
		p.c[side] = configOf(side)
		s, e := dance.Start(p.c[side])
		if e != api.OK {
			t.Fatalf("Start tells %d", e)
		}
		p.s[side] = s
	}
	return p
}

// copied is the two, which may go on another way.
func (p *two) copied() *two {
	q := *p
	for side := range 2 {
		q.pipe[side], q.sent[side] = slices.Clone(p.pipe[side]), slices.Clone(p.sent[side])
	}
	return &q
}

func wire(t *testing.T, m api.Message) string {
	t.Helper()
	b, e := msg.Write(m)
	if e != api.OK {
		t.Fatalf("P18.2: %+v has no bytes: %d", m, e)
	}
	return b
}

func (p *two) send(t *testing.T, side int, m api.Message) {
	t.Helper()
	b := wire(t, m)
	p.pipe[side] = append(p.pipe[side], b)
	if !slices.Contains(p.sent[side], b) {
		p.sent[side] = append(p.sent[side], b)
	}
}

// do applies what dance answered; false: it was refused.
func (p *two) do(t *testing.T, side int, r api.Record, e api.Errno) bool {
	t.Helper()
	if e != api.OK {
		return false
	}
	s, e := record.Apply(p.s[side], r)
	if e != api.OK {
		t.Fatalf("%+v isn't taken: %d", r, e)
	}
	p.s[side] = s
	return true
}

func (p *two) propose(t *testing.T, side int, r api.Record, e api.Errno) bool {
	t.Helper()
	done := p.do(t, side, r, e)
	if done {
		p.send(t, side, msg.Of(r.Update))
	}
	return done
}

func (p *two) offer(t *testing.T, side int, amount int64) bool {
	t.Helper()
	id := int64(0)
	for _, u := range p.s[side].Ours {
		if u.Kind == api.Add {
			id++
		}
	}
	r, e := dance.Offer(p.s[side], amount, sum(preimage(side, id)))
	return p.propose(t, side, r, e)
}

func (p *two) settle(t *testing.T, side int, id int64) bool {
	t.Helper()
	r, e := dance.Settle(p.s[side], id, preimage(1-side, id))
	return p.propose(t, side, r, e)
}

func (p *two) refuse(t *testing.T, side int, id int64) bool {
	t.Helper()
	r, e := dance.Refuse(p.s[side], id, "no")
	return p.propose(t, side, r, e)
}

func (p *two) sign(t *testing.T, side int) bool {
	t.Helper()
	r, e := dance.Sign(p.c[side], p.s[side])
	done := p.do(t, side, r, e)
	if done {
		p.send(t, side, dance.Again(p.c[side], p.s[side]))
	}
	return done
}

// deliver has the other side take the first of what a side has under way: it must.
func (p *two) deliver(t *testing.T, side int) bool {
	t.Helper()
	if len(p.pipe[side]) == 0 {
		return false
	}
	m, e := msg.Read(p.pipe[side][0])
	p.pipe[side] = p.pipe[side][1:]
	to := 1 - side
	s := p.s[to]
	if e == api.OK {
		e = p.take(t, to, m)
	}
	if e != api.OK {
		t.Fatalf("P18.2: side %d refuses %+v with %d: %+v", to, m, e, shown(s))
	}
	return true
}

func (p *two) take(t *testing.T, side int, m api.Message) api.Errno {
	t.Helper()
	s := p.s[side]
	if u, ok := msg.Update(m); ok {
		p.s[side].Peers = append(slices.Clone(s.Peers), u)
		return dance.Heard(s, u)
	}
	if m.Kind == api.MsgRevoke {
		r, e := dance.Revoked(s, m)
		p.do(t, side, r, e)
		return e
	}
	r, e := dance.Came(p.c[side], s, m)
	if p.do(t, side, r, e) {
		p.send(t, side, dance.Reveal(p.c[side], s.Local))
	}
	return e
}

// part is the break: what is under way is lost, and what wasn't covered is cut.
func (p *two) part() {
	p.pipe = [2][]string{}
	p.s[0], p.s[1] = dance.Cut(p.s[0]), dance.Cut(p.s[1])
}

// join has each side answer the other's hello, and holds what P18.2 says of the answers, which are under way then.
func (p *two) join(t *testing.T) {
	t.Helper()
	var hellos [2]api.Message
	for side, s := range p.s {
		hellos[side] = Hello(p.c[side], s)
		shows := none
		if s.Acked > 0 {
			shows = modelSecret(seedOf(1-side), s.Acked-1)
		}
		if hellos[side] != hello(s.Local+1, s.Acked, shows) {
			t.Fatalf("P18.1: Hello of %+v tells %+v", shown(s), hellos[side])
		}
	}
	for side := range 2 {
		m, e := msg.Read(wire(t, hellos[1-side]))
		if e != api.OK || m != hellos[1-side] {
			t.Fatalf("P18.2: the hello %+v is read as %+v, %d", hellos[1-side], m, e)
		}
		l, e := Answer(p.c[side], p.s[side], m)
		if e != api.OK {
			t.Fatalf("P18.2: Answer to %+v of %+v tells %d", m, shown(p.s[side]), e)
		}
		checkLikeModel(t, p.c[side], p.s[side], m)
		p.checkAgain(t, side, l)
		for _, m := range l {
			p.pipe[side] = append(p.pipe[side], wire(t, m))
		}
	}
}

// checkAgain holds that an answer is just what the other side hasn't got, and was sent before, in this order but for updates that the revocation now goes ahead of.
func (p *two) checkAgain(t *testing.T, side int, l []api.Message) {
	t.Helper()
	s, other := p.s[side], p.s[1-side]
	var want []string
	for _, m := range says(s.Ours[len(other.Peers):]) {
		want = append(want, wire(t, m))
	}
	if other.Local < s.Remote {
		want = append(want, wire(t, dance.Again(p.c[side], s)))
	}
	if other.Acked < s.Local {
		want = append(want, wire(t, modelReveal(p.c[side], other.Acked)))
	}
	places := make([]int, len(l))
	var got []string
	for i, m := range l {
		got = append(got, wire(t, m))
		places[i] = slices.Index(p.sent[side], got[i])
		if places[i] < 0 {
			t.Fatalf("P18.2: side %d tells %+v, which it never sent", side, m)
		}
		for j := range i {
			isLate := l[j].Kind == api.MsgRevoke && m.Kind <= api.MsgFail
			if places[j] == places[i] || places[j] > places[i] && !isLate {
				t.Fatalf("P18.2: side %d tells %+v ahead of %+v", side, l[j], m)
			}
		}
	}
	slices.Sort(got)
	slices.Sort(want)
	if !slices.Equal(got, want) {
		t.Fatalf("P18.2: side %d tells %+v of %+v, and the other has %+v", side, l, shown(s), shown(other))
	}
}

// drain delivers all that is under way, and what is said to it; then both have what the other has.
func (p *two) drain(t *testing.T, r *rand.Rand) {
	t.Helper()
	for len(p.pipe[0])+len(p.pipe[1]) > 0 {
		p.deliver(t, r.Intn(2))
	}
	for side, s := range p.s {
		other := p.s[1-side]
		if s.Remote != s.Acked || s.Local != other.Remote || !slices.Equal(s.Peers, other.Ours) {
			t.Fatalf("P18.2: when all has come side %d is %+v, the other %+v", side, shown(s), shown(other))
		}
	}
}

// checkBreak has the connection break here, on a way aside; half of what is said then is lost once more.
func (p *two) checkBreak(t *testing.T, r *rand.Rand) {
	t.Helper()
	q := p.copied()
	q.part()
	q.join(t)
	again := q.copied()
	q.drain(t, r)
	for range r.Intn(len(again.pipe[0]) + len(again.pipe[1]) + 1) {
		again.deliver(t, r.Intn(2))
	}
	again.part()
	again.join(t)
	again.drain(t, r)
}

func (p *two) step(t *testing.T, r *rand.Rand) {
	t.Helper()
	side := r.Intn(2)
	id := r.Int63n(int64(len(p.s[side].Peers)) + 1)
	switch r.Intn(16) {
	case 0:
		p.offer(t, side, 1+r.Int63n(60))
	case 1:
		p.settle(t, side, id)
	case 2:
		p.refuse(t, side, id)
	case 3, 4, 5, 6, 7:
		p.sign(t, side)
	default:
		p.deliver(t, side)
	}
}

// reconnect is a break in earnest; what a side proposes till the hellos come goes nowhere, as if it had been lost.
func (p *two) reconnect(t *testing.T, r *rand.Rand) {
	t.Helper()
	p.part()
	for range r.Intn(10) / 7 {
		p.offer(t, r.Intn(2), 1+r.Int63n(9))
	}
	p.pipe = [2][]string{}
	p.join(t)
}

func TestJustWhatIsMissing(t *testing.T) {
	t.Parallel()
	shapes := map[string]int{}
	for seed := range int64(150) {
		r := rand.New(rand.NewSource(seed))
		p := begin(t)
		for range 120 {
			p.step(t, r)
			p.checkBreak(t, r)
			if r.Intn(15) == 0 {
				p.reconnect(t, r)
				shapes[shape(t, p.pipe[0])]++
				shapes[shape(t, p.pipe[1])]++
			}
			if t.Failed() {
				t.Fatalf("P18.2: in the walk of seed %d", seed)
			}
		}
	}
	for _, s := range []string{"", "R", "C", "uC", "RC", "CR", "RuC", "uCR", "u", "Ru", "uCu", "RuCu", "uCRu"} {
		if shapes[s] < 3 {
			t.Errorf("P18.2: the walks saw only %d answers of the shape %q: %v", shapes[s], s, shapes)
		}
	}
}

// shape is the kinds of messages under way, updates in a row as one.
func shape(t *testing.T, pipe []string) string {
	t.Helper()
	s := ""
	for _, b := range pipe {
		switch m, _ := msg.Read(b); {
		case m.Kind == api.MsgCommit:
			s += "C"
		case m.Kind == api.MsgRevoke:
			s += "R"
		case s == "" || s[len(s)-1] != 'u':
			s += "u"
		}
	}
	return s
}

// key tells two from others: the hashes hang on what is told here. (No message's bytes are the beginning of another's, and none begins as what is put between.)
func (p *two) key() string {
	k := ""
	for side, s := range p.s {
		k += strings.Join(p.pipe[side], "") + "\xff" + strings.Join(p.sent[side], "") + "\xff"
		k += fmt.Sprint(s.Local, s.Remote, s.Acked, s.At, s.Signed, s.Held, s.Behind, len(s.Peers)) + "\xff"
	}
	return k
}

// Each way that two sides can go with few updates, breaks among the steps, till nothing new comes: the connection breaks everywhere.
func TestBreaksEverywhere(t *testing.T) {
	t.Parallel()
	r := rand.New(rand.NewSource(181))
	most := [2]int{2, 2}
	seen := map[string]bool{}
	work := []*two{begin(t)}
	visit := func(q *two, done bool) {
		if key := q.key(); done && !seen[key] {
			seen[key] = true
			work = append(work, q)
		}
	}
	for len(work) > 0 && !t.Failed() {
		p := work[len(work)-1]
		work = work[:len(work)-1]
		for side := range 2 {
			if len(p.s[side].Ours) < most[side] {
				q := p.copied()
				visit(q, q.offer(t, side, 5))
				q = p.copied()
				visit(q, q.refuse(t, side, 0))
			}
			q := p.copied()
			visit(q, q.sign(t, side))
			q = p.copied()
			visit(q, q.deliver(t, side))
		}
		q := p.copied()
		q.part()
		q.join(t)
		visit(q.copied(), true)
		q.drain(t, r)
	}
	if len(seen) < 30000 {
		t.Errorf("P18.2: only %d states", len(seen))
	}
}
