package channel

import (
	"fmt"
	"math/rand"
	"slices"
	"testing"

	"escrow/api"
	"escrow/dance"
	"escrow/disk"
	"escrow/mark"
	"escrow/record"
	"escrow/seal"
	"escrow/shelf"
	"escrow/store"
)

// walk is two sides that talk, by the promises alone: what was told, what was under way, and what was sent.
type walk struct {
	*rand.Rand
	t      *testing.T
	config [2]api.Config
	d      [2]*disk.Disk
	c      [2]*Channel // nil: it isn't open
	pipe   [2][]api.Message
	joined bool
	// told is what State told behind the last call that left the power on, under the same with the batch of the call in which it went.
	told, under [2]api.State
	revealed    [2]int64
	signed      [2]map[int64]api.Message
	seen        map[string]int
}

func begin(t *testing.T, r *rand.Rand, seen map[string]int) *walk {
	t.Helper()
	p := &walk{Rand: r, t: t, revealed: [2]int64{-1, -1}, seen: seen}
	capacity, segment := pick(r, 5000, 30000, 1<<20, 1<<20), pick(r, 300, 1000, 4096, 1<<20)
	for side := range 2 {
		p.config[side] = config(side)
		p.config[side].Segment = segment
		p.d[side] = made(t, capacity)
		p.told[side] = start(t, side)
		p.under[side] = p.told[side]
		p.signed[side] = map[int64]api.Message{}
	}
	return p
}

// then is the state with the batch that a call makes, if it is let; the state alone, if it makes none.
func (p *walk) then(side int, s api.State, x call) api.State {
	m := &model{c: p.config[side], state: s}
	var r api.Record
	e := api.ErrNone
	switch {
	case x.kind == "Take" && x.m.Kind == api.MsgCommit:
		r, e = dance.Came(m.c, s, x.m)
	case x.kind == "Take" && x.m.Kind == api.MsgRevoke:
		r, e = dance.Revoked(s, x.m)
	case x.kind == "Close":
		r, e = api.Record{Kind: api.RecClosed, Index: s.Local}, api.OK
	case slices.Contains([]string{"Offer", "Settle", "Refuse", "Sign"}, x.kind):
		r, e = m.doing(x)
	}
	if e != api.OK {
		return s
	}
	next, e := record.Apply(s, r)
	is(p.t, "Apply", e, api.OK)
	return next
}

// durable is what a store and a mark tell on a copy of a side's disk, when all is lost that can be.
func (p *walk) durable(side int) (api.State, int64) {
	d := p.d[side].Copy()
	crash(d)
	m, e := mark.Open(d.Copy(), "mark")
	is(p.t, "P22.4: the durable mark", e, api.OK)
	s, e := store.Open(d, p.config[side])
	is(p.t, "P22.2: the durable state", e, api.OK)
	return s.State(), m.Value()
}

// look holds what is to be sent against what is durable, and against what was sent before.
func (p *walk) look(side int, l []api.Message) {
	p.t.Helper()
	s, mark := p.durable(side)
	if !sameState(s, dance.Cut(p.told[side])) {
		p.t.Fatalf("P22.2: side %d: durable is %s, and told %s", side, shown(s), shown(p.told[side]))
	}
	for _, m := range l {
		switch m.Kind {
		case api.MsgRevoke:
			if mark < m.Index || s.Local <= m.Index {
				p.t.Fatalf("P22.4: side %d reveals %d, with the mark %d and the commitment %d", side, m.Index, mark, s.Local)
			}
			p.revealed[side] = max(p.revealed[side], m.Index)
		case api.MsgCommit:
			old, twice := p.signed[side][m.Index]
			if twice && old != m {
				p.t.Fatalf("P22.5: side %d signs %+v and %+v", side, old, m)
			}
			if twice {
				p.seen["signed again"]++
			}
			p.signed[side][m.Index] = m
		}
	}
}

// broke: the connection is gone, and each side that is open cuts.
func (p *walk) broke() {
	p.joined, p.pipe = false, [2][]api.Message{}
	for side, c := range p.c {
		if c != nil {
			p.do(side, call{kind: "Cut"})
		}
	}
}

// do makes a call of an open side; false: it was refused.
func (p *walk) do(side int, x call) (answer, bool) {
	p.t.Helper()
	after := p.then(side, p.told[side], x)
	a := x.of(p.c[side])
	p.seen[fmt.Sprint(x.kind, " ", int(a.e))]++
	if p.d[side].Off() {
		p.c[side], p.under[side] = nil, dance.Cut(after)
		if a.e == api.OK || len(a.out) > 0 || a.text != "" {
			p.t.Fatalf("P22.3: side %d: %v tells %+v, with the power gone", side, x, a)
		}
		p.broke()
		return a, false
	}
	before := p.told[side]
	p.told[side] = p.c[side].State()
	if _, dead := p.c[side].Dead(); dead && x.kind != "Close" {
		p.t.Fatalf("P22.1: side %d is dead behind %v, which tells %+v", side, x, a)
	}
	if a.e == api.OK {
		p.look(side, a.out)
		return a, true
	}
	late := x.kind == "Take" && p.told[side].Local > before.Local
	if !late && !sameState(p.told[side], before) {
		p.t.Fatalf("P22.3: side %d: %v, refused with %d, makes\n%s of\n%s", side, x, a.e, shown(p.told[side]), shown(before))
	}
	if late {
		p.seen["the mark is refused"]++
	}
	if x.kind == "Take" || x.kind == "Answer" {
		p.broke()
	}
	return a, false
}

// send makes a call of an open side, and what it sends is under way, if there is a connection.
func (p *walk) send(side int, x call) {
	p.t.Helper()
	if a, ok := p.do(side, x); ok && p.joined {
		p.pipe[side] = append(p.pipe[side], a.out...)
	}
}

// open opens a side anew.
func (p *walk) open(side int) {
	p.t.Helper()
	c, e := Open(p.d[side], p.config[side])
	p.seen[fmt.Sprint("Open ", int(e))]++
	if e != api.OK {
		if c != nil || !slices.Contains([]api.Errno{api.ErrOff, api.ErrDisk, api.ErrSpace}, e) {
			p.t.Fatalf("P22.2: side %d: Open = %v, %d", side, c, e)
		}
		return
	}
	got, want := c.State(), dance.Cut(p.told[side])
	switch {
	case sameState(got, want):
	case sameState(got, p.under[side]):
		p.seen["the batch under way"]++
	default:
		p.t.Fatalf("P22.2: side %d: Open tells %s, want %s", side, shown(got), shown(want))
	}
	if c.Mark() != got.Local-1 {
		p.t.Fatalf("P22.4: side %d: Open tells the mark %d of %s", side, c.Mark(), shown(got))
	}
	p.c[side], p.told[side], p.under[side] = c, got, got
	p.look(side, nil)
}

// join has both sides, which are open, answer the hellos.
func (p *walk) join() {
	p.t.Helper()
	p.broke()
	if p.c[0] == nil || p.c[1] == nil {
		return
	}
	hellos := [2]api.Message{p.c[0].Hello(), p.c[1].Hello()}
	p.joined = true
	for side := range 2 {
		if p.joined {
			p.send(side, call{kind: "Answer", m: hellos[1-side]})
		}
	}
}

// deliver has a side take the next message.
func (p *walk) deliver(side int) bool {
	p.t.Helper()
	if p.c[side] == nil || len(p.pipe[1-side]) == 0 {
		return false
	}
	m := p.pipe[1-side][0]
	p.pipe[1-side] = p.pipe[1-side][1:]
	p.send(side, call{kind: "Take", m: m})
	return true
}

// propose makes a call by chance that says something to the peer.
func (p *walk) propose(side int) {
	p.t.Helper()
	s := p.told[side]
	player := &player{Rand: p.Rand}
	id := player.add(s)
	adds := int64(0)
	for _, u := range s.Ours {
		if u.Kind == api.Add {
			adds++
		}
	}
	switch p.Intn(6) {
	case 0, 1:
		p.send(side, call{kind: "Offer", n: 1 + p.Int63n(60), h: sum(preimage(side, adds))})
	case 2:
		p.send(side, call{kind: "Settle", n: id, h: preimage(1-side, id)})
	case 3:
		p.send(side, call{kind: "Refuse", n: id, m: api.Message{Note: "no"}})
	default:
		// A side signs when it was greeted.
		if p.joined {
			p.send(side, call{kind: "Sign"})
		}
	}
}

// trouble: the disk is to refuse something, or the power to go, now or later.
func (p *walk) trouble(side int) {
	switch p.Intn(40) {
	case 0, 1, 2:
		p.d[side].Arm(1+p.Intn(6), p.Intn(3))
	case 3, 4, 5:
		p.d[side].Fall(1 + p.Intn(6))
	case 6:
		p.c[side] = nil
		p.broke()
		p.power(side)
	}
}

// power goes, if it isn't gone, and comes back; none of the fates gives bytes.
func (p *walk) power(side int) {
	player := &player{Rand: p.Rand}
	fates := player.fates()
	for i := range 16 {
		for n := range 40 {
			fates = append(fates, api.Fate{File: fmt.Sprint("log.", i), Sector: n, Kind: p.Intn(2)})
		}
	}
	crash(p.d[side], fates...)
}

// tryClose: a side that was opened on a copy of the disk, behind a crash of any kind, broadcasts nothing that was revealed.
func (p *walk) tryClose(side int) {
	p.t.Helper()
	q := *p
	q.d[side] = p.d[side].Copy()
	q.power(side)
	c, e := Open(q.d[side], p.config[side])
	is(p.t, "P22.2: Open of a copy", e, api.OK)
	p.closes(side, c)
}

// closes: what is told is the commitment that counts, which the other side signed, and which wasn't revealed.
func (p *walk) closes(side int, c *Channel) {
	p.t.Helper()
	index, text, sig, e := c.Close()
	if e == api.ErrSpace || e == api.ErrFull {
		p.seen["no room to close"]++
		return
	}
	s := c.State()
	if e != api.OK || index != s.Local || index <= p.revealed[side] || s.Closed != index || text != modelText(s) {
		p.t.Fatalf("P22.4: side %d: Close tells %d, %d, and %d was revealed: %s", side, index, e, p.revealed[side], shown(s))
	}
	if signed := p.signed[1-side][index]; index > 0 && (!seal.Right(p.config[side].PeerKey, text, sig) || signed.Hash != sig) {
		p.t.Fatalf("P22.5: side %d: what Close tells of %d isn't what the peer signed", side, index)
	}
}

func (p *walk) step() {
	p.t.Helper()
	side := p.Intn(2)
	p.trouble(side)
	if p.d[side].Off() && p.Intn(3) > 0 {
		p.c[side] = nil
		p.power(side)
	}
	switch x := p.Intn(30); {
	case p.c[side] == nil:
		if p.Intn(4) == 0 {
			p.d[side].Fall(1 + p.Intn(4))
		} else if p.Intn(4) == 0 {
			p.d[side].Arm(1+p.Intn(4), p.Intn(3))
		}
		if !p.d[side].Off() {
			p.open(side)
		}
	case x == 0 || !p.joined && x < 15:
		p.join()
	case x == 1 || len(p.d[side].List()) > 8 && x < 9:
		p.send(side, call{kind: "Checkpoint"})
	case x == 2:
		p.tryClose(side)
	case x < 12:
		p.propose(side)
	default:
		if !p.deliver(side) {
			p.propose(side)
		}
	}
}

// calm has both sides up, joined and heard, with nothing under way; false: there is no room for that.
func (p *walk) calm() bool {
	p.t.Helper()
	for side := range 2 {
		p.d[side].Arm(0, disk.Any)
		p.d[side].Fall(0)
		if p.d[side].Off() {
			p.c[side] = nil
			p.power(side)
		}
		if p.c[side] == nil {
			p.open(side)
		}
		if p.c[side] == nil {
			return false
		}
		if _, ok := p.do(side, call{kind: "Checkpoint"}); !ok {
			return false
		}
	}
	p.join()
	for range 10 {
		for p.deliver(p.Intn(2)) || p.deliver(0) || p.deliver(1) {
		}
		for side := range 2 {
			p.send(side, call{kind: "Checkpoint"})
			p.send(side, call{kind: "Sign"})
		}
	}
	return true
}

// end: both hold the same, and each tells all secrets that it was told.
func (p *walk) end() {
	p.t.Helper()
	for side := range 2 {
		s, other := p.c[side].State(), p.c[1-side].State()
		if !p.joined || s.Remote != s.Acked || s.Local != other.Remote || !slices.Equal(s.Peers, other.Ours) || s.At != (api.Counts{Ours: len(s.Ours), Peers: len(s.Peers)}) || s.Held != s.At {
			p.t.Fatalf("P22.2: in the end side %d is %s, the other %s", side, shown(s), shown(other))
		}
		if p.c[side].Mark() != s.Local-1 {
			p.t.Fatalf("P22.4: in the end the mark of side %d is %d: %s", side, p.c[side].Mark(), shown(s))
		}
		for n := range s.Acked {
			if secret, e := shelf.Get(s.Shelf, n); e != api.OK || secret != secretOf(1-side, n) {
				p.t.Fatalf("P22.2: in the end the secret %d of the peer is %x, %d", n, secret, e)
			}
		}
	}
	for side := range 2 {
		p.tryClose(side)
		p.closes(side, p.c[side])
	}
}

// P22.2 to P22.5 over long walks of two sides that tell no lies, with crashes, breaks and refusals.
func TestWalks(t *testing.T) {
	t.Parallel()
	seen := map[string]int{}
	for seed := range int64(200) {
		p := begin(t, rand.New(rand.NewSource(seed)), seen)
		for range 300 {
			p.step()
			if t.Failed() {
				t.Fatalf("in the walk of seed %d", seed)
			}
		}
		if p.calm() {
			p.end()
			seen["to the end"]++
		}
		seen[fmt.Sprint("commitments ", min(p.told[0].Local, 8)/4*4)]++
	}
	for _, want := range []string{
		"Open 0", "Open 9", "Open 40", "Offer 0", "Offer 9", "Offer 40", "Offer 130", "Settle 0", "Settle 9", "Settle 40", "Refuse 0", "Refuse 9", "Refuse 40",
		"Sign 0", "Sign 8", "Sign 9", "Sign 40", "Take 0", "Take 9", "Take 40", "Answer 0", "Answer 9", "Checkpoint 0", "Checkpoint 9", "Checkpoint 40", "Checkpoint 41",
		"the batch under way", "the mark is refused", "signed again", "to the end", "commitments 0", "commitments 4",
	} {
		if seen[want] < 5 {
			t.Errorf("the walks had %q %d times: %v", want, seen[want], seen)
		}
	}
}
