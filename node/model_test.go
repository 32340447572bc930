package node

import (
	"fmt"
	"math/rand"
	"slices"
	"strings"
	"testing"

	"escrow/api"
	"escrow/channel"
	"escrow/dance"
	"escrow/disk"
	"escrow/frame"
	"escrow/msg"
	"escrow/record"
	"escrow/update"
)

// model is the chapter's words done row by row, with no panic: first what refuses a step, then the step, then what is so behind it.
type model struct {
	c                  api.Config
	d                  *disk.Disk
	ch                 *channel.Channel
	connected, greeted bool
}

func (m *model) do(s Step) Told {
	told := m.row(s)
	looks := s.Kind >= 1 && s.Kind <= 9 || s.Kind == 12 || s.Kind == 13
	if looks && m.d.Off() {
		m.ch, m.connected, m.greeted = nil, false, false
		return Told{Err: 9}
	}
	return told
}

func bytesOfAll(l []api.Message) []string {
	var out []string
	for _, x := range l {
		b, _ := msg.Write(x)
		out = append(out, b)
	}
	return out
}

func (m *model) row(s Step) Told {
	var l []api.Message
	var e api.Errno
	if s.Kind >= 1 && s.Kind <= 9 && m.ch == nil {
		return Told{Err: 9}
	}
	switch s.Kind {
	case 1:
		l, e = m.ch.Offer(s.Amount, s.Hash)
	case 2:
		l, e = m.ch.Settle(s.ID, s.Hash)
	case 3:
		l, e = m.ch.Refuse(s.ID, s.Note)
	case 4:
		if e = 8; m.connected && m.greeted {
			l, e = m.ch.Sign()
		}
	case 5:
		index, text, sig, e := m.ch.Close()
		return Told{Err: e, Index: index, Text: text, Sig: sig}
	case 6:
		return m.rowConnect()
	case 7:
		if !m.connected {
			return Told{Err: 8}
		}
		m.connected, m.greeted = false, false
		m.ch.Cut()
	case 8:
		return m.rowTake(s.Bytes)
	case 9:
		e = m.ch.Checkpoint()
	case 10:
		m.d.Arm(int(s.N), 0)
	case 11:
		m.d.Fall(int(s.N))
	case 12:
		m.d.Crash(s.Fates)
		m.d.On()
		m.d.Fall(int(s.N))
		m.connected, m.greeted = false, false
		m.ch, e = channel.Open(m.d, m.c)
	case 13:
		if m.ch != nil {
			return Told{Err: 8}
		}
		m.ch, e = channel.Open(m.d, m.c)
	default:
		return Told{Err: 1}
	}
	if e != 0 || s.Kind <= 3 && !(m.connected && m.greeted) {
		return Told{Err: e}
	}
	return Told{Out: bytesOfAll(l)}
}

func (m *model) rowConnect() Told {
	if m.connected {
		return Told{Err: 8}
	}
	if _, dead := m.ch.Dead(); dead {
		return Told{Err: 220}
	}
	m.connected, m.greeted = true, false
	return Told{Out: bytesOfAll([]api.Message{m.ch.Hello()})}
}

func (m *model) rowTake(bytes string) Told {
	var l []api.Message
	if !m.connected {
		return Told{Err: 8}
	}
	if _, dead := m.ch.Dead(); dead {
		return Told{Err: 220}
	}
	x, e := msg.Read(bytes)
	switch {
	case e != 0:
		// A channel fails with ErrMessage by a message of no kind.
		m.ch.Take(api.Message{Kind: 99})
	case m.greeted:
		l, e = m.ch.Take(x)
	default:
		l, e = m.ch.Answer(x)
		m.greeted = e == 0
	}
	code, dead := m.ch.Dead()
	if dead {
		return Told{Err: e, Out: bytesOfAll([]api.Message{{Kind: 7, Index: int64(code)}})}
	}
	if e != 0 {
		m.ch.Cut()
		m.connected, m.greeted = false, false
		return Told{Err: e}
	}
	return Told{Out: bytesOfAll(l)}
}

// twin is a side as a node and as the model, each on a disk of its own.
type twin struct {
	n *Node
	m *model
}

// alike: do the looks of both, and their disks, tell the same?
func (x twin) alike() bool {
	var s api.State
	mark, code, dead := int64(-1), 0, false
	if x.m.ch != nil {
		s, mark = x.m.ch.State(), x.m.ch.Mark()
		code, dead = x.m.ch.Dead()
	}
	c, d := x.n.Dead()
	return sameState(x.n.State(), s) && x.n.Mark() == mark && c == code && d == dead &&
		x.n.Up() == (x.m.ch != nil) && x.n.Connected() == x.m.connected && x.n.Greeted() == x.m.greeted &&
		whole(x.n.Disk()) == whole(x.m.d)
}

// player makes steps by chance of two sides, both of them twins, and of what they send lets the other take most.
type player struct {
	*rand.Rand
	side [2]twin
	pipe [2][]string
	said []string
	seen map[string]int
	// steady: nothing happens to the disks, and no message is changed.
	steady bool
	// spoilt: others have written on the disks, so that the gate isn't promised any more.
	spoilt bool
	// revealed is one above the greatest index of each side whose secret was told.
	revealed [2]int64
}

func pick[T any](r *rand.Rand, of ...T) T { return of[r.Intn(len(of))] }

// did makes a step of both twins; false: they don't tell the same.
func (p *player) did(side int, s Step) bool {
	x := p.side[side]
	was := x.n.Connected()
	got, want := x.n.Do(s), x.m.do(s)
	p.said = append(p.said, fmt.Sprintf("%d: step %d, %d, %d, %d, %x, %d fates: %v, the model %v", side, s.Kind, s.Amount, s.ID, s.N, s.Bytes, len(s.Fates), got, want))
	p.seen[fmt.Sprint(s.Kind, " ", int(want.Err), " ", min(len(want.Out), 2))]++
	if was && !x.m.connected {
		p.pipe = [2][]string{}
		p.seen[fmt.Sprint(s.Kind, " cuts")]++
	}
	p.pipe[side] = append(p.pipe[side], want.Out...)
	return sameTold(got, want) && x.alike() && p.gated(side, s, got)
}

// gated: is what was broadcast above all that was revealed? The peer may lie as it likes.
func (p *player) gated(side int, s Step, told Told) bool {
	for _, b := range told.Out {
		if m, _ := msg.Read(b); m.Kind == api.MsgRevoke {
			p.revealed[side] = max(p.revealed[side], m.Index+1)
		}
	}
	if s.Kind != Close || told.Err != api.OK || p.spoilt {
		return true
	}
	p.seen[fmt.Sprint("broadcast ", min(p.revealed[side], 1))]++
	return told.Index >= p.revealed[side]
}

// fates are some by chance: all lost, all kept, some of both, and now and then bytes of others.
func (p *player) fates() []api.Fate {
	var fates []api.Fate
	all := p.Intn(4)
	p.spoilt = p.spoilt || all == 3
	for _, file := range []string{"check", "check.tmp", "log.0", "log.1", "log.2", "mark", "mark.tmp"} {
		for n := range 40 {
			kind := all
			if all >= 2 {
				kind = p.Intn(all)
			}
			fates = append(fates, api.Fate{File: file, Sector: n, Kind: kind, Bytes: p.bytes(n)})
		}
	}
	return fates
}

// bytes are those of a frame that a log may have, or of none.
func (p *player) bytes(n int) string {
	r := api.Record{Kind: api.RecFailed, Code: 7}
	if p.Intn(2) == 0 {
		r = api.Record{Kind: api.RecClosed, Index: int64(p.Intn(2))}
	}
	payload, _ := record.Write(r)
	text, _ := frame.Frame(int64(n), pick(p.Rand, payload, payload, "x"))
	return pick(p.Rand, text, text, "?", "")
}

// disturbed is a step of what the world does to a side's disk.
func (p *player) disturbed(side int) bool {
	x := p.side[side]
	n := int64(p.Intn(7))
	switch p.Intn(30) {
	case 0, 1, 2, 3:
		return p.did(side, Step{Kind: Arm, N: n})
	case 4, 5, 6:
		return p.did(side, Step{Kind: Fall, N: n})
	case 7:
		return p.did(side, Step{Kind: Crash, N: pick(p.Rand, 0, n), Fates: p.fates()})
	case 8:
		if p.Intn(6) == 0 {
			p.said = append(p.said, fmt.Sprintf("%d: others take the power", side))
			x.n.Disk().Crash(nil)
			x.m.d.Crash(nil)
		}
	case 9:
		if p.Intn(12) == 0 {
			file := pick(p.Rand, "log.0", "mark", "check")
			p.said = append(p.said, fmt.Sprintf("%d: others remove %s", side, file))
			x.n.Disk().Remove(file)
			x.m.d.Remove(file)
			p.spoilt = true
		}
	}
	return true
}

// raised has a side that is down be up again, now and then in the wrong way.
func (p *player) raised(side int) bool {
	x := p.side[side]
	switch p.Intn(6) {
	case 0:
		return p.did(side, Step{Kind: pick(p.Rand, Open, Open, Connect, Offer, Arm, Fall, 0), N: int64(p.Intn(4))})
	case 1:
		p.said = append(p.said, fmt.Sprintf("%d: others give power", side))
		x.n.Disk().On()
		x.m.d.On()
		return p.did(side, Step{Kind: Arm, N: int64(max(0, p.Intn(6)-3))}) && p.did(side, Step{Kind: Open})
	}
	return p.did(side, Step{Kind: Crash, Fates: p.fates(), N: int64(max(0, p.Intn(9)-5))})
}

// changed is a message's bytes, most often as they are.
func (p *player) changed(b string) string {
	if p.steady || p.Intn(50) > 0 {
		return b
	}
	m, _ := msg.Read(b)
	switch p.Intn(7) {
	case 0:
		m.Index = pick[int64](p.Rand, 0, 1, 2, m.Index+1, 65535)
	case 1:
		m.Hash = named("another", 0)
	case 2:
		m.Secret = named("another", 1)
	case 3:
		m.ID, m.Amount = int64(p.Intn(4)), int64(p.Intn(800))
	case 4:
		m = api.Message{Kind: api.MsgError, Index: int64(p.Intn(4))}
	case 5:
		m = api.Message{Kind: api.MsgHello, Index: int64(p.Intn(3)), Next: int64(p.Intn(3)), Secret: secretOf(p.Intn(2), 0)}
	default:
		return pick(p.Rand, "", "x", b+"x", b[:len(b)/2])
	}
	c, e := msg.Write(m)
	if e != api.OK {
		return "x"
	}
	return c
}

// add is the ID of an add of the peer's, most often of one that may be removed.
func (p *player) add(s api.State) int64 {
	var open []int64
	for _, u := range s.Peers[:min(dance.Fixed(s).Peers, len(s.Peers))] {
		if _, gone := update.Removal(s.Ours, u.ID); u.Kind == api.Add && !gone {
			open = append(open, u.ID)
		}
	}
	if len(open) > 0 && p.Intn(5) > 0 {
		return pick(p.Rand, open...)
	}
	return p.Int63n(int64(len(s.Peers)) + 2)
}

// adds is how many of the updates are adds: the next one's ID.
func adds(l []api.Update) int64 {
	n := int64(0)
	for _, u := range l {
		if u.Kind == api.Add {
			n++
		}
	}
	return n
}

// proposal is a step of a side that says something of its own.
func (p *player) proposal(side int, s api.State) Step {
	id := p.add(s)
	switch p.Intn(12) {
	case 0, 1, 2:
		return offer(pick[int64](p.Rand, 1, 2, 5, 40, 40, 0, 100+p.Int63n(900)), sum(preimage(side, adds(s.Ours))))
	case 3, 4:
		return Step{Kind: Settle, ID: id, Hash: preimage(1-side, id)}
	case 5, 6:
		return Step{Kind: Refuse, ID: id, Note: strings.Repeat("n", pick(p.Rand, 0, 2, 64, 65))}
	}
	return step(Sign)
}

// played is one step of a side that is up.
func (p *player) played(side int) bool {
	x := p.side[side].m
	if len(p.pipe[1-side]) > 0 && p.Intn(3) > 0 {
		b := p.changed(p.pipe[1-side][0])
		p.pipe[1-side] = p.pipe[1-side][1:]
		return p.did(side, taking(b))
	}
	if !x.connected && (p.talk() && p.Intn(3) > 0 || p.Intn(12) == 0) {
		return p.join()
	}
	_, dead := x.ch.Dead()
	switch p.Intn(40) {
	case 0, 1:
		return p.did(side, step(Checkpoint))
	case 2:
		return p.did(side, step(pick(p.Rand, Disconnect, Connect, Open, 0, 14, -1)))
	case 3:
		if dead || p.Intn(10) == 0 {
			return p.did(side, step(Close))
		}
	case 4:
		if dead || p.Intn(20) == 0 {
			return p.did(side, taking(p.changed(bytesOfAll([]api.Message{x.ch.Hello()})[0])))
		}
	}
	return p.did(side, p.proposal(side, x.ch.State()))
}

// talk: are both sides up, and neither dead?
func (p *player) talk() bool {
	for _, x := range p.side {
		if x.m.ch == nil {
			return false
		}
		if _, dead := x.m.ch.Dead(); dead {
			return false
		}
	}
	return true
}

// join has both sides be connected anew; now and then one of them alone.
func (p *player) join() bool {
	for side := range 2 {
		if p.Intn(30) == 0 {
			continue
		}
		if p.side[side].m.connected && !p.did(side, step(Disconnect)) {
			return false
		}
	}
	p.pipe = [2][]string{}
	return p.did(0, step(Connect)) && p.did(1, step(Connect))
}

// cutTogether: where one side isn't connected any more the other is told so, most often.
func (p *player) cutTogether() bool {
	for side := range 2 {
		a, b := p.side[side].m, p.side[1-side].m
		if a.connected && !b.connected && p.Intn(20) > 0 {
			return p.did(side, step(Disconnect))
		}
	}
	return true
}

// over: both sides are dead, and have nothing more to say.
func (p *player) over() bool {
	for _, x := range p.side {
		if x.m.ch == nil {
			return false
		}
		if _, dead := x.m.ch.Dead(); !dead {
			return false
		}
	}
	return p.Intn(6) == 0
}

func (p *player) begin(t *testing.T) {
	capacity := pick(p.Rand, 1000, 3000, 1<<16, 1<<20)
	for side := range 2 {
		c := config(side)
		c.Segment = pick(p.Rand, 300, 1000, 4096)
		n, e := New(capacity, c)
		d, _ := disk.New(capacity)
		ch, _ := channel.Open(d, c)
		if e != api.OK || ch == nil {
			t.Fatalf("P23.1: New: %d", e)
		}
		p.side[side] = twin{n, &model{c: c, d: d, ch: ch}}
	}
}

// turn is one step of a side, and what happens to its disk.
func (p *player) turn() bool {
	side := p.Intn(2)
	ok := true
	if p.side[side].m.ch == nil {
		ok = p.raised(side)
	} else {
		ok = p.played(side)
	}
	return ok && p.cutTogether() && (p.steady || p.disturbed(side))
}

// P23.1, P23.2: every step answers as said, in every order, whatever comes and whatever the disk does, and does to the disk what is said and nothing else.
func TestAgainstModel(t *testing.T) {
	t.Parallel()
	seen := map[string]int{}
	for seed := range int64(500) {
		p := &player{Rand: rand.New(rand.NewSource(seed)), seen: seen}
		p.begin(t)
		p.steady = p.Intn(4) == 0
		for range 200 {
			if p.over() {
				break
			}
			if !p.turn() {
				t.Fatalf("P23.1, P23.2: seed %d: not as the model answers, or revealed and broadcast:\n%s", seed, strings.Join(p.said, "\n"))
			}
		}
	}
	for _, want := range []string{
		"1 0 0", "1 0 1", "1 9 0", "1 40 0", "1 41 0", "1 80 0", "1 130 0", "1 220 0",
		"2 0 0", "2 0 1", "2 9 0", "2 40 0", "2 120 0", "2 220 0", "3 0 0", "3 0 1", "3 9 0", "3 40 0", "3 120 0", "3 220 0",
		"4 0 1", "4 8 0", "4 9 0", "4 40 0", "4 220 0", "5 0 0", "5 9 0", "5 40 0", "5 180 0",
		"6 0 1", "6 8 0", "6 9 0", "6 220 0", "7 0 0", "7 8 0", "7 cuts",
		"8 0 0", "8 0 1", "8 0 2", "8 8 0", "8 9 0", "8 40 0", "8 41 0", "8 90 1", "8 100 1", "8 110 1", "8 120 1", "8 160 1", "8 220 0", "8 220 1", "8 cuts",
		"9 0 0", "9 9 0", "9 40 0", "9 41 0", "10 0 0", "11 0 0", "12 0 0", "12 9 0", "12 60 0", "12 210 0", "12 cuts", "13 0 0", "13 8 0", "13 9 0", "13 40 0", "0 1 0", "14 1 0", "-1 1 0",
		"broadcast 0", "broadcast 1",
	} {
		if seen[want] < 5 {
			t.Errorf("the play had %q %d times", want, seen[want])
		}
	}
	if t.Failed() {
		var all []string
		for k, v := range seen {
			all = append(all, fmt.Sprintf("%s: %d", k, v))
		}
		slices.Sort(all)
		t.Logf("%s", strings.Join(all, "\n"))
	}
}
