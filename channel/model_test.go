package channel

import (
	"fmt"
	"math/rand"
	"slices"
	"strings"
	"testing"

	"escrow/api"
	"escrow/commit"
	"escrow/dance"
	"escrow/disk"
	"escrow/gate"
	"escrow/ledger"
	"escrow/record"
	"escrow/resume"
	"escrow/store"
	"escrow/update"
)

// model is the chapter's words done one by one: it has the whole state in memory and goes on by record's Apply, beside a store that is told the same.
type model struct {
	c     api.Config
	store *store.Store
	state api.State
}

func modelOpen(d *disk.Disk, c api.Config) (*model, api.Errno) {
	st, e := store.Open(d, c)
	if e != 0 {
		return nil, e
	}
	m := &model{c, st, st.State()}
	switch l := m.state.Local; {
	case st.Mark() == max(l-2, -1) && l > 0:
		if e := st.Raise(l - 1); e != 0 {
			return nil, e
		}
	case st.Mark() > l-1 || st.Mark() < l-2:
		m.fail(180)
	}
	return m, 0
}

func (m *model) dead() bool { return m.state.Failed != 0 || m.state.Closed != -1 }

func (m *model) do(r api.Record) api.Errno {
	e := m.store.Do([]api.Record{r})
	if e == 0 {
		m.state, e = record.Apply(m.state, r)
	}
	return e
}

func (m *model) fail(code int) {
	if m.state.Failed == 0 {
		m.do(api.Record{Kind: api.RecFailed, Code: code})
		m.state.Failed = code
	}
}

// doing is the record that a call of mine makes, if it is none of the peer's doing.
func (m *model) doing(x call) (api.Record, api.Errno) {
	switch x.kind {
	case "Offer":
		return dance.Offer(m.state, x.n, x.h)
	case "Settle":
		return dance.Settle(m.state, x.n, x.h)
	case "Refuse":
		return dance.Refuse(m.state, x.n, x.m.Note)
	}
	return dance.Sign(m.c, m.state)
}

func (m *model) own(x call) answer {
	if m.dead() {
		return answer{e: 220}
	}
	r, e := m.doing(x)
	if e == 0 {
		e = m.do(r)
	}
	if e != 0 {
		return answer{e: e}
	}
	u := r.Update
	switch x.kind {
	case "Offer":
		return answer{out: []api.Message{{Kind: 1, ID: u.ID, Amount: u.Amount, Hash: u.Hash}}}
	case "Settle":
		return answer{out: []api.Message{{Kind: 2, ID: u.ID, Hash: u.Hash}}}
	case "Refuse":
		return answer{out: []api.Message{{Kind: 3, ID: u.ID, Note: u.Note}}}
	}
	return answer{out: []api.Message{dance.Again(m.c, m.state)}}
}

func (m *model) take(x api.Message) answer {
	var r api.Record
	var e api.Errno
	switch {
	case m.dead():
		return answer{e: 220}
	case x.Kind >= 1 && x.Kind <= 3:
		u := api.Update{Kind: x.Kind, ID: x.ID, Amount: x.Amount, Hash: x.Hash, Note: x.Note}
		if e = dance.Heard(m.state, u); e == 0 {
			m.state.Peers = append(slices.Clone(m.state.Peers), u)
			return answer{}
		}
	case x.Kind == 4:
		r, e = dance.Came(m.c, m.state, x)
	case x.Kind == 5:
		r, e = dance.Revoked(m.state, x)
	case x.Kind == 7 && x.Index >= 1 && x.Index <= 65535:
		m.fail(int(x.Index))
		return answer{e: 220}
	case x.Kind == 7:
		m.fail(160)
		return answer{e: 220}
	default:
		e = 160
	}
	if e != 0 {
		m.fail(int(e))
		return answer{e: e}
	}
	was := m.state.Local
	if e := m.do(r); e != 0 || x.Kind == 5 {
		return answer{e: e}
	}
	if e := m.store.Raise(was); e != 0 {
		return answer{e: e}
	}
	return answer{out: []api.Message{dance.Reveal(m.c, was)}}
}

func (m *model) answer(x api.Message) answer {
	if m.dead() {
		return answer{e: 220}
	}
	if x.Kind != 6 {
		m.fail(160)
		return answer{e: 160}
	}
	if m.store.Mark() < m.state.Local-1 {
		if e := m.store.Raise(m.state.Local - 1); e != 0 {
			return answer{e: e}
		}
	}
	l, e := resume.Answer(m.c, m.state, x)
	if e != 0 {
		m.fail(int(e))
	}
	return answer{out: l, e: e}
}

// modelText is the text of a side's commitment that counts.
func modelText(s api.State) string {
	l, _ := ledger.Fold(s.BaseOurs, s.BasePeers, s.Ours, s.Peers, s.At)
	text, _ := commit.Text(s.Side, s.Local, sum(secretOf(s.Side, s.Local)), l)
	return text
}

func (m *model) close() answer {
	s := m.state
	told := answer{index: s.Local, sig: s.Sig}
	told.text = modelText(s)
	switch {
	case s.Failed == 180:
		return answer{e: 180}
	case s.Closed != -1:
		return told
	case !gate.Of(m.store.Mark(), s).MayBroadcast(s.Local):
		return answer{e: 200}
	}
	if e := m.do(api.Record{Kind: api.RecClosed, Index: s.Local}); e != 0 {
		return answer{e: e}
	}
	return told
}

// call is one of a channel's; n, h and m are what it is handed.
type call struct {
	kind string
	n    int64
	h    api.Hash
	m    api.Message
}

func (x call) String() string {
	return fmt.Sprintf("%s(%d, %x, %+v)", x.kind, x.n, x.h[:2], x.m)
}

// answer is what a call answers.
type answer struct {
	out   []api.Message
	index int64
	text  string
	sig   api.Hash
	e     api.Errno
}

func (a answer) same(b answer) bool {
	return slices.Equal(a.out, b.out) && a.index == b.index && a.text == b.text && a.sig == b.sig && a.e == b.e
}

func (x call) of(c *Channel) answer {
	var a answer
	switch x.kind {
	case "Offer":
		a.out, a.e = c.Offer(x.n, x.h)
	case "Settle":
		a.out, a.e = c.Settle(x.n, x.h)
	case "Refuse":
		a.out, a.e = c.Refuse(x.n, x.m.Note)
	case "Sign":
		a.out, a.e = c.Sign()
	case "Take":
		a.out, a.e = c.Take(x.m)
	case "Answer":
		a.out, a.e = c.Answer(x.m)
	case "Hello":
		a.out = []api.Message{c.Hello()}
	case "Cut":
		c.Cut()
	case "Close":
		a.index, a.text, a.sig, a.e = c.Close()
	case "Checkpoint":
		a.e = c.Checkpoint()
	}
	return a
}

func (x call) ofModel(m *model) answer {
	switch x.kind {
	case "Take":
		return m.take(x.m)
	case "Answer":
		return m.answer(x.m)
	case "Hello":
		return answer{out: []api.Message{resume.Hello(m.c, m.state)}}
	case "Cut":
		m.state = dance.Cut(m.state)
		return answer{}
	case "Close":
		return m.close()
	case "Checkpoint":
		return answer{e: m.store.Checkpoint()}
	}
	return m.own(x)
}

// twin is a side as a channel on one disk and as the model on another.
type twin struct {
	d, e *disk.Disk
	c    *Channel
	m    *model
}

// player makes calls by chance of two sides, both of them twins, and of what they send lets the other take most.
type player struct {
	*rand.Rand
	side [2]twin
	pipe [2][]api.Message
	// broken: the connection is worth nothing till the next hellos.
	broken bool
	said   []string
	seen   map[string]int
}

func pick[T any](r *rand.Rand, of ...T) T { return of[r.Intn(len(of))] }

// disks does one thing to both disks of a side, and says what.
func (p *player) disks(side int, what string, do func(d *disk.Disk)) {
	do(p.side[side].d)
	do(p.side[side].e)
	p.said = append(p.said, fmt.Sprintf("%d: %s", side, what))
}

// opened opens both anew; false: they don't answer the same.
func (p *player) opened(side int) bool {
	x := &p.side[side]
	c, e := Open(x.d, config(side))
	m, f := modelOpen(x.e, config(side))
	p.said = append(p.said, fmt.Sprintf("%d: Open: %d", side, f))
	p.seen[fmt.Sprint("Open ", int(f))]++
	if m != nil && m.state.Failed == 180 {
		p.seen["Open, lost"]++
	}
	x.c, x.m, p.broken = c, m, true
	return e == f && (c == nil) == (m == nil)
}

func (p *player) fates() []api.Fate {
	var fates []api.Fate
	all := p.Intn(3)
	for _, file := range []string{"check", "check.tmp", "log.0", "log.1", "log.2", "mark", "mark.tmp"} {
		for n := range 40 {
			kind := all
			if all == 2 {
				kind = p.Intn(2)
			}
			fates = append(fates, api.Fate{File: file, Sector: n, Kind: kind})
		}
	}
	return fates
}

// disturb is what the world does to a side's disks.
func (p *player) disturb(side int) {
	n, what := 1+p.Intn(5), p.Intn(3)
	switch p.Intn(30) {
	case 0, 1, 2, 3, 4, 5:
		p.disks(side, fmt.Sprint("Arm ", n, what), func(d *disk.Disk) { d.Arm(n, what) })
	case 6, 7, 8:
		p.disks(side, fmt.Sprint("Fall ", n), func(d *disk.Disk) { d.Fall(n) })
	case 9:
		fates := p.fates()
		p.disks(side, "Crash", func(d *disk.Disk) { crash(d, fates...) })
	case 10:
		if p.Intn(8) == 0 {
			p.disks(side, "others remove a file", func(d *disk.Disk) { d.Remove(pick(rand.New(rand.NewSource(int64(n))), "log.0", "mark", "check")) })
		}
	}
}

// back has the power of a side come back, if it is gone.
func (p *player) back(side int) {
	if p.side[side].e.Off() && p.Intn(4) > 0 {
		fates := p.fates()
		p.disks(side, "Crash, On", func(d *disk.Disk) { crash(d, fates...) })
		if p.Intn(8) > 0 {
			p.side[side].c, p.side[side].m = nil, nil
		}
	}
}

// changed is a message, most often as it is.
func (p *player) changed(m api.Message) api.Message {
	fields := []func(*api.Message){strayID, strayAmount, strayIndex, strayNext, straySecret, strayHash, strayNote, func(m *api.Message) { m.Kind = p.Intn(10) - 1 }, func(m *api.Message) { m.Index++ }}
	if p.Intn(60) == 0 {
		return stray(m, pick(p.Rand, fields...))
	}
	return m
}

// came is a message for a side: the next one that is under way, or now and then another.
func (p *player) came(side int) (api.Message, bool) {
	if p.Intn(250) == 0 {
		return api.Message{Kind: p.Intn(9), ID: int64(p.Intn(3)), Amount: 5, Index: pick[int64](p.Rand, -1, 0, 1, 2, 110, 180, 65535, 65536)}, true
	}
	if len(p.pipe[1-side]) == 0 {
		return api.Message{}, false
	}
	m := p.pipe[1-side][0]
	p.pipe[1-side] = p.pipe[1-side][1:]
	return p.changed(m), true
}

// next is a call of a side.
func (p *player) next(side int) call {
	s := p.side[side].m.state
	if p.side[side].m.dead() && p.Intn(4) == 0 {
		return call{kind: "Close"}
	}
	id := p.add(s)
	switch p.Intn(26) {
	case 0, 1, 2:
		return call{kind: "Offer", n: pick[int64](p.Rand, 1, 2, 5, 40, 0, 100+p.Int63n(900)), h: sum(preimage(side, int64(len(s.Ours))))}
	case 3, 4, 24:
		return call{kind: "Settle", n: id, h: p.preimage(side, id)}
	case 5, 25:
		return call{kind: "Refuse", n: id, m: api.Message{Note: strings.Repeat("n", pick(p.Rand, 0, 2, 64, 65))}}
	case 6, 7, 8, 9:
		return call{kind: "Sign"}
	case 10:
		return call{kind: "Checkpoint"}
	case 11:
		return call{kind: pick(p.Rand, "Hello", "Hello", "Hello", "Cut", "Close")}
	}
	if m, ok := p.came(side); ok {
		return call{kind: "Take", m: m}
	}
	return call{kind: pick(p.Rand, "Sign", "Hello")}
}

// add is the ID of an add of the peer's, most often of one that may be removed.
func (p *player) add(s api.State) int64 {
	var open []int64
	for _, u := range s.Peers[:min(dance.Fixed(s).Peers, len(s.Peers))] {
		if _, gone := update.Removal(s.Ours, u.ID); u.Kind == api.Add && !gone {
			open = append(open, u.ID)
		}
	}
	if len(open) > 0 && p.Intn(5) > 0 {
		return pick(p.Rand, open...)
	}
	return p.Int63n(int64(len(s.Peers)) + 2)
}

// preimage is the one of the peer's add with that ID, which was made when so many of its updates stood ahead of it.
func (p *player) preimage(side int, id int64) api.Hash {
	for i, u := range p.side[side].m.state.Peers {
		if u.Kind == api.Add && u.ID == id {
			return preimage(1-side, int64(i))
		}
	}
	return none
}

// made makes a call of both: do they answer the same, and are they the same then?
func (p *player) made(side int, x call) (answer, bool) {
	t := p.side[side]
	got, want := x.of(t.c), x.ofModel(t.m)
	p.said = append(p.said, fmt.Sprintf("%d: %v: %+v", side, x, want))
	p.seen[fmt.Sprint(x.kind, " ", int(want.e))]++
	return want, got.same(want) && p.alike(side)
}

func (p *player) alike(side int) bool {
	t := p.side[side]
	code, dead := t.c.Dead()
	return sameState(t.c.State(), t.m.state) && t.c.Mark() == t.m.store.Mark() && code == t.m.state.Failed && dead == t.m.dead() && whole(t.d) == whole(t.e)
}

// join breaks the connection and makes it anew, if both are up.
func (p *player) join() bool {
	p.pipe, p.broken = [2][]api.Message{}, true
	if p.side[0].c == nil || p.side[1].c == nil {
		return true
	}
	for side := range 2 {
		if _, ok := p.made(side, call{kind: "Cut"}); !ok {
			return false
		}
	}
	p.broken = false
	hellos := [2]api.Message{p.changed(p.side[0].m.hello()), p.changed(p.side[1].m.hello())}
	for side := range 2 {
		a, ok := p.made(side, call{kind: "Answer", m: hellos[1-side]})
		if !ok {
			return false
		}
		p.pipe[side], p.broken = a.out, p.broken || a.e != 0 && a.e != 220
	}
	return true
}

func (m *model) hello() api.Message { return resume.Hello(m.c, m.state) }

// play is one step: do the twins answer the same?
func (p *player) play() bool {
	side := p.Intn(2)
	if p.side[side].c == nil || p.Intn(60) == 0 {
		return p.opened(side)
	}
	if p.Intn(40) == 0 || p.broken && p.Intn(6) > 0 {
		return p.join()
	}
	x := p.next(side)
	a, ok := p.made(side, x)
	p.broken = p.broken || x.kind == "Take" && a.e != 0
	if x.kind != "Hello" && p.Intn(200) > 0 {
		p.pipe[side] = append(p.pipe[side], a.out...)
	}
	return ok
}

// over: both sides are dead, and have nothing more to say.
func (p *player) over() bool {
	return p.Intn(4) == 0 && p.side[0].m != nil && p.side[1].m != nil && p.side[0].m.dead() && p.side[1].m.dead()
}

// P22.1: every call answers as said, in every order, whatever comes and whatever the disk does, and does to the disk what is said and nothing else.
func TestAgainstModel(t *testing.T) {
	t.Parallel()
	seen := map[string]int{}
	for seed := range int64(800) {
		p := &player{Rand: rand.New(rand.NewSource(seed)), seen: seen}
		capacity := pick(p.Rand, 1500, 3000, 1<<20, 1<<20)
		for side := range 2 {
			p.side[side].d, p.side[side].e = made(t, capacity), made(t, capacity)
		}
		steady := p.Intn(3) == 0
		for range 150 {
			if !p.play() {
				t.Fatalf("P22.1: seed %d: not as the model answers:\n%s", seed, strings.Join(p.said, "\n"))
			}
			if p.over() {
				break
			}
			for side := range 2 {
				if !steady {
					p.disturb(side)
				}
				p.back(side)
			}
		}
	}
	for _, want := range []string{
		"Open 0", "Open 9", "Open 40", "Open, lost",
		"Offer 0", "Offer 9", "Offer 40", "Offer 41", "Offer 60", "Offer 80", "Offer 130", "Offer 220",
		"Settle 0", "Settle 9", "Settle 40", "Settle 120", "Settle 220", "Refuse 0", "Refuse 9", "Refuse 40", "Refuse 120", "Refuse 220",
		"Sign 0", "Sign 8", "Sign 9", "Sign 40", "Sign 41", "Sign 60", "Sign 220",
		"Take 0", "Take 8", "Take 9", "Take 40", "Take 41", "Take 60", "Take 90", "Take 100", "Take 110", "Take 120", "Take 160", "Take 220",
		"Answer 0", "Answer 9", "Answer 40", "Answer 90", "Answer 100", "Answer 160", "Answer 220",
		"Hello 0", "Cut 0", "Close 0", "Close 9", "Close 40", "Close 60", "Close 180",
		"Checkpoint 0", "Checkpoint 9", "Checkpoint 40", "Checkpoint 41", "Checkpoint 60",
	} {
		if seen[want] < 5 {
			t.Errorf("the play had %q %d times", want, seen[want])
		}
	}
}
