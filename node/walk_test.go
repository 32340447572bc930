package node

import (
	"fmt"
	"math/rand"
	"slices"
	"testing"

	"escrow/api"
	"escrow/commit"
	"escrow/dance"
	"escrow/disk"
	"escrow/ledger"
	"escrow/msg"
	"escrow/record"
	"escrow/seal"
	"escrow/seed"
)

// walk is two nodes that talk and tell no lies, by the promises alone: what was told, what was under way, and what was sent.
type walk struct {
	*rand.Rand
	t    *testing.T
	n    [2]*Node
	pipe [2][]string
	// told is what State told behind the last step that left the node up, under the same with the batch of the step in which it went down.
	told, under [2]api.State
	// revealed is the greatest index whose secret was told; closed the index that Close told.
	revealed, closed [2]int64
	signed           [2]map[int64]string
	seen             map[string]int
	said             []string
}

func begin(t *testing.T, r *rand.Rand, seen map[string]int) *walk {
	t.Helper()
	w := &walk{Rand: r, t: t, revealed: [2]int64{-1, -1}, closed: [2]int64{-1, -1}, seen: seen}
	capacity, segment := pick(r, 5000, 30000, 1<<20, 1<<20), pick(r, 300, 1000, 4096, 1<<20)
	for side := range 2 {
		c := config(side)
		c.Segment = segment
		n, e := New(capacity, c)
		if e != api.OK {
			t.Fatalf("P23.1: New: %d", e)
		}
		w.n[side], w.told[side], w.under[side] = n, n.State(), n.State()
		w.signed[side] = map[int64]string{}
	}
	return w
}

func (w *walk) fatal(format string, l ...any) {
	w.t.Helper()
	w.t.Fatalf("%s\n%s", fmt.Sprintf(format, l...), fmt.Sprint(w.said[max(0, len(w.said)-60):]))
}

// then is the state with the batch that a step makes, if the power lets it; the state alone, if it makes none.
func (w *walk) then(side int, s api.State, x Step) api.State {
	c := w.n[side].config
	m, _ := msg.Read(x.Bytes)
	var r api.Record
	e := api.ErrNone
	switch {
	case x.Kind == Take && m.Kind == api.MsgCommit:
		r, e = dance.Came(c, s, m)
	case x.Kind == Take && m.Kind == api.MsgRevoke:
		r, e = dance.Revoked(s, m)
	case x.Kind == Close:
		r, e = api.Record{Kind: api.RecClosed, Index: s.Local}, api.OK
	case x.Kind == Offer:
		r, e = dance.Offer(s, x.Amount, x.Hash)
	case x.Kind == Settle:
		r, e = dance.Settle(s, x.ID, x.Hash)
	case x.Kind == Refuse:
		r, e = dance.Refuse(s, x.ID, x.Note)
	case x.Kind == Sign:
		r, e = dance.Sign(c, s)
	}
	if e != api.OK {
		return s
	}
	next, e := record.Apply(s, r)
	if e != api.OK {
		w.fatal("Apply: %d", e)
	}
	return next
}

// look holds what is to be sent against what was sent before, and against what was told to be broadcast.
func (w *walk) look(side int, out []string) {
	w.t.Helper()
	for i, m := range messagesOf(w.t, out) {
		switch m.Kind {
		case api.MsgRevoke:
			if w.closed[side] >= 0 && m.Index >= w.closed[side] {
				w.fatal("P23.2: side %d reveals %d, and has closed with %d", side, m.Index, w.closed[side])
			}
			if m.Secret != secretOf(side, m.Index) {
				w.fatal("P23.1: side %d reveals another secret than its %d", side, m.Index)
			}
			w.revealed[side] = max(w.revealed[side], m.Index)
		case api.MsgCommit:
			old, twice := w.signed[side][m.Index]
			if twice && old != out[i] {
				w.fatal("P23.3: side %d signs %d in two ways", side, m.Index)
			}
			if twice {
				w.seen["signed again"]++
			}
			w.signed[side][m.Index] = out[i]
		}
	}
}

// mayBeThere: behind an opening all is there that was told, and at most the batch that was under way.
func (w *walk) mayBeThere(side int, got api.State) {
	w.t.Helper()
	switch {
	case sameState(got, dance.Cut(w.told[side])):
	case sameState(got, dance.Cut(w.under[side])):
		w.seen["the batch under way"]++
	default:
		w.fatal("P23.3: side %d: an opening tells\n%s, want\n%s", side, shown(got), shown(w.told[side]))
	}
	if n := w.n[side].Mark(); n != got.Local-1 {
		w.fatal("P23.2: side %d: an opening tells the mark %d of %s", side, n, shown(got))
	}
}

// do is a step of a side.
func (w *walk) do(side int, x Step) Told {
	w.t.Helper()
	n := w.n[side]
	wasUp, before := n.Up(), w.told[side]
	after := w.then(side, before, x)
	told := n.Do(x)
	w.said = append(w.said, fmt.Sprintf("%d: %d %x: %d, %d sent\n", side, x.Kind, x.Bytes, told.Err, len(told.Out)))
	w.seen[fmt.Sprint(x.Kind, " ", int(told.Err))]++
	w.look(side, told.Out)
	opens := x.Kind == Crash || x.Kind == Open
	switch {
	case !n.Up():
		if (told.Err == api.OK) != (x.Kind == Arm || x.Kind == Fall) || len(told.Out) > 0 || told.Text != "" {
			w.fatal("P23.1: side %d is down, and tells %v", side, told)
		}
		if wasUp && !opens {
			w.under[side] = after
		}
	case opens && told.Err == api.OK:
		w.mayBeThere(side, n.State())
		w.told[side], w.under[side] = n.State(), n.State()
	default:
		w.stayedUp(side, x, told, before)
	}
	if !n.Connected() {
		w.cut(1 - side)
	}
	return told
}

// stayedUp: a step that left the node up, and did not open it.
func (w *walk) stayedUp(side int, x Step, told Told, before api.State) {
	w.t.Helper()
	got := w.n[side].State()
	w.told[side], w.under[side] = got, got
	if _, dead := w.n[side].Dead(); dead && x.Kind != Close && w.closed[side] < 0 {
		w.fatal("P23.1: side %d is dead behind step %d, which tells %v", side, x.Kind, told)
	}
	if told.Err == api.OK {
		return
	}
	// A commitment counts when it is in the log, and what was heard is forgotten behind a Take that the disk refused.
	late := x.Kind == Take && got.Local > before.Local
	if !late && !sameState(dance.Cut(got), dance.Cut(before)) || len(told.Out) > 0 {
		w.fatal("P23.1: side %d: step %d, refused with %d, makes\n%s of\n%s", side, x.Kind, told.Err, shown(got), shown(before))
	}
	if late {
		w.seen["the mark is refused"]++
	}
}

// cut has a side be told that the connection is gone.
func (w *walk) cut(side int) {
	w.t.Helper()
	w.pipe = [2][]string{}
	if w.n[side].Connected() {
		w.do(side, step(Disconnect))
	}
}

// send is a step whose messages are under way then, if both are connected.
func (w *walk) send(side int, x Step) Told {
	w.t.Helper()
	told := w.do(side, x)
	if w.n[0].Connected() && w.n[1].Connected() {
		w.pipe[side] = append(w.pipe[side], told.Out...)
	}
	return told
}

// join connects both anew, if both are up.
func (w *walk) join() {
	w.t.Helper()
	w.cut(0)
	w.cut(1)
	if !w.n[0].Up() || !w.n[1].Up() {
		return
	}
	var hellos [2][]string
	for side := range 2 {
		told := w.n[side].Do(step(Connect))
		if told.Err != api.OK {
			w.fatal("P23.1: side %d: Connect tells %v", side, told)
		}
		hellos[side] = told.Out
	}
	w.pipe = hellos
}

// deliver has a side take the next message.
func (w *walk) deliver(side int) bool {
	w.t.Helper()
	if !w.n[side].Up() || len(w.pipe[1-side]) == 0 {
		return false
	}
	b := w.pipe[1-side][0]
	w.pipe[1-side] = w.pipe[1-side][1:]
	w.send(side, taking(b))
	return true
}

// propose is a step by chance that says something to the peer.
func (w *walk) propose(side int) {
	w.t.Helper()
	s := w.told[side]
	p := &player{Rand: w.Rand}
	id := p.add(s)
	switch w.Intn(6) {
	case 0, 1:
		w.send(side, offer(1+w.Int63n(60), sum(preimage(side, adds(s.Ours)))))
	case 2:
		w.send(side, Step{Kind: Settle, ID: id, Hash: preimage(1-side, id)})
	case 3:
		w.send(side, Step{Kind: Refuse, ID: id, Note: "no"})
	default:
		w.send(side, step(Sign))
	}
}

// fates keep some sectors and lose others; none of them gives bytes.
func (w *walk) fates() []api.Fate {
	var fates []api.Fate
	files := []string{"check", "check.tmp", "mark", "mark.tmp"}
	for i := range 60 {
		files = append(files, fmt.Sprint("log.", i))
	}
	all := w.Intn(4)
	for _, file := range files {
		for n := range 40 {
			fates = append(fates, api.Fate{File: file, Sector: n, Kind: []int{0, 1, w.Intn(2), w.Intn(2)}[all]})
		}
	}
	return fates
}

// raise has a side that is down be up again, or go down anew on the way.
func (w *walk) raise(side int) {
	w.t.Helper()
	if !w.n[side].Disk().Off() {
		w.do(side, step(Open))
		return
	}
	n := int64(max(0, w.Intn(8)-4))
	told := w.do(side, Step{Kind: Crash, Fates: w.fates(), N: n})
	if told.Err == api.OK {
		w.again(side)
	} else if told.Err != api.ErrOff && told.Err != api.ErrSpace {
		w.fatal("P23.3: side %d: Crash tells %v", side, told)
	}
}

// again: crashed again ahead of any other step, the state is the same.
func (w *walk) again(side int) {
	w.t.Helper()
	for range w.Intn(3) {
		want := w.n[side].State()
		told := w.do(side, Step{Kind: Crash, Fates: w.fates(), N: int64(w.Intn(3))})
		for told.Err == api.ErrOff {
			w.seen["in the middle of opening"]++
			told = w.do(side, Step{Kind: Crash, Fates: w.fates(), N: int64(w.Intn(3))})
		}
		if told.Err != api.OK {
			w.fatal("P23.4: side %d: Crash tells %v", side, told)
		}
		tells(w.t, "P23.4", w.n[side], want)
	}
}

// trouble: the disk is to refuse something, or the power to go, now or later.
func (w *walk) trouble(side int) {
	w.t.Helper()
	switch w.Intn(40) {
	case 0, 1, 2:
		w.do(side, Step{Kind: Arm, N: int64(1 + w.Intn(6))})
	case 3, 4, 5:
		w.do(side, Step{Kind: Fall, N: int64(1 + w.Intn(6))})
	case 6:
		w.do(side, Step{Kind: Crash, Fates: w.fates()})
	}
}

// closes: what is told is the commitment that counts, which the other side signed, and which wasn't revealed.
func (w *walk) closes(side int, n *Node, told Told) {
	w.t.Helper()
	if told.Err == api.ErrSpace || told.Err == api.ErrFull || told.Err == api.ErrDisk || told.Err == api.ErrOff {
		return
	}
	s := n.State()
	l, _ := ledger.Fold(s.BaseOurs, s.BasePeers, s.Ours, s.Peers, s.At)
	secret, _ := seed.Secret(n.config.Seed, s.Local)
	text, _ := commit.Text(side, s.Local, seed.Point(secret), l)
	if told.Err != api.OK || told.Index <= w.revealed[side] || told.Index != s.Local || told.Text != text || len(told.Out) > 0 {
		w.fatal("P23.2: side %d: Close tells %v, and %d was revealed: %s", side, told, w.revealed[side], shown(s))
	}
	if told.Index > 0 {
		signed, _ := msg.Read(w.signed[1-side][told.Index])
		if !seal.Right(n.config.PeerKey, told.Text, told.Sig) || signed.Hash != told.Sig {
			w.fatal("P23.1: side %d: what Close tells of %d isn't what the peer signed", side, told.Index)
		}
	}
	w.seen["closed"]++
}

// tryClose: whatever crash comes now, a node that goes on behind it broadcasts nothing that was revealed.
func (w *walk) tryClose(side int) {
	w.t.Helper()
	other := *w.n[side]
	other.disk = w.n[side].disk.Copy()
	other.channel = nil
	if told := other.Do(Step{Kind: Crash, Fates: w.fates()}); told.Err != api.OK {
		if told.Err != api.ErrSpace {
			w.fatal("P23.3: side %d: Crash of a copy tells %v", side, told)
		}
		return
	}
	w.closes(side, &other, other.Do(step(Close)))
}

func (w *walk) step() {
	w.t.Helper()
	side := w.Intn(2)
	w.trouble(side)
	n := w.n[side]
	switch x := w.Intn(30); {
	case !n.Up():
		w.raise(side)
	case !n.Connected() && x < 15:
		w.join()
	case x == 0:
		w.join()
	case x == 1 || len(n.Disk().List()) > 8 && x < 9:
		w.do(side, step(Checkpoint))
	case x == 2:
		w.tryClose(side)
	case x < 12:
		w.propose(side)
	default:
		if !w.deliver(side) {
			w.propose(side)
		}
	}
}

// calm has both nodes up, joined and heard, with nothing under way; false: there is no room for that.
func (w *walk) calm() bool {
	w.t.Helper()
	for side, n := range w.n {
		w.do(side, step(Arm))
		w.do(side, step(Fall))
		for range 60 {
			if !n.Up() {
				w.raise(side)
			}
		}
		w.do(side, step(Arm))
		w.do(side, step(Fall))
		if !n.Up() || w.do(side, step(Checkpoint)).Err != api.OK {
			return false
		}
	}
	w.join()
	for range 10 {
		for w.deliver(w.Intn(2)) || w.deliver(0) || w.deliver(1) {
		}
		for side := range 2 {
			w.do(side, step(Checkpoint))
			w.send(side, step(Sign))
		}
	}
	return true
}

// end: both hold the same, and then they close, whatever happens to them.
func (w *walk) end() {
	w.t.Helper()
	for side := range 2 {
		s, other := w.n[side].State(), w.n[1-side].State()
		if s.Remote != s.Acked || s.Local != other.Remote || !slices.Equal(s.Peers, other.Ours) || s.At != (api.Counts{Ours: len(s.Ours), Peers: len(s.Peers)}) || s.Held != s.At || w.n[side].Mark() != s.Local-1 {
			w.fatal("P23.3: in the end side %d is %s, the other %s", side, shown(s), shown(other))
		}
	}
	for side, n := range w.n {
		w.tryClose(side)
		told := w.do(side, step(Close))
		w.closes(side, n, told)
		if told.Err != api.OK {
			continue
		}
		w.closed[side] = told.Index
		for range 5 {
			w.trouble(side)
			if !n.Up() {
				w.raise(side)
			}
			for _, kind := range []int{Offer, Sign, Connect, Disconnect, Checkpoint} {
				w.do(side, step(kind))
			}
			if again := w.do(side, step(Close)); n.Up() && !sameTold(again, told) {
				w.fatal("P23.1: side %d: Close tells %v, and then %+v", side, told, again)
			}
		}
	}
}

// P23.2 to P23.4 over long walks of two nodes that tell no lies, with crashes, breaks and refusals.
func TestWalks(t *testing.T) {
	t.Parallel()
	seen := map[string]int{}
	for seed := range int64(150) {
		w := begin(t, rand.New(rand.NewSource(seed)), seen)
		for range 300 {
			w.step()
			if t.Failed() {
				t.Fatalf("in the walk of seed %d", seed)
			}
		}
		if w.calm() {
			w.end()
			seen["to the end"]++
		}
		seen[fmt.Sprint("commitments ", min(w.told[0].Local, 8)/4*4)]++
	}
	for _, want := range []string{
		"1 0", "1 9", "1 40", "1 130", "2 0", "2 9", "2 40", "3 0", "3 9", "3 40", "4 0", "4 8", "4 9", "4 40", "5 0", "7 0", "8 0", "8 9", "8 40", "9 0", "9 9", "9 40", "9 41", "12 0", "12 9",
		"the batch under way", "the mark is refused", "signed again", "in the middle of opening", "closed", "to the end", "commitments 0", "commitments 4",
	} {
		if seen[want] < 5 {
			t.Errorf("the walks had %q %d times: %v", want, seen[want], seen)
		}
	}
}

// The disk is looked at alone: two nodes on copies of one disk tell the same.
func TestDiskIsAllThatStays(t *testing.T) {
	a, b := joined(t)
	does(t, a, b, offer(600, none))
	fix(t, a, b)
	does(t, b, a, offer(5, none))
	for side, n := range []*Node{a, b} {
		d := n.Disk().Copy()
		sends(t, "P23.3", n, step(Crash))
		d.Crash(nil)
		d.On()
		tells(t, "P23.3", n, on(d, side).State())
		if n.Disk() == d || n.Disk().Off() || whole(n.Disk()) != whole(d) {
			t.Errorf("P23.3: the disks tell otherwise")
		}
	}
	if d, _ := disk.New(65536); on(d, 0).State().Local != 0 {
		t.Errorf("P23.3: a new disk")
	}
}
