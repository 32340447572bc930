package pair

import (
	"fmt"
	"math/rand"
	"slices"
	"testing"

	"escrow/api"
	"escrow/commit"
	"escrow/dance"
	"escrow/ledger"
	"escrow/msg"
	"escrow/node"
	"escrow/record"
	"escrow/seal"
	"escrow/shelf"
)

// walk is a pair and what is promised of it alone: what was told, what was under way, what was sent and what was revealed.
type walk struct {
	*rand.Rand
	t *testing.T
	w World
	p *Pair
	// told is what State told behind the last move that left the node up, under the same with the batch of the move in which it went down.
	told, under [2]api.State
	// revealed is the greatest index whose secret a side told; heard the greatest that was told to it, and taken; closed the index that it broadcast.
	revealed, heard, closed [2]int64
	// signed and texts are the commitments that a side signed, by their index: the message, and what the signer has of it.
	signed, texts [2]map[int64]string
	// mild is how seldom there is trouble.
	mild int
	seen map[string]int
	said []string
}

func newWalk(t *testing.T, r *rand.Rand, w World, seen map[string]int) *walk {
	t.Helper()
	x := &walk{Rand: r, t: t, w: w, p: begunIn(t, w), mild: pick(r, 50, 100, 1000), seen: seen}
	for side := range 2 {
		s := x.p.Node(side).State()
		x.told[side], x.under[side] = s, s
		x.revealed[side], x.heard[side], x.closed[side] = -1, -1, -1
		x.signed[side], x.texts[side] = map[int64]string{}, map[int64]string{}
	}
	return x
}

func (w *walk) fatal(format string, l ...any) {
	w.t.Helper()
	w.t.Fatalf("%s\n%s", fmt.Sprintf(format, l...), fmt.Sprint(w.said[max(0, len(w.said)-60):]))
}

// textOf is what a side's commitment says, by a ledger as that side sees it.
func (w *walk) textOf(side int, n int64, l api.Ledger) string {
	w.t.Helper()
	text, e := commit.Text(side, n, sum(secretOf(side, n)), l)
	if e != api.OK {
		w.fatal("commit.Text: %d", e)
	}
	return text
}

// folded is the ledger of so many updates: T3.
func (w *walk) folded(s api.State, c api.Counts) api.Ledger {
	w.t.Helper()
	l, e := ledger.Fold(s.BaseOurs, s.BasePeers, s.Ours, s.Peers, c)
	all := l.Ours + l.Peers
	for _, open := range l.Open {
		all += open.Amount
		if open.Amount < 1 {
			w.fatal("T3: %+v is open", open)
		}
	}
	if e != api.OK || all != s.Capacity || l.Ours < 0 || l.Peers < 0 {
		w.fatal("T3: of %d: %+v, %d", s.Capacity, l, e)
	}
	return l
}

// step is what a move has a node do, and which message it takes; false: none.
func (w *walk) step(m Move) (node.Step, api.Message, bool) {
	if m.Kind == Deliver && len(w.p.Pipe(m.Side)) > 0 {
		b := w.p.Pipe(m.Side)[0]
		came, _ := msg.Read(b)
		return node.Step{Kind: node.Take, Bytes: b}, came, true
	}
	return m.Step, api.Message{}, m.Kind == Step
}

// then is the state with the batch that a step makes, if the power lets it; the state alone, if it makes none.
func (w *walk) then(side int, s api.State, x node.Step, came api.Message) api.State {
	c := wantConfig(w.w, side)
	var r api.Record
	e := api.ErrNone
	switch {
	case x.Kind == node.Take && came.Kind == api.MsgCommit:
		r, e = dance.Came(c, s, came)
	case x.Kind == node.Take && came.Kind == api.MsgRevoke:
		r, e = dance.Revoked(s, came)
	case x.Kind == node.Close:
		r, e = api.Record{Kind: api.RecClosed, Index: s.Local}, api.OK
	case x.Kind == node.Offer:
		r, e = dance.Offer(s, x.Amount, x.Hash)
	case x.Kind == node.Settle:
		r, e = dance.Settle(s, x.ID, x.Hash)
	case x.Kind == node.Refuse:
		r, e = dance.Refuse(s, x.ID, x.Note)
	case x.Kind == node.Sign:
		r, e = dance.Sign(c, s)
	}
	if e != api.OK {
		return s
	}
	next, e := record.Apply(s, r)
	if e != api.OK {
		return s
	}
	return next
}

// look holds what a side sends against what it sent and broadcast before.
func (w *walk) look(side int, out []string) {
	w.t.Helper()
	for i, m := range messagesOf(w.t, out) {
		switch m.Kind {
		case api.MsgRevoke:
			if m.Secret != secretOf(side, m.Index) || w.closed[side] >= 0 && m.Index >= w.closed[side] {
				w.fatal("T1: side %d reveals %d, and has broadcast %d", side, m.Index, w.closed[side])
			}
			w.revealed[side] = max(w.revealed[side], m.Index)
		case api.MsgCommit:
			s := w.p.Node(side).State()
			text := w.textOf(1-side, m.Index, commit.Turn(w.folded(s, s.Signed)))
			old, twice := w.signed[side][m.Index]
			if twice && (old != out[i] || w.texts[side][m.Index] != text) {
				w.fatal("P24.2: side %d signs %d in two ways", side, m.Index)
			}
			if twice {
				w.seen["signed again"]++
			}
			if s.Remote != m.Index || !seal.Right(w.w.Keys[side], text, m.Hash) {
				w.fatal("P24.2: side %d signs %d, and has %s", side, m.Index, shown(s))
			}
			w.signed[side][m.Index], w.texts[side][m.Index] = out[i], text
		case api.MsgError:
			w.fatal("P24.2: side %d fails with %d", side, m.Index)
		}
	}
}

// holdsSigned: a side's commitment is the text that the other one signed.
func (w *walk) holdsSigned(side int) {
	w.t.Helper()
	s := w.p.Node(side).State()
	text := w.textOf(side, s.Local, w.folded(s, s.At))
	if s.Local == 0 {
		return
	}
	signed, _ := msg.Read(w.signed[1-side][s.Local])
	if w.texts[1-side][s.Local] != text || signed.Hash != s.Sig {
		w.fatal("P24.2: side %d holds another commitment %d than was signed: %s", side, s.Local, shown(s))
	}
}

// knows: a side's shelf tells every secret that was revealed to it (T7).
func (w *walk) knows(side int) {
	w.t.Helper()
	s := w.p.Node(side).State()
	if w.heard[side] > s.Acked-1 {
		w.fatal("T7: side %d was told %d: %s", side, w.heard[side], shown(s))
	}
	for n := range s.Acked {
		if secret, e := shelf.Get(s.Shelf, n); e != api.OK || secret != secretOf(1-side, n) {
			w.fatal("T7: side %d has lost the secret %d", side, n)
		}
	}
}

// again is what a side lacks by its hello, against what the other says to it (P24.3). Nothing came to it since the hello but a hello.
func (w *walk) again(from int, out []string) {
	w.t.Helper()
	s, lacking := w.p.Node(from).State(), w.told[1-from]
	var want []string
	for i := len(lacking.Peers); i <= len(s.Ours); i++ {
		if i == s.Signed.Ours && lacking.Local < s.Remote || i == len(lacking.Peers) && i > s.Signed.Ours && lacking.Local < s.Remote {
			want = append(want, w.signed[from][s.Remote])
		}
		if i < len(s.Ours) {
			want = append(want, bytesOf(w.t, msg.Of(s.Ours[i])))
		}
	}
	got := slices.DeleteFunc(slices.Clone(out), func(b string) bool {
		m, _ := msg.Read(b)
		return m.Kind == api.MsgRevoke
	})
	if !slices.Equal(got, want) || (len(got) < len(out)) != (lacking.Acked < s.Local) || len(out)-len(got) > 1 {
		w.fatal("P24.3: side %d says %q, and lacks, but revocations, %q; it has\n%s, the other\n%s", from, kinds(w.t, out), kinds(w.t, want), shown(s), shown(lacking))
	}
	for _, m := range messagesOf(w.t, out) {
		if m.Kind == api.MsgRevoke && m.Index != lacking.Acked {
			w.fatal("P24.3: side %d reveals %d, and the other waits for %d", from, m.Index, lacking.Acked)
		}
	}
	w.seen[fmt.Sprint("sent again: ", min(len(out), 3))]++
}

// do is a move; what the step tells, and whether the move was refused.
func (w *walk) do(m Move) (node.Told, api.Errno) {
	w.t.Helper()
	x, came, steps := w.step(m)
	pipes, joined := [2][]string{w.p.Pipe(0), w.p.Pipe(1)}, w.p.Joined()
	up := w.p.Node(m.Side).Up()
	after := w.then(m.Side, w.told[m.Side], x, came)
	told, e := w.p.Do(m)
	w.said = append(w.said, fmt.Sprintf("move %d %d, step %d, a message %d: %d, %d, %q is sent\n", m.Kind, m.Side, x.Kind, came.Kind, e, told.Err, kinds(w.t, told.Out)))
	w.seen[fmt.Sprint(m.Kind, " ", int(e), " ", int(told.Err))]++
	w.look(m.Side, told.Out)
	if e == api.OK && steps {
		w.stepped(m.Side, x, told, up, after)
	}
	if came.Kind == api.MsgRevoke && told.Err == api.OK {
		w.heard[m.Side] = max(w.heard[m.Side], came.Index)
	}
	if came.Kind == api.MsgHello && told.Err == api.OK {
		w.again(m.Side, told.Out)
	}
	w.behind(m, told, e, joined, pipes)
	return told, e
}

// stepped: a side has done a step; its state is as T2 and T4 say.
func (w *walk) stepped(side int, x node.Step, told node.Told, wasUp bool, after api.State) {
	w.t.Helper()
	n := w.p.Node(side)
	got := n.State()
	opens := x.Kind == node.Crash || x.Kind == node.Open
	switch {
	case !n.Up():
		if len(told.Out) > 0 || told.Text != "" {
			w.fatal("T4: side %d is down, and tells %s", side, shownTold(told))
		}
		if wasUp && !opens {
			w.under[side] = after
		}
		return
	case opens && told.Err == api.OK:
		w.mayBeThere(side, got)
	case told.Err != api.OK:
		// A commitment counts when it is in the log, and what was heard is forgotten behind a Take that the disk refused.
		late := x.Kind == node.Take && got.Local > w.told[side].Local
		if !late && !sameState(dance.Cut(got), dance.Cut(w.told[side])) || len(told.Out) > 0 {
			w.fatal("T4: side %d: step %d, refused with %d, makes\n%s of\n%s", side, x.Kind, told.Err, shown(got), shown(w.told[side]))
		}
	}
	w.told[side], w.under[side] = got, got
}

// mayBeThere: behind an opening all is there that was told, and at most the batch that was under way, and never a part of it (T2).
func (w *walk) mayBeThere(side int, got api.State) {
	w.t.Helper()
	switch {
	case sameState(got, dance.Cut(w.told[side])):
	case sameState(got, dance.Cut(w.under[side])):
		w.seen["the batch under way"]++
		s := got
		w.closed[side] = s.Closed
		if _, known := w.signed[side][s.Remote]; s.Remote > s.Acked && !known {
			// It was signed, and the power went ahead of the message: what is said behind the next hello is the first one.
			m := dance.Again(wantConfig(w.w, side), s)
			w.signed[side][s.Remote] = bytesOf(w.t, m)
			w.texts[side][s.Remote] = w.textOf(1-side, s.Remote, commit.Turn(w.folded(s, s.Signed)))
		}
	default:
		w.fatal("T2: side %d: an opening tells\n%s, want\n%s", side, shown(got), shown(w.told[side]))
	}
	if n := w.p.Node(side).Mark(); n != got.Local-1 {
		w.fatal("T2: side %d: an opening tells the mark %d of %s", side, n, shown(got))
	}
}

// behind a move: what is joined and under way is as the chapter says, and all promises of a state hold.
func (w *walk) behind(m Move, told node.Told, e api.Errno, was bool, pipes [2][]string) {
	w.t.Helper()
	p := w.p
	for side, n := range p.nodes {
		_, dead := n.Dead()
		if n.Connected() != p.Joined() || dead && (p.Joined() || w.closed[side] < 0 && m.Step.Kind != node.Close) || !p.Joined() && len(p.Pipe(side)) > 0 {
			w.fatal("P24.1: joined %v, side %d: connected %v, dead %v, %q under way", p.Joined(), side, n.Connected(), dead, kinds(w.t, p.Pipe(side)))
		}
		if !n.Up() {
			continue
		}
		if !p.Joined() {
			w.told[side], w.under[side] = dance.Cut(w.told[side]), dance.Cut(w.under[side])
		}
		if !sameState(n.State(), w.told[side]) {
			w.fatal("P24.1: side %d is\n%s, and was\n%s", side, shown(n.State()), shown(w.told[side]))
		}
		w.holdsSigned(side)
		w.knows(side)
		w.folded(n.State(), n.State().Signed)
		w.folded(n.State(), n.State().Held)
	}
	if !was || !p.Joined() {
		return
	}
	if m.Kind == Deliver && e == api.OK {
		pipes[m.Side] = pipes[m.Side][1:]
	}
	pipes[1-m.Side] = append(pipes[1-m.Side], told.Out...)
	if !slices.Equal(p.Pipe(0), pipes[0]) || !slices.Equal(p.Pipe(1), pipes[1]) {
		w.fatal("P24.1: under way are %q and %q", kinds(w.t, p.Pipe(0)), kinds(w.t, p.Pipe(1)))
	}
}

// fates keep some sectors and lose others, from about where each file ends on; none of them gives bytes.
func (w *walk) fates(side int) []api.Fate {
	d := w.p.Node(side).Disk().Copy()
	d.Crash(nil)
	d.On()
	files := []string{"check", "check.tmp", "mark", "mark.tmp"}
	for i := range 40 {
		files = append(files, fmt.Sprint("log.", i))
	}
	var fates []api.Fate
	all := w.Intn(4)
	for _, file := range files {
		size, _ := d.Size(file)
		first := max(0, size/api.Sector-2)
		for n := range 12 {
			fates = append(fates, api.Fate{File: file, Sector: first + n, Kind: []int{0, 1, w.Intn(2), w.Intn(2)}[all]})
		}
	}
	return fates
}

// raise has a side that is down be up again, or go down anew on the way; opened again it is the same.
func (w *walk) raise(side int) {
	w.t.Helper()
	n := w.p.Node(side)
	if !n.Disk().Off() {
		w.do(kindOf(side, node.Open))
		return
	}
	told, _ := w.do(stepOf(side, node.Step{Kind: node.Crash, Fates: w.fates(side), N: int64(max(0, w.Intn(8)-4))}))
	if told.Err != api.OK && told.Err != api.ErrOff && told.Err != api.ErrSpace {
		w.fatal("T2: side %d: Crash tells %s", side, shownTold(told))
	}
	for range w.Intn(3) {
		if n.Up() {
			want := n.State()
			w.do(stepOf(side, node.Step{Kind: node.Crash, Fates: w.fates(side), N: int64(w.Intn(3))}))
			if n.Up() && !sameState(n.State(), want) {
				w.fatal("T2: side %d: opened again it is\n%s, and was\n%s", side, shown(n.State()), shown(want))
			}
		}
	}
}

// propose is a step by chance that says something to the peer.
func (w *walk) propose(side int) {
	w.t.Helper()
	s := w.told[side]
	id := removable(w.Rand, s)
	switch w.Intn(6) {
	case 0, 1:
		w.do(offer(side, 1+w.Int63n(200), sum(preimage(side, adds(s.Ours)))))
	case 2:
		w.do(settle(side, id))
	case 3:
		w.do(refuse(side, id, "no"))
	default:
		w.do(kindOf(side, node.Sign))
	}
}

// trouble: the disk is to refuse something, or the power to go, now or later; or the connection breaks.
func (w *walk) trouble(side int) {
	w.t.Helper()
	switch w.Intn(w.mild) {
	case 0, 1, 2:
		w.do(armed(side, int64(1+w.Intn(6))))
	case 3, 4, 5:
		w.do(falls(side, int64(1+w.Intn(6))))
	case 6:
		w.do(stepOf(side, node.Step{Kind: node.Crash, Fates: w.fates(side)}))
	case 7:
		w.do(cuts)
	case 8, 9:
		w.do(loses(side))
	}
}

// turn is a move by chance.
func (w *walk) turn() {
	w.t.Helper()
	side := w.Intn(2)
	w.trouble(side)
	n := w.p.Node(side)
	switch x := w.Intn(30); {
	case !n.Up():
		w.raise(side)
	case x == 0 || len(n.Disk().List()) > 8 && x < 9:
		w.do(kindOf(side, node.Checkpoint))
	case !w.p.Joined() && x < 16:
		w.do(joins)
	case x < 7:
		w.propose(side)
	case len(w.p.Pipe(side)) > 0:
		w.do(delivers(side))
	default:
		w.propose(side)
	}
}

// calm has both be up, with disks that refuse nothing and have room; false: there is none.
func (w *walk) calm() bool {
	w.t.Helper()
	for side, n := range w.p.nodes {
		for i := 0; i < 60 && !n.Up(); i++ {
			w.raise(side)
		}
		w.do(armed(side, 0))
		w.do(falls(side, 0))
		if told, _ := w.do(kindOf(side, node.Checkpoint)); told.Err != api.OK {
			return false
		}
	}
	return true
}

// closes: what a side broadcasts is above all that it revealed, and what the other signed.
func (w *walk) closes(side int) {
	w.t.Helper()
	s := w.told[side]
	told, _ := w.do(kindOf(side, node.Close))
	if told.Err != api.OK {
		w.seen["no closing"]++
		return
	}
	if told.Index <= w.revealed[side] || told.Index != s.Local || told.Text != w.textOf(side, s.Local, w.folded(s, s.At)) || told.Sig != s.Sig {
		w.fatal("T1: side %d broadcasts %d, and has revealed %d", side, told.Index, w.revealed[side])
	}
	if w.closed[side] >= 0 && w.closed[side] != told.Index {
		w.fatal("T1: side %d broadcasts %d and %d", side, w.closed[side], told.Index)
	}
	w.closed[side] = told.Index
	w.seen[fmt.Sprint("broadcast ", min(told.Index, 2))]++
}

// finish: both close, whatever happens to them.
func (w *walk) finish() {
	w.t.Helper()
	for side, n := range w.p.nodes {
		for range 4 {
			if n.Up() {
				w.closes(side)
			}
			w.do(stepOf(side, node.Step{Kind: node.Crash, Fates: w.fates(side)}))
			for range 20 {
				if !n.Up() {
					w.raise(side)
				}
			}
		}
	}
}

// quiet: Quiet comes to its end. The walk doesn't see what is sent meanwhile: but then all is revealed that doesn't count any more.
func (w *walk) quiet() {
	w.t.Helper()
	settled(w.t, "T6", w.p)
	for side, n := range w.p.nodes {
		s := n.State()
		w.told[side], w.under[side] = s, s
		w.revealed[side], w.heard[side] = s.Local-1, s.Acked-1
		w.knows(side)
		text := w.textOf(side, s.Local, w.folded(s, s.At))
		if s.Local > 0 && !seal.Right(w.w.Keys[1-side], text, s.Sig) {
			w.fatal("P24.2: side %d holds a commitment that the other didn't sign: %s", side, shown(s))
		}
		signed := bytesOf(w.t, api.Message{Kind: api.MsgCommit, Index: s.Local, Hash: s.Sig})
		if old, twice := w.signed[1-side][s.Local]; twice && (old != signed || w.texts[1-side][s.Local] != text) {
			w.fatal("P24.2: side %d signs %d in two ways", 1-side, s.Local)
		}
		w.signed[1-side][s.Local], w.texts[1-side][s.Local] = signed, text
	}
}

func roomy() World {
	w := world()
	w.Disk, w.Segment = 1<<22, 1<<16
	return w
}

// P24.2 to P24.4 and T1 to T7 over whole scripts, with crashes, breaks and refusals; in the end Quiet comes to its end.
func TestWalks(t *testing.T) {
	t.Parallel()
	seen := map[string]int{}
	for seed := range int64(120) {
		r := rand.New(rand.NewSource(seed))
		world := roomy()
		narrow := r.Intn(3) == 0
		if narrow {
			world.Disk, world.Segment = pick(r, 5000, 30000), pick(r, 300, 1000, 4096)
		}
		w := newWalk(t, r, world, seen)
		for range pick(r, 20, 100, 300) {
			w.turn()
			if t.Failed() {
				t.Fatalf("in the walk of seed %d", seed)
			}
		}
		if w.calm() && !narrow {
			w.quiet()
			seen["quiet"]++
		}
		seen[fmt.Sprint("commitments ", min(w.told[0].Local, 8)/4*4)]++
		w.finish()
	}
	for _, want := range []string{
		"1 0 0", "1 0 8", "1 0 9", "1 0 40", "1 0 41", "1 0 120", "1 0 130", "2 0 0", "2 8 0", "3 0 0", "4 0 0", "4 0 9", "4 0 40", "5 0 0", "5 5 0",
		"signed again", "the batch under way", "sent again: 0", "sent again: 1", "sent again: 2", "sent again: 3", "quiet", "commitments 0", "commitments 4", "commitments 8",
		"broadcast 0", "broadcast 1", "broadcast 2",
	} {
		if seen[want] < 5 {
			t.Errorf("the walks had %q %d times: %v", want, seen[want], seen)
		}
	}
}
