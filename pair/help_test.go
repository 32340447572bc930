package pair

import (
	"crypto/sha256"
	"fmt"
	"reflect"
	"slices"
	"strings"
	"sync"
	"testing"

	"escrow/api"
	"escrow/disk"
	"escrow/msg"
	"escrow/node"
	"escrow/seed"
)

var none api.Hash

func named(what string, n int64) api.Hash { return sha256.Sum256(fmt.Append(nil, what, n)) }

func sum(h api.Hash) api.Hash { return sha256.Sum256(h[:]) }

// preimage is the one of the add that a side makes with an ID.
func preimage(side int, id int64) api.Hash { return named(fmt.Sprint("preimage of side ", side), id) }

type numbered struct {
	side int
	n    int64
}

// secrets are those that were asked for already: they are asked for often.
var secrets sync.Map

func secretOf(side int, n int64) api.Hash {
	if h, known := secrets.Load(numbered{side, n}); known {
		return h.(api.Hash)
	}
	h, _ := seed.Secret(named("seed", int64(side)), n)
	secrets.Store(numbered{side, n}, h)
	return h
}

// world is the one of the chapter's examples.
func world() World {
	return World{
		Capacity: 1000, Ours: 700, Disk: 65536, Segment: 4096,
		Seeds: [2]api.Hash{named("seed", 0), named("seed", 1)},
		Keys:  [2]api.Hash{named("key", 0), named("key", 1)},
	}
}

// wantConfig is what a side has of such a world, as the chapter says it.
func wantConfig(w World, side int) api.Config {
	if side == 0 {
		return api.Config{
			Side: 0, Capacity: w.Capacity, Ours: w.Ours, Segment: w.Segment, Seed: w.Seeds[0], Key: w.Keys[0], PeerKey: w.Keys[1],
			Points: [2]api.Hash{sum(secretOf(1, 0)), sum(secretOf(1, 1))},
		}
	}
	return api.Config{
		Side: 1, Capacity: w.Capacity, Ours: w.Capacity - w.Ours, Segment: w.Segment, Seed: w.Seeds[1], Key: w.Keys[1], PeerKey: w.Keys[0],
		Points: [2]api.Hash{sum(secretOf(0, 0)), sum(secretOf(0, 1))},
	}
}

func begunIn(t *testing.T, w World) *Pair {
	t.Helper()
	p, e := New(w)
	if p == nil || e != api.OK {
		t.Fatalf("P24.1: New = %v, %d", p, e)
	}
	return p
}

func begun(t *testing.T) *Pair {
	t.Helper()
	return begunIn(t, world())
}

func stepOf(side int, s node.Step) Move { return Move{Kind: Step, Side: side, Step: s} }

func kindOf(side, kind int) Move { return stepOf(side, node.Step{Kind: kind}) }

func offer(side int, amount int64, hash api.Hash) Move {
	return stepOf(side, node.Step{Kind: node.Offer, Amount: amount, Hash: hash})
}

func settle(side int, id int64) Move {
	return stepOf(side, node.Step{Kind: node.Settle, ID: id, Hash: preimage(1-side, id)})
}

func refuse(side int, id int64, note string) Move {
	return stepOf(side, node.Step{Kind: node.Refuse, ID: id, Note: note})
}

func armed(side int, n int64) Move { return stepOf(side, node.Step{Kind: node.Arm, N: n}) }

func falls(side int, n int64) Move { return stepOf(side, node.Step{Kind: node.Fall, N: n}) }

var (
	joins = Move{Kind: Join}
	cuts  = Move{Kind: Cut}
)

func delivers(side int) Move { return Move{Kind: Deliver, Side: side} }

func loses(side int) Move { return Move{Kind: Lose, Side: side} }

func bytesOf(t *testing.T, m api.Message) string {
	t.Helper()
	b, e := msg.Write(m)
	if e != api.OK {
		t.Fatalf("msg.Write(%+v): %d", m, e)
	}
	return b
}

// messagesOf is what texts say, each of which is a message's.
func messagesOf(t *testing.T, l []string) []api.Message {
	t.Helper()
	var all []api.Message
	for _, b := range l {
		m, e := msg.Read(b)
		if e != api.OK {
			t.Fatalf("P24.1: %x is no message", b)
		}
		all = append(all, m)
	}
	return all
}

// kinds is the kinds of messages, and their indexes where they have any.
func kinds(t *testing.T, l []string) string {
	t.Helper()
	var all []string
	for _, m := range messagesOf(t, l) {
		switch m.Kind {
		case api.MsgAdd, api.MsgFulfill, api.MsgFail:
			all = append(all, fmt.Sprint([]string{"", "add ", "fulfill ", "fail "}[m.Kind], m.ID))
		case api.MsgHello:
			all = append(all, fmt.Sprint("hello ", m.Index, " ", m.Next))
		default:
			all = append(all, fmt.Sprint([]string{"commit ", "revoke ", "", "error "}[m.Kind-api.MsgCommit], m.Index))
		}
	}
	return strings.Join(all, ", ")
}

func sameTold(a, b node.Told) bool {
	return a.Err == b.Err && slices.Equal(a.Out, b.Out) && a.Index == b.Index && a.Text == b.Text && a.Sig == b.Sig
}

func shownTold(x node.Told) string {
	return fmt.Sprintf("{error %d, sends %x, broadcasts %d %x %x}", int(x.Err), x.Out, x.Index, x.Text, x.Sig)
}

func sameState(a, b api.State) bool {
	if !slices.Equal(a.Ours, b.Ours) || !slices.Equal(a.Peers, b.Peers) || !slices.Equal(a.Shelf, b.Shelf) {
		return false
	}
	a.Ours, a.Peers, a.Shelf = nil, nil, nil
	b.Ours, b.Peers, b.Shelf = nil, nil, nil
	return reflect.DeepEqual(a, b)
}

// shown is a state without its shelf.
func shown(s api.State) string {
	k := len(s.Shelf)
	s.Shelf = nil
	return fmt.Sprintf("%d slots: %+v", k, s)
}

// diskOf is what is seen of a disk, and what is dirty.
func diskOf(b *strings.Builder, d *disk.Disk) {
	fmt.Fprintln(b, d.Off(), d.Used())
	for _, name := range d.List() {
		text, e := d.Read(name, 0, api.MaxFile)
		fmt.Fprintln(b, name, int(e), d.Dirty(name), len(text), text)
	}
}

// disksOf is a node's disk, as it is and as a crash without fates leaves it.
func disksOf(n *node.Node) string {
	var b strings.Builder
	diskOf(&b, n.Disk())
	c := n.Disk().Copy()
	c.Crash(nil)
	c.On()
	diskOf(&b, c)
	return b.String()
}

// nodeOf is all that a node tells, with its disk.
func nodeOf(b *strings.Builder, n *node.Node) {
	code, dead := n.Dead()
	fmt.Fprintln(b, shown(n.State()), n.State().Shelf, n.Mark(), code, dead, n.Up(), n.Connected(), n.Greeted(), disksOf(n))
}

// whole is all that a pair tells.
func whole(p *Pair) string {
	var b strings.Builder
	for side := range 2 {
		nodeOf(&b, p.Node(side))
		fmt.Fprintf(&b, "%x\n", p.Pipe(side))
	}
	fmt.Fprintln(&b, p.Joined())
	return b.String()
}

// refused: the move is answered by that error and nothing else, and nothing is told otherwise then.
func refused(t *testing.T, what string, p *Pair, m Move, want api.Errno) {
	t.Helper()
	before := whole(p)
	told, e := p.Do(m)
	if e != want || !sameTold(told, node.Told{}) {
		t.Fatalf("%s: move %+v tells %s, %d, want %d", what, m, shownTold(told), e, want)
	}
	if whole(p) != before {
		t.Fatalf("%s: move %+v, refused with %d, makes\n%q of\n%q", what, m, e, whole(p), before)
	}
}

// done: the move isn't refused; what it tells.
func done(t *testing.T, what string, p *Pair, m Move) node.Told {
	t.Helper()
	told, e := p.Do(m)
	if e != api.OK {
		t.Fatalf("%s: move %+v is refused with %d", what, m, e)
	}
	return told
}

// tells: the move isn't refused, and tells just that error, and nothing to be sent.
func tells(t *testing.T, what string, p *Pair, m Move, want api.Errno) {
	t.Helper()
	if told := done(t, what, p, m); !sameTold(told, node.Told{Err: want}) {
		t.Fatalf("%s: move %+v tells %s, want %d", what, m, shownTold(told), want)
	}
}

// sends: the move isn't refused, and tells that these are sent, and nothing else.
func sends(t *testing.T, what string, p *Pair, m Move, want string) []string {
	t.Helper()
	told := done(t, what, p, m)
	if !sameTold(told, node.Told{Out: told.Out}) || kinds(t, told.Out) != want {
		t.Fatalf("%s: move %+v tells %s, which is %q, want %q", what, m, shownTold(told), kinds(t, told.Out), want)
	}
	return told.Out
}

// underWay: these messages are in the pipes to side 0 and to side 1.
func underWay(t *testing.T, what string, p *Pair, to0, to1 string) {
	t.Helper()
	if a, b := kinds(t, p.Pipe(0)), kinds(t, p.Pipe(1)); a != to0 || b != to1 {
		t.Fatalf("%s: under way are %q and %q, want %q and %q", what, a, b, to0, to1)
	}
}

// isJoined: both are connected; whether they are greeted.
func isJoined(t *testing.T, what string, p *Pair, greeted0, greeted1 bool) {
	t.Helper()
	a, b := p.Node(0), p.Node(1)
	if !p.Joined() || !a.Connected() || !b.Connected() || a.Greeted() != greeted0 || b.Greeted() != greeted1 {
		t.Fatalf("%s: joined %v, connected %v, %v, greeted %v, %v", what, p.Joined(), a.Connected(), b.Connected(), a.Greeted(), b.Greeted())
	}
}

// isParted: neither is connected, and nothing is under way.
func isParted(t *testing.T, what string, p *Pair) {
	t.Helper()
	a, b := p.Node(0), p.Node(1)
	if p.Joined() || a.Connected() || b.Connected() || a.Greeted() || b.Greeted() || len(p.Pipe(0))+len(p.Pipe(1)) > 0 {
		t.Fatalf("%s: joined %v, connected %v, %v, pipes %x, %x", what, p.Joined(), a.Connected(), b.Connected(), p.Pipe(0), p.Pipe(1))
	}
	for side, n := range []*node.Node{a, b} {
		if s := n.State(); len(s.Peers) != s.At.Peers {
			t.Fatalf("%s: side %d still has what isn't covered: %s", what, side, shown(s))
		}
	}
}

// greet joins the two and delivers the hellos, to which nothing is said.
func greet(t *testing.T, p *Pair) {
	t.Helper()
	sends(t, "P24.1", p, joins, "")
	sends(t, "P24.1", p, delivers(1), "")
	sends(t, "P24.1", p, delivers(0), "")
	isJoined(t, "P24.1", p, true, true)
}

// greeted are two that have greeted one another, with nothing done.
func greeted(t *testing.T) *Pair {
	t.Helper()
	p := begun(t)
	greet(t, p)
	return p
}

// settled: Quiet comes to its end, and all is as P24.4 says; how many deliveries it made.
func settled(t *testing.T, what string, p *Pair) int {
	t.Helper()
	n, ok := p.Quiet(1 << 20)
	if !ok {
		t.Fatalf("%s: Quiet answers %d, false", what, n)
	}
	mirrored(t, what, p)
	return n
}

// mirrored: both sides' states mirror one another, nothing is under way, and each mark is one below its commitment's index.
func mirrored(t *testing.T, what string, p *Pair) {
	t.Helper()
	if !p.Joined() || len(p.Pipe(0))+len(p.Pipe(1)) > 0 {
		t.Fatalf("%s: joined %v, pipes %x, %x", what, p.Joined(), p.Pipe(0), p.Pipe(1))
	}
	for side := range 2 {
		s, other := p.Node(side).State(), p.Node(1-side).State()
		all := api.Counts{Ours: len(s.Ours), Peers: len(s.Peers)}
		points := [2]api.Hash{sum(secretOf(1-side, s.Acked)), sum(secretOf(1-side, s.Acked+1))}
		if !slices.Equal(s.Peers, other.Ours) || s.BasePeers != other.BaseOurs || s.At != all || s.Signed != all || s.Held != all || s.Points != points ||
			s.Remote != s.Acked || s.Local != other.Remote || p.Node(side).Mark() != s.Local-1 || s.Failed != 0 || s.Closed != -1 {
			t.Fatalf("%s: side %d has the mark %d and is\n%s, the other\n%s", what, side, p.Node(side).Mark(), shown(s), shown(other))
		}
	}
}
