package node

import (
	"crypto/sha256"
	"fmt"
	"reflect"
	"slices"
	"strings"
	"testing"

	"escrow/api"
	"escrow/channel"
	"escrow/check"
	"escrow/disk"
	"escrow/frame"
	"escrow/mark"
	"escrow/msg"
	"escrow/seed"
	"escrow/store"
)

var none api.Hash

func sum(h api.Hash) api.Hash { return sha256.Sum256(h[:]) }

func named(what string, n int64) api.Hash { return sha256.Sum256(fmt.Append(nil, what, n)) }

// preimage is the one of the add that a side makes with an ID.
func preimage(side int, id int64) api.Hash { return named(fmt.Sprint("preimage of side ", side), id) }

func secretOf(side int, n int64) api.Hash {
	h, _ := seed.Secret(named("seed", int64(side)), n)
	return h
}

// config is the one of a side of the chapter's examples.
func config(side int) api.Config {
	return api.Config{
		Side: side, Capacity: 1000, Ours: []int64{700, 300}[side], Segment: 4096,
		Seed: named("seed", int64(side)), Key: named("key", int64(side)), PeerKey: named("key", int64(1-side)),
		Points: [2]api.Hash{sum(secretOf(1-side, 0)), sum(secretOf(1-side, 1))},
	}
}

func begun(t *testing.T, side int) *Node {
	t.Helper()
	n, e := New(65536, config(side))
	if n == nil || e != api.OK {
		t.Fatalf("P23.1: New = %v, %d", n, e)
	}
	return n
}

// on is a node on a disk that is there already; nil, if its channel can't be opened.
func on(d *disk.Disk, side int) *Node {
	ch, e := channel.Open(d, config(side))
	if e != api.OK {
		return nil
	}
	return &Node{config: config(side), disk: d, channel: ch}
}

func step(kind int) Step { return Step{Kind: kind} }

func offer(amount int64, hash api.Hash) Step { return Step{Kind: Offer, Amount: amount, Hash: hash} }

func taking(bytes string) Step { return Step{Kind: Take, Bytes: bytes} }

func bytesOf(t *testing.T, m api.Message) string {
	t.Helper()
	b, e := msg.Write(m)
	if e != api.OK {
		t.Fatalf("msg.Write(%+v): %d", m, e)
	}
	return b
}

// messagesOf is what an Out says; each of its texts is a message's.
func messagesOf(t *testing.T, out []string) []api.Message {
	t.Helper()
	var l []api.Message
	for _, b := range out {
		m, e := msg.Read(b)
		if e != api.OK {
			t.Fatalf("P23.1: Out has %x, which is no message", b)
		}
		l = append(l, m)
	}
	return l
}

// String is what is told, its bytes in digits.
func (x Told) String() string {
	return fmt.Sprintf("{error %d, sends %x, broadcasts %d %x %x}", int(x.Err), x.Out, x.Index, x.Text, x.Sig)
}

func sameTold(a, b Told) bool {
	return a.Err == b.Err && slices.Equal(a.Out, b.Out) && a.Index == b.Index && a.Text == b.Text && a.Sig == b.Sig
}

// is: the step is answered just so.
func is(t *testing.T, what string, n *Node, s Step, want Told) {
	t.Helper()
	if got := n.Do(s); !sameTold(got, want) {
		t.Fatalf("%s: step %d tells %v, want %v", what, s.Kind, got, want)
	}
}

// refused: the step is answered by that error alone.
func refused(t *testing.T, what string, n *Node, s Step, want api.Errno) {
	t.Helper()
	is(t, what, n, s, Told{Err: want})
}

// sends: the step is OK, and just these are to be sent.
func sends(t *testing.T, what string, n *Node, s Step, want ...api.Message) {
	t.Helper()
	var out []string
	for _, m := range want {
		out = append(out, bytesOf(t, m))
	}
	is(t, what, n, s, Told{Out: out})
}

// only is the one message that a step sends, as bytes.
func only(t *testing.T, n *Node, s Step) string {
	t.Helper()
	told := n.Do(s)
	if told.Err != api.OK || len(told.Out) != 1 {
		t.Fatalf("P23.1: step %d tells %v, want one message", s.Kind, told)
	}
	return told.Out[0]
}

// linked: is the node up, connected and greeted, or not?
func linked(t *testing.T, what string, n *Node, up, connected, greeted bool) {
	t.Helper()
	if n.Up() != up || n.Connected() != connected || n.Greeted() != greeted {
		t.Fatalf("%s: up %v, connected %v, greeted %v, want %v, %v, %v", what, n.Up(), n.Connected(), n.Greeted(), up, connected, greeted)
	}
}

// isDown: the node is down, and tells so.
func isDown(t *testing.T, what string, n *Node) {
	t.Helper()
	linked(t, what, n, false, false, false)
	code, dead := n.Dead()
	if !reflect.DeepEqual(n.State(), api.State{}) || n.Mark() != -1 || code != 0 || dead {
		t.Fatalf("%s: a node that is down tells %v, %d, %d, %v", what, n.State(), n.Mark(), code, dead)
	}
}

// hasFailed: the channel is dead with that code; with 0 it is closed alone.
func hasFailed(t *testing.T, what string, n *Node, want int) {
	t.Helper()
	if code, dead := n.Dead(); code != want || !dead || n.State().Failed != want {
		t.Fatalf("%s: Dead tells %d, %v, want %d", what, code, dead, want)
	}
}

func lives(t *testing.T, what string, n *Node) {
	t.Helper()
	if code, dead := n.Dead(); code != 0 || dead || !n.Up() {
		t.Fatalf("%s: Dead tells %d, %v", what, code, dead)
	}
}

func sameState(a, b api.State) bool {
	if !slices.Equal(a.Ours, b.Ours) || !slices.Equal(a.Peers, b.Peers) || !slices.Equal(a.Shelf, b.Shelf) {
		return false
	}
	a.Ours, a.Peers, a.Shelf = nil, nil, nil
	b.Ours, b.Peers, b.Shelf = nil, nil, nil
	return reflect.DeepEqual(a, b)
}

// shown is a state without its shelf.
func shown(s api.State) string {
	k := len(s.Shelf)
	s.Shelf = nil
	return fmt.Sprintf("%d slots: %+v", k, s)
}

func tells(t *testing.T, what string, n *Node, want api.State) {
	t.Helper()
	if got := n.State(); !sameState(got, want) {
		t.Fatalf("%s: the state is\n%s, want\n%s", what, shown(got), shown(want))
	}
}

// telling is what is seen of a disk, and what is dirty.
func telling(b *strings.Builder, d *disk.Disk) {
	fmt.Fprintln(b, d.Off(), d.Used())
	for _, name := range d.List() {
		text, e := d.Read(name, 0, api.MaxFile)
		fmt.Fprintln(b, name, int(e), d.Dirty(name), len(text), text)
	}
}

// whole is what may be told of a disk: what is safe too, as a crash without fates leaves it.
func whole(d *disk.Disk) string {
	var b strings.Builder
	telling(&b, d)
	c := d.Copy()
	c.Crash(nil)
	c.On()
	telling(&b, c)
	return b.String()
}

// unasked: a step does nothing to the disk, and nothing that the looks tell.
func unasked(t *testing.T, what string, n *Node, do func()) {
	t.Helper()
	before, state, mark := whole(n.disk), n.State(), n.Mark()
	up, connected, greeted := n.Up(), n.Connected(), n.Greeted()
	do()
	if whole(n.disk) != before {
		t.Fatalf("%s: the disk is changed", what)
	}
	tells(t, what, n, state)
	if n.Mark() != mark {
		t.Fatalf("%s: the mark is %d, and was %d", what, n.Mark(), mark)
	}
	linked(t, what, n, up, connected, greeted)
}

// greet has two nodes greet one another; what each says to the other's hello.
func greet(t *testing.T, a, b *Node) ([]string, []string) {
	t.Helper()
	x, y := only(t, a, step(Connect)), only(t, b, step(Connect))
	p, q := a.Do(taking(y)), b.Do(taking(x))
	if p.Err != api.OK || q.Err != api.OK {
		t.Fatalf("P23.1: the hellos are answered by %d, %d", p.Err, q.Err)
	}
	linked(t, "P23.1: behind the hello", a, true, true, true)
	linked(t, "P23.1: behind the hello", b, true, true, true)
	return p.Out, q.Out
}

// joined are two nodes that have greeted one another.
func joined(t *testing.T) (*Node, *Node) {
	t.Helper()
	a, b := begun(t, 0), begun(t, 1)
	if x, y := greet(t, a, b); len(x)+len(y) != 0 {
		t.Fatalf("P23.1: to the first hellos %x and %x are said", x, y)
	}
	return a, b
}

// pass has b take what a sends, and a what b says to it, till nothing is left.
func pass(t *testing.T, a, b *Node, out []string) {
	t.Helper()
	for _, x := range out {
		told := b.Do(taking(x))
		if told.Err != api.OK {
			t.Fatalf("P23.1: Take of %x tells %v", x, told)
		}
		pass(t, b, a, told.Out)
	}
}

// does is a step of a that goes over to b.
func does(t *testing.T, a, b *Node, s Step) {
	t.Helper()
	told := a.Do(s)
	if told.Err != api.OK {
		t.Fatalf("P23.1: step %d tells %v", s.Kind, told)
	}
	pass(t, a, b, told.Out)
}

// fix has what is proposed stand in both commitments.
func fix(t *testing.T, a, b *Node) {
	t.Helper()
	does(t, a, b, step(Sign))
	does(t, b, a, step(Sign))
}

// frameOf is the frame of a payload with a number.
func frameOf(t *testing.T, number int64, payload string) string {
	t.Helper()
	text, e := frame.Frame(number, payload)
	if e != api.OK {
		t.Fatalf("frame.Frame: %d", e)
	}
	return text
}

// raiseMark raises the mark on a disk, as others may.
func raiseMark(t *testing.T, d *disk.Disk, to int64) {
	t.Helper()
	m, e := mark.Open(d, "mark")
	if e == api.OK {
		e = m.Raise(to)
	}
	if e != api.OK {
		t.Fatalf("the mark can't be raised: %d", e)
	}
}

// layState has a disk hold a checkpoint of a state, and a mark.
func layState(t *testing.T, d *disk.Disk, s api.State, value int64) {
	t.Helper()
	b, e := store.Write(0, s)
	if e == api.OK {
		e = check.Save(d, "check", b)
	}
	if e != api.OK {
		t.Fatalf("the state can't be laid: %d", e)
	}
	raiseMark(t, d, value)
}
