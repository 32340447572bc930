package node

import (
	"fmt"
	"math/rand"
	"slices"
	"strings"
	"testing"

	"escrow/api"
	"escrow/disk"
)

// dies: a Take is answered by that error and the one MsgError of that code; the channel is dead from then on, and the connection stays as it is.
func dies(t *testing.T, what string, n *Node, bytes string, want api.Errno, code int) {
	t.Helper()
	lives(t, what, n)
	connected, greeted := n.Connected(), n.Greeted()
	is(t, what, n, taking(bytes), Told{Err: want, Out: []string{bytesOf(t, api.Message{Kind: api.MsgError, Index: int64(code)})}})
	hasFailed(t, what, n, code)
	linked(t, what, n, true, connected, greeted)
}

// garbage is texts that are no message.
func garbage(t *testing.T) []string {
	hello := bytesOf(t, wantHello)
	all := []string{"", "x", "\x00", "\x08", "\x01", "\x06", "\x07", hello[1:], hello[:len(hello)-1], hello + "\x00", hello + hello, strings.Repeat("\x06", 49), strings.Repeat("\xff", 256), strings.Repeat("\x00", 100000), "\x07\xff\xff\xff\xff\xff\xff\xff\xff", "\x03\x00\x05\x00\x02n", "\x03\x00\x05\x00\x02non"}
	r := rand.New(rand.NewSource(23))
	for range 50 {
		b := make([]byte, r.Intn(80))
		r.Read(b)
		if len(b) > 0 {
			b[0] = byte(r.Intn(9)) // no kind that has a length of its own but by chance
		}
		if len(b) > 1 {
			b[1] |= 0x80 // no index, and no ID
		}
		all = append(all, string(b))
	}
	return all
}

// P23.5: a node that is told garbage fails, ahead of the greeting and behind it, and sends nothing but the one error, then and later.
func TestGarbage(t *testing.T) {
	for _, bytes := range garbage(t) {
		for _, greeted := range []bool{false, true} {
			what := fmt.Sprintf("P23.5: %.40x, greeted %v", bytes, greeted)
			n, _ := joined(t)
			if !greeted {
				n = begun(t, 0)
				sends(t, what, n, step(Connect), wantHello)
			}
			dies(t, what, n, bytes, api.ErrMessage, int(api.ErrMessage))
			told := n.State()
			for _, again := range []string{bytes, bytesOf(t, wantHello), bytesOf(t, wantAdd)} {
				refused(t, what, n, taking(again), api.ErrDead)
			}
			for _, s := range []Step{offer(5, none), {Kind: Settle}, {Kind: Refuse}} {
				refused(t, what, n, s, api.ErrDead)
			}
			linked(t, what, n, true, true, greeted)
			sends(t, what, n, step(Crash))
			tells(t, what+": durable", n, told)
			refused(t, what, n, step(Connect), api.ErrDead)
			if told := n.Do(step(Close)); told.Err != api.OK || told.Index != 0 || told.Text == "" {
				t.Errorf("%s: Close tells %v", what, told)
			}
		}
	}
}

// Ahead of the greeting all but a hello is wrong, and behind it a hello.
func TestOutOfTurn(t *testing.T) {
	for _, m := range []api.Message{
		wantAdd,
		{Kind: api.MsgFulfill, ID: 0, Hash: none},
		{Kind: api.MsgFail, ID: 0, Note: "no"},
		{Kind: api.MsgCommit, Index: 1},
		{Kind: api.MsgRevoke, Index: 0},
		{Kind: api.MsgError, Index: 5},
	} {
		n := begun(t, 1)
		sends(t, "P23.1", n, step(Connect), wantHello)
		dies(t, fmt.Sprintf("P23.1: %+v for a hello", m), n, bytesOf(t, m), api.ErrMessage, int(api.ErrMessage))
	}
	n, _ := joined(t)
	dies(t, "P23.1: a second hello", n, bytesOf(t, wantHello), api.ErrMessage, int(api.ErrMessage))
}

// A hello that can't be answered: the channel's error.
func TestWrongHello(t *testing.T) {
	for _, x := range []struct {
		m    api.Message
		want api.Errno
	}{
		{api.Message{Kind: api.MsgHello, Index: 0}, api.ErrIndex},
		{api.Message{Kind: api.MsgHello, Index: 2}, api.ErrIndex},
		{api.Message{Kind: api.MsgHello, Index: 1, Secret: api.Hash{1}}, api.ErrSecret},
		{api.Message{Kind: api.MsgHello, Index: 1, Next: 1}, api.ErrSecret},
		{api.Message{Kind: api.MsgHello, Index: 1, Next: 1, Secret: secretOf(1, 0)}, api.ErrLost},
	} {
		n := begun(t, 1)
		sends(t, "P23.1", n, step(Connect), wantHello)
		dies(t, fmt.Sprintf("P23.1: %+v", x.m), n, bytesOf(t, x.m), x.want, int(x.want))
		if told := n.Do(step(Close)); (told.Err == api.ErrLost) != (x.want == api.ErrLost) {
			t.Errorf("P23.1: Close tells %v behind %d", told, x.want)
		}
	}
}

// What is wrong behind the greeting: the channel's errors.
func TestWrongMessages(t *testing.T) {
	for _, x := range []struct {
		m    api.Message
		want api.Errno
		code int
	}{
		{api.Message{Kind: api.MsgAdd, ID: 1, Amount: 5}, api.ErrUpdate, 120},
		{api.Message{Kind: api.MsgAdd, Amount: 701}, api.ErrFunds, 130},
		{api.Message{Kind: api.MsgFulfill, ID: 0}, api.ErrUpdate, 120},
		{api.Message{Kind: api.MsgFail, ID: 0, Note: "no"}, api.ErrUpdate, 120},
		{api.Message{Kind: api.MsgCommit, Index: 2}, api.ErrIndex, 90},
		{api.Message{Kind: api.MsgCommit, Index: 1}, api.ErrState, 8},
		{api.Message{Kind: api.MsgRevoke, Index: 0}, api.ErrIndex, 90},
		{api.Message{Kind: api.MsgError, Index: 5}, api.ErrDead, 5},
		{api.Message{Kind: api.MsgError, Index: 65535}, api.ErrDead, 65535},
		{api.Message{Kind: api.MsgError, Index: 65536}, api.ErrDead, 160},
		{api.Message{Kind: api.MsgError, Index: 0}, api.ErrDead, 160},
		{api.Message{Kind: api.MsgError, Index: api.MaxIndex}, api.ErrDead, 160},
	} {
		_, n := joined(t)
		dies(t, fmt.Sprintf("P23.1: %+v", x.m), n, bytesOf(t, x.m), x.want, x.code)
	}
	a, b := joined(t)
	does(t, a, b, offer(5, none))
	dies(t, "P23.1: another signature", b, bytesOf(t, api.Message{Kind: api.MsgCommit, Index: 1}), api.ErrSeal, 110)
	if told := b.Do(step(Close)); told.Err != api.OK || told.Index != 0 {
		t.Errorf("P23.1: Close tells %v", told)
	}
	only(t, a, step(Sign))
	dies(t, "P23.1: another secret", a, bytesOf(t, api.Message{Kind: api.MsgRevoke, Index: 0}), api.ErrSecret, 100)
}

// The one error that a node sends, and what the other makes of it.
func TestErrorGoesOver(t *testing.T) {
	a, b := joined(t)
	told := a.Do(taking("x"))
	again := b.Do(taking(told.Out[0]))
	if again.Err != api.ErrDead || !slices.Equal(again.Out, told.Out) {
		t.Errorf("P23.1: Take of the error tells %v", again)
	}
	hasFailed(t, "P23.1", b, int(api.ErrMessage))
	refused(t, "P23.1", a, taking(again.Out[0]), api.ErrDead)
}

// A failure that the disk refuses is answered and sent all the same, and is there till the channel is opened anew; one at which the power goes isn't.
func TestFailureThatTheDiskRefuses(t *testing.T) {
	for n := range int64(2) {
		a, _ := joined(t)
		is(t, "P23.1", a, Step{Kind: Arm, N: 1 + n}, Told{})
		dies(t, "P23.5: refused", a, "x", api.ErrMessage, int(api.ErrMessage))
		refused(t, "P23.1", a, taking("x"), api.ErrDead)
		sends(t, "P23.1", a, step(Crash))
		lives(t, "P23.1: opened anew", a)

		b, _ := joined(t)
		is(t, "P23.1", b, Step{Kind: Fall, N: 1 + n}, Told{})
		refused(t, "P23.1: the power goes", b, taking("x"), api.ErrOff)
		isDown(t, "P23.1", b)
		sends(t, "P23.1", b, step(Crash))
		lives(t, "P23.1: opened anew", b)
	}
}

// Each Write and Sync of a Take that is refused cuts the connection, and sends nothing; behind the next hellos all comes that was missing.
func TestTakeThatTheDiskRefuses(t *testing.T) {
	for n := int64(1); n <= 4; n++ {
		what := fmt.Sprintf("P23.1: refused at %d", n)
		a, b := joined(t)
		does(t, a, b, offer(600, none))
		signed := only(t, a, step(Sign))
		is(t, what, b, Step{Kind: Arm, N: n}, Told{})
		refused(t, what, b, taking(signed), api.ErrDisk)
		lives(t, what, b)
		linked(t, what, b, true, false, false)
		s := b.State()
		// The log has two of them, and the mark: a commitment counts when it is in the log.
		if there := s.Local == 1; there != (n > 2) || len(s.Peers) != int(s.Local) || b.Mark() != -1 {
			t.Errorf("%s: the mark is %d, the state %s", what, b.Mark(), shown(s))
		}
		refused(t, what, b, taking(signed), api.ErrState)
		refused(t, what, b, step(Disconnect), api.ErrState)
		sends(t, what, a, step(Disconnect))
		x, y := greet(t, a, b)
		pass(t, a, b, x)
		pass(t, b, a, y)
		if s := b.State(); s.Local != 1 || b.Mark() != 0 || a.State().Acked != 1 || len(s.Peers) != 1 {
			t.Errorf("%s: behind the hellos: %s", what, shown(s))
		}
	}
}

// A revocation that the disk refuses cuts the connection too, and so does a hello whose mark it refuses.
func TestRevocationAndHelloThatTheDiskRefuses(t *testing.T) {
	a, b := joined(t)
	does(t, a, b, offer(600, none))
	revoked := b.Do(taking(only(t, a, step(Sign)))).Out[0]
	is(t, "P23.1", a, Step{Kind: Arm, N: 1}, Told{})
	before := a.State()
	refused(t, "P23.1", a, taking(revoked), api.ErrDisk)
	tells(t, "P23.1: refused", a, before)
	linked(t, "P23.1: refused", a, true, false, false)

	sends(t, "P23.1", b, step(Disconnect))
	x, y := greet(t, a, b)
	pass(t, a, b, x)
	pass(t, b, a, y)
	does(t, b, a, step(Sign))
	does(t, a, b, offer(5, none))
	signed := only(t, a, step(Sign))
	b.Disk().Arm(2, disk.Syncs)
	refused(t, "P23.1: the mark is refused", b, taking(signed), api.ErrDisk)
	for range 3 {
		only(t, b, step(Connect))
		is(t, "P23.1", b, Step{Kind: Arm, N: 1}, Told{})
		hello := bytesOf(t, api.Message{Kind: api.MsgHello, Index: 2, Next: 1, Secret: secretOf(1, 0)})
		refused(t, "P23.1: the mark is refused again", b, taking(hello), api.ErrDisk)
		linked(t, "P23.1: refused", b, true, false, false)
		lives(t, "P23.1: refused", b)
	}
	sends(t, "P23.1", a, step(Disconnect))
	x, y = greet(t, a, b)
	if l := messagesOf(t, y); len(x) != 0 || len(l) != 1 || l[0].Kind != api.MsgRevoke || l[0].Index != 1 || l[0].Secret != secretOf(1, 1) {
		t.Errorf("P23.1: behind the hellos %+v is said", l)
	}
	if b.Mark() != 1 {
		t.Errorf("P23.2: a secret is told, and the mark is %d", b.Mark())
	}
}

// A message for which the disk has no room is one that the disk refuses.
func TestTakeWithoutRoom(t *testing.T) {
	a := begun(t, 0)
	b, _ := New(128+63, config(1))
	greet(t, a, b)
	does(t, a, b, offer(600, none))
	if len(b.State().Peers) != 1 {
		t.Errorf("P23.1: what was heard: %s", shown(b.State()))
	}
	refused(t, "P23.1: no room", b, taking(only(t, a, step(Sign))), api.ErrSpace)
	lives(t, "P23.1: no room", b)
	linked(t, "P23.1: no room", b, true, false, false)
	if len(b.State().Peers) != 0 {
		t.Errorf("P23.1: not cut: %s", shown(b.State()))
	}
}

// What was heard and isn't covered is forgotten when the connection is gone, however that came.
func TestUncoveredIsForgotten(t *testing.T) {
	for _, gone := range []Step{step(Disconnect), step(Crash)} {
		a, b := joined(t)
		does(t, a, b, offer(10, none))
		does(t, a, b, offer(20, none))
		if len(b.State().Peers) != 2 {
			t.Fatalf("P23.1: heard: %s", shown(b.State()))
		}
		sends(t, "P23.1", b, gone)
		if len(b.State().Peers) != 0 {
			t.Errorf("P23.1: behind step %d: %s", gone.Kind, shown(b.State()))
		}
		sends(t, "P23.1", a, step(Disconnect))
		x, y := greet(t, a, b)
		if len(x) != 2 || len(y) != 0 {
			t.Errorf("P23.1: said again: %x, %x", x, y)
		}
		pass(t, a, b, x)
		fix(t, a, b)
	}
}
