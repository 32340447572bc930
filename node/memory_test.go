package node

import (
	"fmt"
	"slices"
	"strings"
	"sync"
	"testing"
	"unsafe"

	"escrow/api"
)

// loose is a text whose bytes can be written over.
func loose(text string) (string, []byte) {
	b := []byte(text)
	return unsafe.String(unsafe.SliceData(b), len(b)), b
}

// spoil writes over the lists of a state, and over the room behind them.
func spoil(s api.State) {
	for _, l := range [][]api.Update{s.Ours, s.Peers} {
		for i := range l[:cap(l)] {
			l[:cap(l)][i] = api.Update{Kind: 9, Note: "spoilt"}
		}
	}
	for i := range s.Shelf[:cap(s.Shelf)] {
		s.Shelf[:cap(s.Shelf)][i] = api.Slot{Index: -9}
	}
}

// grown is two nodes whose states have all lists, with updates that are heard and not covered.
func grown(t *testing.T) [2]*Node {
	t.Helper()
	a, b := joined(t)
	for id := range int64(3) {
		does(t, a, b, offer(10, sum(preimage(0, id))))
	}
	fix(t, a, b)
	does(t, b, a, offer(20, none))
	fix(t, b, a)
	does(t, a, b, offer(30, none))
	does(t, b, a, offer(40, none))
	return [2]*Node{a, b}
}

// P23.6: what State answers is the caller's own.
func TestStateIsNewMemory(t *testing.T) {
	nodes, same := grown(t), grown(t)
	for side, n := range nodes {
		want := same[side].State()
		one, other := n.State(), n.State()
		spoil(one)
		tells(t, "P23.6: an answer is written over", n, want)
		if !sameState(other, want) {
			t.Errorf("P23.6: another answer is written over")
		}
		_ = append(other.Ours, api.Update{Kind: 9})
		_ = append(other.Peers, api.Update{Kind: 9})
		tells(t, "P23.6: an answer grows", n, want)
	}
	before, want := nodes[1].State(), same[1].State()
	does(t, nodes[0], nodes[1], offer(5, none))
	fix(t, nodes[0], nodes[1])
	if !sameState(before, want) {
		t.Errorf("P23.6: an answer changed when the node went on")
	}
}

// P23.6: what is to be sent is the caller's own, too.
func TestOutIsNewMemory(t *testing.T) {
	nodes := grown(t)
	a, b := nodes[0], nodes[1]
	sends(t, "P23.6", a, step(Disconnect))
	sends(t, "P23.6", b, step(Disconnect))
	hello := only(t, b, step(Connect))
	only(t, a, step(Connect))
	one := a.Do(taking(hello)).Out
	want := slices.Clone(one)
	if len(one) == 0 {
		t.Fatalf("P23.6: nothing is sent")
	}
	clear(one[:cap(one)])
	sends(t, "P23.6", a, step(Disconnect))
	only(t, a, step(Connect))
	is(t, "P23.6: an answer is written over", a, taking(hello), Told{Out: want})
	told := a.Do(step(Sign))
	signed := told.Out[0]
	clear(told.Out[:cap(told.Out)])
	sends(t, "P23.6", a, step(Disconnect))
	only(t, a, step(Connect))
	is(t, "P23.6: a signature is written over", a, taking(hello), Told{Out: append(want, signed)})
}

// P23.6: texts that are handed in aren't kept, and aren't in what is answered.
func TestTextsAreNotKept(t *testing.T) {
	nodes := grown(t)
	a, b := nodes[0], nodes[1]
	note, noteBytes := loose("a note of side 1")
	told := b.Do(Step{Kind: Refuse, ID: 1, Note: note})
	if told.Err != api.OK || len(told.Out) != 1 {
		t.Fatalf("P23.6: Refuse tells %v", told)
	}
	clear(noteBytes)
	want := api.Update{Kind: api.Fail, ID: 1, Note: "a note of side 1"}
	sent := bytesOf(t, api.Message{Kind: api.MsgFail, ID: 1, Note: want.Note})
	if told.Out[0] != sent {
		t.Errorf("P23.6: what is sent is written over: %q", told.Out[0])
	}
	text, textBytes := loose(sent)
	sends(t, "P23.6", a, taking(text))
	clear(textBytes)
	if s := b.State(); s.Ours[len(s.Ours)-1] != want {
		t.Errorf("P23.6: what was refused is %+v", s.Ours[len(s.Ours)-1])
	}
	if s := a.State(); s.Peers[len(s.Peers)-1] != want {
		t.Errorf("P23.6: what was heard is %+v", s.Peers[len(s.Peers)-1])
	}
	signed, signedBytes := loose(only(t, b, step(Sign)))
	back := a.Do(taking(signed))
	clear(signedBytes)
	if back.Err != api.OK || len(back.Out) != 1 {
		t.Fatalf("P23.6: Take tells %v", back)
	}
	sends(t, "P23.6", a, step(Crash))
	if s := a.State(); s.Peers[len(s.Peers)-1] != want || s.Sig == none {
		t.Errorf("P23.6: what is durable is %s", shown(s))
	}
}

// P23.6: fates are neither changed, with the room behind them, nor kept.
func TestFatesAreNotKept(t *testing.T) {
	a := begun(t, 0)
	is(t, "P23.6", a, Step{Kind: Fall, N: 2}, Told{})
	refused(t, "P23.6", a, offer(600, none), api.ErrOff)
	file, fileBytes := loose("log.0")
	good := frameOf(t, 0, "\x05\x00\x07")
	bytes, bytesBytes := loose(good)
	room := []api.Fate{{File: file, Kind: api.FateReplace, Bytes: bytes}, {File: "mark", Kind: api.FateKept}, {File: "spare", Sector: 9}}
	is(t, "P23.6", a, Step{Kind: Crash, Fates: room[:1]}, Told{})
	if room[0] != (api.Fate{File: "log.0", Kind: api.FateReplace, Bytes: good}) || room[1] != (api.Fate{File: "mark", Kind: api.FateKept}) || room[2] != (api.Fate{File: "spare", Sector: 9}) {
		t.Errorf("P23.6: the fates are changed: %+v", room)
	}
	clear(fileBytes)
	clear(bytesBytes)
	clear(room)
	hasFailed(t, "P23.6", a, 7)
	sends(t, "P23.6", a, step(Crash))
	hasFailed(t, "P23.6: durable", a, 7)
}

// played is what two nodes tell of a script, and what they and their disks are then.
func played(t *testing.T) string {
	nodes := grown(t)
	var all strings.Builder
	for _, s := range []Step{step(Checkpoint), step(Sign), step(Disconnect), step(Connect), {Kind: Fall, N: 2}, offer(1, none), {Kind: Crash}, step(Connect), taking("x"), step(Close), step(Crash)} {
		for side, n := range nodes {
			fmt.Fprintf(&all, "%d %d %+v\n", side, s.Kind, n.Do(s))
		}
	}
	for _, n := range nodes {
		fmt.Fprintln(&all, n.State(), n.Mark(), n.Up(), n.Connected(), n.Greeted(), whole(n.Disk()))
	}
	return all.String()
}

// The same steps tell the same on new nodes, beside one another too (R4): nodes know nothing of one another.
func TestTheSameAgain(t *testing.T) {
	want := played(t)
	var w sync.WaitGroup
	for range 8 {
		w.Go(func() {
			for range 5 {
				if played(t) != want {
					t.Errorf("R4: the same steps tell otherwise")
				}
			}
		})
	}
	w.Wait()
}

// What is no node's own to catch goes on: a step gives up by its own kind of panic alone.
func TestOtherPanicsGoOn(t *testing.T) {
	defer func() {
		if why := recover(); why != "another" {
			t.Errorf("P23.1: what was caught is %v", why)
		}
	}()
	answerOf("another")
}
