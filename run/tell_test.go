package run

import (
	"fmt"
	"math"
	"strings"
	"testing"

	"escrow/api"
	"escrow/node"
	"escrow/pair"
)

type lineAndMove struct {
	line string
	move pair.Move
}

// junk is a step's fields, all of them with something that no line has room for.
func junk() node.Step {
	long := strings.Repeat("\x00", 5000)
	return node.Step{Kind: 99, Amount: -5, ID: -6, N: -7, Hash: named("junk", 0), Note: long, Bytes: long, Fates: []api.Fate{{Kind: 9, File: long, Bytes: long}}}
}

// everyMove is a move of each kind, and a step of each, with the line that it is; what their kinds don't name holds something.
func everyMove(h api.Hash) []lineAndMove {
	step := func(side int, line string, s node.Step) lineAndMove {
		return lineAndMove{fmt.Sprintf("step %d %s", side, line), pair.Move{Kind: pair.Step, Side: side, Step: s}}
	}
	with := func(change func(s *node.Step)) node.Step {
		s := junk()
		change(&s)
		return s
	}
	note := "a \"note\"\\\n\xff"
	return []lineAndMove{
		{"join", pair.Move{Kind: pair.Join, Side: 7, Step: junk()}},
		{"deliver 0", pair.Move{Kind: pair.Deliver, Step: junk()}},
		{"deliver 1", pair.Move{Kind: pair.Deliver, Side: 1, Step: junk()}},
		step(0, "offer 600 "+digitsOf(h), with(func(s *node.Step) { s.Kind, s.Amount, s.Hash = node.Offer, 600, h })),
		step(0, "sign", with(func(s *node.Step) { s.Kind = node.Sign })),
		{"deliver 1", pair.Move{Kind: pair.Deliver, Side: 1}},
		{"deliver 1", pair.Move{Kind: pair.Deliver, Side: 1}},
		{"deliver 0", pair.Move{Kind: pair.Deliver}},
		step(1, "sign", node.Step{Kind: node.Sign}),
		{"deliver 0", pair.Move{Kind: pair.Deliver}},
		{"deliver 1", pair.Move{Kind: pair.Deliver, Side: 1}},
		step(1, "refuse 1 "+quoted(note), with(func(s *node.Step) { s.Kind, s.ID, s.Note = node.Refuse, 1, note })),
		step(1, fmt.Sprintf("settle 0 %x", preimage(0, 0)), with(func(s *node.Step) { s.Kind, s.ID, s.Hash = node.Settle, 0, preimage(0, 0) })),
		{"lose 0", pair.Move{Kind: pair.Lose, Step: junk()}},
		{"cut", pair.Move{Kind: pair.Cut, Side: -9, Step: junk()}},
		step(0, "connect", node.Step{Kind: node.Connect}),
		step(0, "disconnect", node.Step{Kind: node.Disconnect}),
		step(0, `take "\x00\xff"`, with(func(s *node.Step) { s.Kind, s.Bytes = node.Take, "\x00\xff" })),
		step(0, "checkpoint", with(func(s *node.Step) { s.Kind = node.Checkpoint })),
		step(0, "arm 1", with(func(s *node.Step) { s.Kind, s.N = node.Arm, 1 })),
		step(0, "offer 1 "+zeros, node.Step{Kind: node.Offer, Amount: 1}),
		step(0, "fall 2", with(func(s *node.Step) { s.Kind, s.N = node.Fall, 2 })),
		step(0, "offer 2 "+zeros, node.Step{Kind: node.Offer, Amount: 2}),
		step(0, `crash 1 kept "log.0" 0 replace "log.0" 1 "x\x00" lost "" -1`, with(func(s *node.Step) {
			s.Kind, s.N = node.Crash, 1
			s.Fates = []api.Fate{{File: "log.0", Kind: api.FateKept, Bytes: "junk"}, {File: "log.0", Sector: 1, Kind: api.FateReplace, Bytes: "x\x00"}, {Sector: -1, Bytes: "junk"}}
		})),
		step(0, "open", with(func(s *node.Step) { s.Kind = node.Open })),
		step(0, "crash 0", with(func(s *node.Step) { s.Kind, s.N, s.Fates = node.Crash, 0, nil })),
		step(2, "sign", node.Step{Kind: node.Sign}),
		step(math.MinInt, "close", node.Step{Kind: node.Close}),
		{"deliver 2", pair.Move{Kind: pair.Deliver, Side: 2}},
		{"lose -1", pair.Move{Kind: pair.Lose, Side: -1}},
		step(1, "close", with(func(s *node.Step) { s.Kind = node.Close })),
	}
}

// Tell is Play of the lines that the world and the moves are.
func TestTell(t *testing.T) {
	h := sum(preimage(0, 0))
	lines, moves := []string{begin}, []pair.Move{}
	for _, x := range everyMove(h) {
		lines, moves = append(lines, x.line), append(moves, x.move)
		told, e := Tell(theWorld(), moves)
		if want := mustPlay(t, textOf(lines...)); told != want || e != api.OK {
			t.Fatalf("P26.1: Tell of %d moves, the last %q, tells %s, %d, want %s", len(moves), x.line, cutShort(told), e, cutShort(want))
		}
	}
	if told, e := Tell(theWorld(), nil); told != "ok\n" || e != api.OK {
		t.Errorf("P26.1: Tell of a world tells %q, %d", told, e)
	}
	for _, x := range everyMove(h) {
		told, e := Tell(theWorld(), []pair.Move{x.move})
		if want := mustPlay(t, textOf(begin, x.line)); told != want || e != api.OK {
			t.Errorf("P26.1: Tell of %q tells %s, %d, want %s", x.line, cutShort(told), e, cutShort(want))
		}
	}
}

// Commands that are no lines: kinds that are none, lines that are too long, and too many.
func TestTellRefused(t *testing.T) {
	w := theWorld()
	right := pair.Move{Kind: pair.Join}
	for _, k := range []int{0, 6, 7, -1, 256 + 2, 1<<32 + 2, math.MaxInt, math.MinInt} {
		tellRefused(t, "a kind of moves", w, []pair.Move{{Kind: k}})
		tellRefused(t, "a kind of moves", w, []pair.Move{right, {Kind: k}, right})
	}
	for _, k := range []int{0, 14, 15, -1, 256 + 4, 1<<32 + 4, math.MaxInt, math.MinInt} {
		tellRefused(t, "a kind of steps", w, []pair.Move{right, {Kind: pair.Step, Step: node.Step{Kind: k}}})
	}
	for _, k := range []int{3, -1, 256, 1 << 32, math.MaxInt, math.MinInt} {
		tellRefused(t, "a kind of fates", w, []pair.Move{{Kind: pair.Step, Step: node.Step{Kind: node.Crash, Fates: []api.Fate{{}, {Kind: k}}}}})
	}
	for _, n := range []int{4083, 4084, 5000, 1 << 20} {
		tellRefused(t, "a long line", w, []pair.Move{{Kind: pair.Step, Step: node.Step{Kind: node.Take, Bytes: strings.Repeat("x", n)}}})
	}
	tellRefused(t, "a long line of escapes", w, []pair.Move{{Kind: pair.Step, Step: node.Step{Kind: node.Take, Bytes: strings.Repeat("\x00", 1021)}}})
	long := pair.Move{Kind: pair.Step, Step: node.Step{Kind: node.Take, Bytes: strings.Repeat("x", 4000)}}
	var l []pair.Move
	for range 17 {
		l = append(l, long)
	}
	tellRefused(t, "a long text", w, l)
	// One line fewer, and a line of 4096 bytes, may be.
	is := func(want string, l []pair.Move) {
		t.Helper()
		if told, e := Tell(w, l); told != want || e != api.OK {
			t.Errorf("P26.1: Tell of %d moves tells %s, %d, want %s", len(l), cutShort(told), e, cutShort(want))
		}
	}
	is("ok\n"+strings.Repeat("no 1\n", 16), l[:16])
	is("ok\nno 1\n", []pair.Move{{Kind: pair.Step, Step: node.Step{Kind: node.Take, Bytes: strings.Repeat("x", 4082)}}})
}

// A world and 1023 moves are as many lines as there may be.
func TestTellOfManyMoves(t *testing.T) {
	l := []pair.Move{{Kind: pair.Join}}
	for len(l) < 1<<17 {
		l = append(l, pair.Move{Kind: pair.Join})
	}
	for _, n := range []int{1022, 1023} {
		if told, e := Tell(theWorld(), l[:n]); told != "ok\nok 0\n"+strings.Repeat("no 8\n", n-1) || e != api.OK {
			t.Errorf("P26.1: Tell of %d moves tells %s, %d", n, cutShort(told), e)
		}
	}
	for _, n := range []int{1024, 1025, 2048, 1 << 17} {
		tellRefused(t, "many moves", theWorld(), l[:n])
	}
	// A kind that is none, too, is refused with nothing else.
	tellRefused(t, "many moves", theWorld(), append(l[:1023:1023], pair.Move{}))
}

// Worlds that pair's New refuses, with moves and without.
func TestTellOfWorlds(t *testing.T) {
	for _, change := range []func(w *pair.World){
		func(w *pair.World) { *w = pair.World{} },
		func(w *pair.World) { w.Capacity = 0 }, func(w *pair.World) { w.Capacity = -1 }, func(w *pair.World) { w.Capacity = 699 }, func(w *pair.World) { w.Capacity = api.MaxAmount + 1 },
		func(w *pair.World) { w.Ours = -1 }, func(w *pair.World) { w.Ours = 1001 }, func(w *pair.World) { w.Ours = math.MinInt64 },
		func(w *pair.World) { w.Disk = -1 }, func(w *pair.World) { w.Disk = 127 }, func(w *pair.World) { w.Disk = 16777217 },
		func(w *pair.World) { w.Segment = 63 }, func(w *pair.World) { w.Segment = math.MaxInt },
	} {
		w := theWorld()
		change(&w)
		tellRefused(t, fmt.Sprintf("the world %+v", w), w, nil)
		tellRefused(t, fmt.Sprintf("the world %+v", w), w, []pair.Move{{Kind: pair.Join}})
	}
	w := pair.World{Capacity: 1, Ours: 1, Disk: 128, Segment: 64}
	if told, e := Tell(w, []pair.Move{{Kind: pair.Cut}}); told != "ok\nno 8\n" || e != api.OK {
		t.Errorf("P26.1: Tell of a small world tells %q, %d", told, e)
	}
}
