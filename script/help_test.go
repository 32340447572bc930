package script

import (
	"encoding/hex"
	"fmt"
	"math"
	"math/rand"
	"reflect"
	"strings"
	"testing"

	"escrow/api"
	"escrow/node"
	"escrow/pair"
)

var zeros = strings.Repeat("0", 64)

// rising is a hash no two bytes of which are alike, and its digits.
func rising(first byte) api.Hash {
	var h api.Hash
	for i := range h {
		h[i] = first + byte(7*i)
	}
	return h
}

func digitsOf(h api.Hash) string { return hex.EncodeToString(h[:]) }

func stepOf(side int, s node.Step) Command {
	return Command{Kind: Move, Move: pair.Move{Kind: pair.Step, Side: side, Step: s}}
}

func moveOf(kind, side int) Command {
	return Command{Kind: Move, Move: pair.Move{Kind: kind, Side: side}}
}

func crashOf(n int64, fates ...api.Fate) Command {
	return stepOf(0, node.Step{Kind: node.Crash, N: n, Fates: fates})
}

type sample struct {
	line string
	want Command
}

// samples are lines of each kind in their own form, with what the chapter says that they are.
func samples() []sample {
	a, b, c, d := rising(1), rising(40), rising(130), rising(201)
	return []sample{
		{"world 1000 700 65536 4096 " + digitsOf(a) + " " + digitsOf(b) + " " + digitsOf(c) + " " + digitsOf(d), Command{Kind: 1, World: pair.World{Capacity: 1000, Ours: 700, Disk: 65536, Segment: 4096, Seeds: [2]api.Hash{a, b}, Keys: [2]api.Hash{c, d}}}},
		{"world -1 0 -9223372036854775808 9223372036854775807 " + zeros + " " + zeros + " " + zeros + " " + digitsOf(d), Command{Kind: 1, World: pair.World{Capacity: -1, Disk: math.MinInt64, Segment: math.MaxInt64, Keys: [2]api.Hash{{}, d}}}},
		{"join", moveOf(2, 0)},
		{"cut", moveOf(3, 0)},
		{"deliver 1", moveOf(4, 1)},
		{"deliver 0", moveOf(4, 0)},
		{"lose 0", moveOf(5, 0)},
		{"lose -9223372036854775808", moveOf(5, math.MinInt64)},
		{"quiet 100", Command{Kind: 3, N: 100}},
		{"quiet -9223372036854775808", Command{Kind: 3, N: math.MinInt64}},
		{"state 1", Command{Kind: 4, Side: 1}},
		{"ledger 9223372036854775807", Command{Kind: 5, Side: math.MaxInt64}},
		{"mark 0", Command{Kind: 6}},
		{"pipe -1", Command{Kind: 7, Side: -1}},
		{"files 2", Command{Kind: 8, Side: 2}},
		{"joined", Command{Kind: 9}},
		{"step 0 offer 600 " + digitsOf(a), stepOf(0, node.Step{Kind: 1, Amount: 600, Hash: a})},
		{"step 1 settle 2 " + digitsOf(b), stepOf(1, node.Step{Kind: 2, ID: 2, Hash: b})},
		{`step -3 refuse 2 "no"`, stepOf(-3, node.Step{Kind: 3, ID: 2, Note: "no"})},
		{`step 0 refuse -1 ""`, stepOf(0, node.Step{Kind: 3, ID: -1})},
		{"step 0 sign", stepOf(0, node.Step{Kind: 4})},
		{"step 1 close", stepOf(1, node.Step{Kind: 5})},
		{"step 9223372036854775807 connect", stepOf(math.MaxInt64, node.Step{Kind: 6})},
		{"step -9223372036854775808 disconnect", stepOf(math.MinInt64, node.Step{Kind: 7})},
		{`step 0 take "\x00 a\"\\~\x7f\xff# "`, stepOf(0, node.Step{Kind: 8, Bytes: "\x00 a\"\\~\x7f\xff# "})},
		{`step 0 take ""`, stepOf(0, node.Step{Kind: 8})},
		{"step 1 checkpoint", stepOf(1, node.Step{Kind: 9})},
		{"step 0 arm 2", stepOf(0, node.Step{Kind: 10, N: 2})},
		{"step 0 fall -7", stepOf(0, node.Step{Kind: 11, N: -7})},
		{"step 0 crash 0", crashOf(0)},
		{`step 0 crash 3 lost "mark" 1`, crashOf(3, api.Fate{File: "mark", Sector: 1})},
		{`step 0 crash -1 kept "log.0" 1 replace "log.0" 2 "a\x00" lost "" -1`, crashOf(-1, api.Fate{File: "log.0", Sector: 1, Kind: 1}, api.Fate{File: "log.0", Sector: 2, Kind: 2, Bytes: "a\x00"}, api.Fate{Sector: -1})},
		{`step 0 crash 1 replace " lost \"x\" 1" 0 " " replace "" 0 ""`, crashOf(1, api.Fate{File: ` lost "x" 1`, Kind: 2, Bytes: " "}, api.Fate{Kind: 2})},
		{"step 0 open", stepOf(0, node.Step{Kind: 13})},
	}
}

// settled is the same command with nil for fates of which there are none.
func settled(c Command) Command {
	if len(c.Move.Step.Fates) == 0 {
		c.Move.Step.Fates = nil
	}
	return c
}

func sameCommand(a, b Command) bool { return reflect.DeepEqual(settled(a), settled(b)) }

func sameCommands(a, b []Command) bool {
	if len(a) != len(b) {
		return false
	}
	for i := range a {
		if !sameCommand(a[i], b[i]) {
			return false
		}
	}
	return true
}

// shown is a text's beginning, to be told in a test's error.
func shown(text string) string {
	if len(text) > 300 {
		return fmt.Sprintf("%q.. (%d bytes)", text[:300], len(text))
	}
	return fmt.Sprintf("%q", text)
}

func reads(t *testing.T, promise, text string, want ...Command) {
	t.Helper()
	if got, e := Parse(text); !sameCommands(got, want) || e != api.OK {
		t.Errorf("%s: Parse(%s) tells %+v, %d, want %+v", promise, shown(text), got, e, want)
	}
}

func readRefused(t *testing.T, promise, text string, want api.Errno) {
	t.Helper()
	if got, e := Parse(text); got != nil || e != want {
		t.Errorf("%s: Parse(%s) tells %d commands, %d, want none, %d", promise, shown(text), len(got), e, want)
	}
}

func prints(t *testing.T, promise, want string, l ...Command) {
	t.Helper()
	if got, e := Print(l); got != want || e != api.OK {
		t.Errorf("%s: Print tells %s, %d, want %s", promise, shown(got), e, shown(want))
	}
}

func printRefused(t *testing.T, promise string, want api.Errno, l ...Command) {
	t.Helper()
	if got, e := Print(l); got != "" || e != want {
		t.Errorf("%s: Print of %d commands tells %s, %d, want nothing, %d", promise, len(l), shown(got), e, want)
	}
}

func mustRead(t *testing.T, text string) []Command {
	t.Helper()
	l, e := Parse(text)
	if e != api.OK {
		t.Fatalf("P25.1: Parse(%s) tells %d", shown(text), e)
	}
	return l
}

func numberByChance(r *rand.Rand) int64 {
	edges := []int64{0, 1, -1, 9, 10, -10, 100, math.MaxInt64, math.MinInt64, math.MaxInt32, math.MinInt32}
	switch r.Intn(3) {
	case 0:
		return edges[r.Intn(len(edges))]
	case 1:
		return int64(r.Uint64()) >> r.Intn(64)
	}
	return r.Int63n(100) - 20
}

func hashByChance(r *rand.Rand) api.Hash {
	var h api.Hash
	r.Read(h[:])
	return h
}

// textByChance is of bytes of all kinds, many of them such as have a meaning in a line.
func textByChance(r *rand.Rand, most int) string {
	const odd = "\"\\\\\" x#\n\r\t\x00\x1f\x20\x7e\x7f\x80\xff"
	b := make([]byte, r.Intn(most+1))
	for i := range b {
		switch r.Intn(3) {
		case 0:
			b[i] = odd[r.Intn(len(odd))]
		case 1:
			b[i] = byte(r.Intn(256))
		default:
			b[i] = byte(32 + r.Intn(95))
		}
	}
	return string(b)
}

func fatesByChance(r *rand.Rand, kinds int) []api.Fate {
	var l []api.Fate
	for range r.Intn(4) {
		l = append(l, api.Fate{File: textByChance(r, 9), Sector: int(numberByChance(r)), Kind: r.Intn(kinds), Bytes: textByChance(r, 40)})
	}
	return l
}

// commandByChance is of a kind that there is; all of its fields hold something, whether the kind names them or not.
func commandByChance(r *rand.Rand) Command {
	s := node.Step{
		Kind: 1 + r.Intn(13), Amount: numberByChance(r), ID: numberByChance(r), N: numberByChance(r), Hash: hashByChance(r),
		Note: textByChance(r, 20), Bytes: textByChance(r, 60), Fates: fatesByChance(r, 3),
	}
	c := Command{Kind: 1 + r.Intn(9), N: numberByChance(r), Side: int(numberByChance(r))}
	if r.Intn(2) == 0 {
		c.Kind = Move
	}
	c.Move = pair.Move{Kind: 1 + r.Intn(5), Side: int(numberByChance(r)), Step: s}
	if r.Intn(2) == 0 {
		c.Move.Kind = pair.Step
	}
	c.World = pair.World{
		Capacity: numberByChance(r), Ours: numberByChance(r), Disk: int(numberByChance(r)), Segment: int(numberByChance(r)),
		Seeds: [2]api.Hash{hashByChance(r), hashByChance(r)}, Keys: [2]api.Hash{hashByChance(r), hashByChance(r)},
	}
	return c
}

func commandsByChance(r *rand.Rand, most int) []Command {
	var l []Command
	for range r.Intn(most + 1) {
		l = append(l, commandByChance(r))
	}
	return l
}
