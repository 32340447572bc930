package run

import (
	"fmt"
	"math"
	"strings"
	"testing"

	"escrow/api"
	"escrow/frame"
	"escrow/msg"
	"escrow/record"
)

var (
	greets = []string{"join", "deliver 0", "deliver 1"}
	// adds: side 0 proposes, and both hold it.
	adds   = []string{"step 0 offer 600 " + digitsOf(sum(preimage(0, 0))), "quiet 100"}
	nobody = "ok up 0 0 0 0 0 0 0 0 0 0 0 0 -1 ahead"
)

func messageOf(t *testing.T, m api.Message) string {
	t.Helper()
	b, e := msg.Write(m)
	if e != api.OK {
		t.Fatalf("msg.Write(%+v): %d", m, e)
	}
	return quoted(b)
}

// The chapter's examples.
func TestExamples(t *testing.T) {
	tells(t, []string{"joined", "join", "joined"}, "ok no", "ok 0", "ok yes")
	tells(t, []string{"step 0 offer 600 " + zeros, "state 0", "ledger 0", "mark 0", "quiet 100", "state 0", "ledger 0"},
		"ok 0", "ok up 0 0 0 0 0 0 0 0 0 1 0 0 -1 ahead", "ok 700 300 0", "ok -1",
		"ok 7 yes", "ok up 1 1 1 1 0 1 0 1 0 1 0 0 -1 ahead", "ok 100 300 1", "mine 0 600 "+zeros)
	tells(t, []string{"cut", "step 0 offer 0 " + zeros, "step 2 sign", "state 2"}, "no 8", "err 80 0", "no 1", "no 1")
	got := last(t, "step 0 close")
	if len(got) != 2 || got[0] != "ok 0" || !strings.HasPrefix(got[1], "broadcast 0 \"") {
		t.Errorf("P26.1: step 0 close tells %q", got)
	}
	for _, text := range []string{"joined", "", textOf(begin, begin)} {
		playRefused(t, text)
	}
}

// The document's ten examples of the whole.
func TestExamplesOfTheWhole(t *testing.T) {
	p, h := digitsOf(preimage(0, 0)), digitsOf(sum(preimage(0, 0)))
	offer := "step 0 offer 600 " + h
	two := []string{"step 0 offer 600 " + h, "quiet 100", "ledger 1"}
	tells(t, []string{"joined", "join", "joined"}, "ok no", "ok 0", "ok yes")
	tells(t, two, "ok 0", "ok 7 yes", "ok 300 100 1", "peers 0 600 "+h)
	settle := messageOf(t, api.Message{Kind: api.MsgFulfill, Hash: preimage(0, 0)})
	lastIs(t, behind(two, []string{"step 1 settle 0 " + p}), "ok 1", "send "+settle)
	tells(t, behind(two, []string{"step 1 settle 0 " + p, "quiet 100", "ledger 0"}),
		"ok 0", "ok 7 yes", "ok 300 100 1", "peers 0 600 "+h, "ok 1", "send "+settle, "ok 5 yes", "ok 100 900 0")
	lastIs(t, behind(two, []string{`step 1 refuse 0 "no"`, "quiet 100", "ledger 0"}), "ok 700 300 0")

	five := []string{"join", "deliver 0", "deliver 1", offer, "step 0 sign", "lose 1", "joined"}
	add := messageOf(t, api.Message{Kind: api.MsgAdd, Amount: 600, Hash: sum(preimage(0, 0))})
	lastIs(t, five[:4], "ok 1", "send "+add)
	signed := last(t, five[:5]...)
	lastIs(t, five[:6], "ok 0")
	lastIs(t, five, "ok no")
	lastIs(t, behind(five, []string{"join", "deliver 0"}), "ok 2", "send "+add, signed[1])

	tells(t, []string{"step 0 fall 1", offer, offer, "step 0 crash 0", "state 0"}, "ok 0", "err 9 0", "err 9 0", "ok 0", nobody)
	tells(t, []string{"step 0 arm 2", offer, offer}, "ok 0", "err 40 0", "ok 0")
	lastIs(t, []string{"step 0 arm 2", offer, offer, "quiet 100", "ledger 0"}, "ok 100 300 1", "mine 0 600 "+h)
	closed := last(t, behind(two, []string{"step 0 close"})...)
	if len(closed) != 2 || closed[0] != "ok 0" || !strings.HasPrefix(closed[1], "broadcast 1 \"") {
		t.Errorf("T1: a closing tells %q", closed)
	}
	lastIs(t, behind(two, []string{"step 0 close", "mark 0"}), "ok 0")
	tells(t, []string{"step 0 offer 701 " + h, "step 0 sign"}, "err 130 0", "err 8 0")
	tells(t, behind(two, []string{"step 1 crash 0", "quiet 100"}), "ok 0", "ok 7 yes", "ok 300 100 1", "peers 0 600 "+h, "ok 0", "ok 2 yes")
}

// A world tells ok, and nothing else is done then.
func TestWorldAlone(t *testing.T) {
	for _, text := range []string{begin, begin + "\n", "\n#\n" + begin + "\n\n#", "# world\n" + begin} {
		plays(t, "P26.1", text, "ok\n")
	}
	tells(t, []string{"state 0", "state 1", "ledger 0", "ledger 1", "mark 0", "mark 1", "pipe 0", "pipe 1", "files 0", "files 1", "joined"},
		nobody, nobody, "ok 700 300 0", "ok 300 700 0", "ok -1", "ok -1", "ok 0", "ok 0", "ok 1", `file "mark" 128`, "ok 1", `file "mark" 128`, "ok no")
}

// What is refused with ErrScript, by Parse, by where the worlds stand, and by New.
func TestRefused(t *testing.T) {
	x := theWorld()
	x.Ours = 1
	another := worldLine(x)
	for _, l := range [][]string{
		{}, {""}, {"#"}, {"# " + begin}, {"joined"}, {"join"}, {"quiet 5"}, {"step 0 sign"}, {"state 0"},
		{begin, begin}, {begin, another}, {begin, "joined", begin}, {begin, "join", "join", another}, {"joined", begin}, {"state 0", "state 1", begin}, {"joined", "joined"},
		{begin, "no"}, {"no"}, {begin + " "}, {" " + begin}, {begin, "joined now"}, {begin, "deliver 01"}, {begin, "step 0 take"}, {begin, "step 0 crash 0 gone \"f\" 1"}, {begin + " " + zeros}, {begin[1:]}, {strings.ToUpper(begin)}, {begin + "\r"}, {begin, "\xff"},
		{begin, "#" + strings.Repeat("x", 4096)}, {begin, strings.Repeat("\n", 1024)}, {begin, strings.TrimSuffix(strings.Repeat("#"+strings.Repeat("x", 4094)+"\n", 16), "\n")},
	} {
		playRefused(t, textOf(l...))
		playRefused(t, strings.TrimSuffix(textOf(l...), "\n"))
	}
	// At the limits they aren't.
	for _, l := range [][]string{{begin, "#" + strings.Repeat("x", 4095)}, {begin, strings.Repeat("\n", 1022)}, {strings.TrimSuffix(strings.Repeat("#"+strings.Repeat("x", 4094)+"\n", 15), "\n"), begin}} {
		plays(t, "P26.1", textOf(l...), "ok\n")
	}
}

// Each field of the world, at the edges of what pair's New takes.
func TestWorlds(t *testing.T) {
	is := func(change func(w *[4]int64), taken bool) {
		t.Helper()
		n := [4]int64{1000, 700, 65536, 4096}
		change(&n)
		text := fmt.Sprintf("world %d %d %d %d", n[0], n[1], n[2], n[3]) + begin[strings.Index(begin, "4096")+4:]
		if !taken {
			playRefused(t, text)
			return
		}
		plays(t, "P26.1", textOf(text, "ledger 0", "ledger 1"), textOf("ok", fmt.Sprintf("ok %d %d 0", n[1], n[0]-n[1]), fmt.Sprintf("ok %d %d 0", n[0]-n[1], n[1])))
	}
	for _, n := range []int64{1, 700, 1000, api.MaxAmount} {
		is(func(w *[4]int64) { w[0], w[1] = n, n }, true)
		is(func(w *[4]int64) { w[0], w[1] = n, 0 }, true)
		is(func(w *[4]int64) { w[0], w[1] = n, n+1 }, false)
		is(func(w *[4]int64) { w[0], w[1] = n, -1 }, false)
	}
	for _, n := range []int64{0, -1, api.MaxAmount + 1, math.MaxInt64, math.MinInt64} {
		is(func(w *[4]int64) { w[0], w[1] = n, 0 }, false)
		is(func(w *[4]int64) { w[0], w[1] = n, n }, false)
	}
	for _, n := range []int64{128, 65536, 16777216} {
		is(func(w *[4]int64) { w[2] = n }, true)
	}
	// The mark has 128 bytes.
	for _, n := range []int64{127, 0, -1, 16777217, math.MaxInt64, math.MinInt64} {
		is(func(w *[4]int64) { w[2] = n }, false)
	}
	for _, n := range []int64{64, 65, api.MaxFile} {
		is(func(w *[4]int64) { w[3] = n }, true)
	}
	for _, n := range []int64{63, 0, -1, api.MaxFile + 1, math.MaxInt64, math.MinInt64} {
		is(func(w *[4]int64) { w[3] = n }, false)
	}
}

// The world's seeds and keys are the sides' own, in their order.
func TestSeedsAndKeys(t *testing.T) {
	text := last(t, behind(adds, []string{"step 0 close"})...)[1]
	fields := strings.Split(begin, " ")
	for i := 5; i < 9; i++ {
		other := append([]string{}, fields...)
		other[i] = digitsOf(named("another", int64(i)))
		told := linesOf(mustPlay(t, textOf(append([]string{strings.Join(other, " ")}, behind(adds, []string{"step 0 close"})...)...)))
		// Side 0's commitment has its own point and the other's signature.
		unlike := i == 5 || i == 8
		if (told[len(told)-1] != text) != unlike {
			t.Errorf("P26.1: with another hash %d the broadcast is %q, and was %q", i-4, told[len(told)-1], text)
		}
	}
}

// Moves that Do refuses, by each of its errors.
func TestRefusedMoves(t *testing.T) {
	for _, side := range []string{"2", "-1", "256", "4294967296", "4294967297", "9223372036854775807", "-9223372036854775808"} {
		for _, step := range []string{"sign", "close", "offer 1 " + zeros, "crash 0", "open", "arm 1", "connect"} {
			lastIs(t, []string{"step " + side + " " + step}, "no 1")
		}
		tells(t, behind(greets[:1], []string{"deliver " + side, "lose " + side, "joined"}), "ok 0", "no 1", "no 1", "ok yes")
	}
	for _, step := range []string{"connect", "disconnect", `take "x"`, `take ""`} {
		lastIs(t, []string{"step 0 " + step}, "no 1")
		lastIs(t, behind(greets, []string{"step 1 " + step}), "no 1")
	}
	tells(t, []string{"cut", "deliver 0", "lose 1", "join", "join", "lose 0", "lose 0", "cut"}, "no 8", "no 5", "no 5", "ok 0", "no 8", "ok 0", "no 5", "no 8")
	tells(t, []string{"step 1 close", "join"}, append(last(t, "step 1 close"), "no 8")...)
}

// Moves that a node refuses: the error, and how many messages go with it.
func TestErrors(t *testing.T) {
	h := digitsOf(sum(preimage(0, 0)))
	for _, x := range []struct{ step, want string }{
		{"offer 0 " + zeros, "err 80 0"}, {"offer -1 " + zeros, "err 80 0"}, {"offer 1152921504606846977 " + zeros, "err 80 0"}, {"offer 701 " + zeros, "err 130 0"}, {"offer 700 " + zeros, "ok 0"},
		{"settle 0 " + zeros, "err 120 0"}, {`refuse 0 "no"`, "err 120 0"}, {`refuse -1 ""`, "err 120 0"}, {"sign", "err 8 0"}, {"open", "err 8 0"}, {"checkpoint", "ok 0"}, {"arm 1", "ok 0"}, {"fall -1", "ok 0"}, {"crash 0", "ok 0"}, {"crash 1", "err 9 0"}, {"crash 2", "ok 0"}, {"crash -9223372036854775808", "ok 0"},
	} {
		lastIs(t, []string{"step 0 " + x.step}, x.want)
	}
	// The mark that is there is synced when it is opened.
	tells(t, []string{"step 0 crash 1", "step 0 sign", "step 0 crash 1", "state 0", "step 0 open", "step 0 crash 0", "state 0"}, "err 9 0", "err 9 0", "err 9 0", "ok down 0 0 0 0 0 0 0 0 0 0 0 0 0 ahead", "err 9 0", "ok 0", nobody)
	// A disk on which there is room for the mark alone.
	narrow := theWorld()
	narrow.Disk = 128
	plays(t, "P26.1", textOf(worldLine(narrow), "step 0 offer 1 "+zeros, "state 0"), textOf("ok", "err 41 0", nobody))
	lastIs(t, behind(greets, []string{"step 0 sign"}), "err 8 0")
	lastIs(t, behind(greets, []string{"step 0 offer 600 " + h, "step 0 sign", "step 0 sign"}), "err 8 0")
}

// A message that fails the channel: its error, and the one message that says so.
func TestErrorWithAMessage(t *testing.T) {
	b, e := record.Write(api.Record{Kind: api.RecCame, Index: 1, Sig: named("sig", 0)})
	forged, f := frame.Frame(0, b)
	if e != api.OK || f != api.OK || len(forged) != api.Sector {
		t.Fatalf("a frame of %d bytes, %d, %d", len(forged), e, f)
	}
	// Side 0 thinks that it has a commitment 1, which side 1 never signed.
	script := []string{"step 0 fall 2", "step 0 offer 1 " + zeros, `step 0 crash 0 replace "log.0" 0 ` + quoted(forged), "state 0", "mark 0", "join", "deliver 1", "joined", "pipe 0", "state 1"}
	tells(t, script, "ok 0", "err 9 0", "ok 0", "ok up 1 0 0 0 0 0 0 0 0 0 0 0 -1 ahead", "ok 0", "ok 0",
		"err 90 1", "send "+messageOf(t, api.Message{Kind: api.MsgError, Index: 90}), "ok no", "ok 0", "ok up 0 0 0 0 0 0 0 0 0 0 0 90 -1 ahead")
	lastIs(t, append(script, "step 1 offer 1 "+zeros), "err 220 0")
	lastIs(t, append(script, "join"), "no 8")
	lastIs(t, append(script, "quiet 100"), "ok 0 no")
}

// A state whose commitment isn't covered: its ledger is refused, and so is its closing.
func TestLedgerRefused(t *testing.T) {
	var batch string
	for _, r := range []api.Record{
		{Kind: api.RecOurs, Update: api.Update{Kind: api.Add, Amount: 5000, Hash: named("h", 0)}},
		{Kind: api.RecSigned, Index: 1, Counts: api.Counts{Ours: 1}},
		{Kind: api.RecRevoked, Secret: secretOf(1, 0), Point: sum(secretOf(1, 2))},
		{Kind: api.RecCame, Index: 1, Sig: named("sig", 0)},
	} {
		b, e := record.Write(r)
		if e != api.OK {
			t.Fatalf("record.Write(%+v): %d", r, e)
		}
		batch += b
	}
	forged, _ := frame.Frame(0, batch)
	crash := "step 0 crash 0"
	for i := 0; i < len(forged); i += api.Sector {
		crash += fmt.Sprintf(` replace "log.0" %d %s`, i/api.Sector, quoted(forged[i:i+api.Sector]))
	}
	// The power goes while a commitment with so many adds is laid that all of the forged batch finds its place there.
	var script []string
	for i := range int64(5) {
		script = append(script, "step 1 offer 10 "+digitsOf(named("h", i)))
	}
	script = append(script, greets...)
	script = append(script, "step 1 sign", "deliver 0", "deliver 0", "deliver 0", "deliver 0", "deliver 0", "step 0 fall 2", "deliver 0", crash)
	lastIs(t, script[:len(script)-1], "err 9 0")
	lastIs(t, script, "ok 0")
	lastIs(t, append(script, "state 0"), "ok up 1 1 1 1 0 1 0 1 0 1 0 0 -1 ahead")
	lastIs(t, append(script, "ledger 0"), "no 130")
	lastIs(t, append(script, "step 0 close"), "err 130 0")
	lastIs(t, append(script, "ledger 1"), "ok 300 700 0")
}

// What is sent: one line each, in the order in which they go.
func TestSent(t *testing.T) {
	h, k := sum(preimage(0, 0)), named("k", 0)
	first := messageOf(t, api.Message{Kind: api.MsgAdd, Amount: 600, Hash: h})
	second := messageOf(t, api.Message{Kind: api.MsgAdd, ID: 1, Amount: 5, Hash: k})
	offers := []string{"step 0 offer 600 " + digitsOf(h), "step 0 offer 5 " + digitsOf(k)}
	lastIs(t, offers, "ok 0")
	lastIs(t, behind(offers, []string{"join"}), "ok 0")
	lastIs(t, behind(offers, []string{"join", "deliver 0"}), "ok 2", "send "+first, "send "+second)
	hello := messageOf(t, api.Message{Kind: api.MsgHello, Index: 1})
	lastIs(t, behind(offers, []string{"join", "deliver 0", "pipe 1"}), "ok 3", "message "+hello, "message "+first, "message "+second)
	lastIs(t, behind(offers, []string{"join", "deliver 0", "pipe 0"}), "ok 0")
	lastIs(t, behind(offers, []string{"join", "pipe 0"}), "ok 1", "message "+hello)
	lastIs(t, behind(greets, offers), "ok 1", "send "+second)
	reveal := messageOf(t, api.Message{Kind: api.MsgRevoke, Secret: secretOf(1, 0), Hash: sum(secretOf(1, 2))})
	lastIs(t, behind(greets, offers, []string{"step 0 sign", "deliver 1", "deliver 1", "deliver 1"}), "ok 1", "send "+reveal)
	lastIs(t, behind(greets, offers, []string{"step 0 sign", "deliver 1", "deliver 1", "deliver 1", "pipe 0"}), "ok 1", "message "+reveal)
	fail := messageOf(t, api.Message{Kind: api.MsgFail, Note: "a \"note\"\\\n\xff"})
	lastIs(t, behind(adds, []string{`step 1 refuse 0 "a \"note\"\\\x0a\xff"`}), "ok 1", "send "+fail)
}

// Closing: what is broadcast, once and again, with updates and without; and closings that are refused tell none.
func TestBroadcast(t *testing.T) {
	closing := last(t, behind(adds, []string{"step 0 close"})...)
	words := strings.Split(closing[1], " ")
	if closing[0] != "ok 0" || words[0] != "broadcast" || words[1] != "1" || len(closing) != 2 || words[len(words)-1] == zeros {
		t.Fatalf("P26.1: a closing tells %q", closing)
	}
	lastIs(t, behind(adds, []string{"step 0 close", "step 0 close"}), closing...)
	lastIs(t, behind(adds, []string{"step 0 close", "step 0 crash 0", "step 0 close"}), closing...)
	lastIs(t, behind(adds, []string{"step 0 close", "state 0"}), "ok up 1 1 1 1 0 1 0 1 0 1 0 0 1 ahead")
	lastIs(t, behind(adds, []string{"step 0 close", "joined"}), "ok no")
	lastIs(t, []string{"step 0 arm 1", "step 0 close"}, "err 40 0")
	lastIs(t, []string{"step 0 fall 1", "step 0 close"}, "err 9 0")
	lastIs(t, []string{"step 0 fall 1", "step 0 close", "step 0 close"}, "err 9 0")
	first := last(t, "step 1 close")
	if words := strings.Split(first[1], " "); first[0] != "ok 0" || words[1] != "0" || words[len(words)-1] != zeros {
		t.Errorf("P26.1: a closing tells %q", first)
	}
}

// Quiets: joined or not, with deliveries left or none, and what counts as 0.
func TestQuiet(t *testing.T) {
	tells(t, []string{"quiet 100", "quiet 0", "quiet -1", "quiet 100", "joined"}, "ok 2 yes", "ok 0 yes", "ok 0 yes", "ok 0 yes", "ok yes")
	for _, n := range []string{"0", "-1", "-5", "-9223372036854775808", "-4294967295"} {
		tells(t, []string{"quiet " + n, "joined", "quiet " + n, "quiet 1", "quiet " + n}, "ok 0 no", "ok yes", "ok 0 no", "ok 1 no", "ok 0 no")
	}
	for _, n := range []string{"7", "8", "1000000", "1000001", "4294967296", "9223372036854775807"} {
		tells(t, behind(adds[:1], []string{"quiet " + n, "mark 0"}), "ok 0", "ok 7 yes", "ok 0")
	}
	tells(t, behind(adds[:1], []string{"quiet 6", "quiet 3"}), "ok 0", "ok 6 no", "ok 1 yes")
	tells(t, behind(adds[:1], []string{"quiet 3", "quiet 3", "quiet 3"}), "ok 0", "ok 3 no", "ok 3 no", "ok 1 yes")
	lastIs(t, []string{"step 0 close", "quiet 9"}, "ok 0 no")
	lastIs(t, []string{"step 0 fall 1", "step 0 offer 1 " + zeros, "quiet 9"}, "ok 0 no")
}

// State: each field in its place; behind and ahead; a node that is down.
func TestState(t *testing.T) {
	h := digitsOf(sum(preimage(0, 0)))
	offer := "step 0 offer 600 " + h
	lastIs(t, behind(greets, []string{offer, "step 0 sign", "state 0"}), "ok up 0 1 0 0 0 1 0 0 0 1 0 0 -1 behind")
	lastIs(t, behind(greets, []string{offer, "step 0 sign", "deliver 1", "deliver 1", "state 1"}), "ok up 1 0 0 0 1 0 0 0 0 0 1 0 -1 ahead")
	lastIs(t, behind(greets, []string{offer, "step 0 sign", "deliver 1", "deliver 1", "step 1 sign", "state 1"}), "ok up 1 1 0 0 1 0 1 0 0 0 1 0 -1 behind")
	lastIs(t, behind(greets, []string{offer, "deliver 1", "state 1"}), "ok up 0 0 0 0 0 0 0 0 0 0 1 0 -1 ahead")
	lastIs(t, behind(greets, []string{offer, "deliver 1", "cut", "state 1"}), nobody)
	lastIs(t, behind(adds, []string{"step 1 settle 0 " + digitsOf(preimage(0, 0)), "step 1 offer 20 " + h, "state 1"}), "ok up 1 1 1 0 1 0 1 0 1 2 1 0 -1 behind")
	lastIs(t, behind(adds, []string{"step 1 settle 0 " + digitsOf(preimage(0, 0)), "step 1 offer 20 " + h, "quiet 50", "state 0"}), "ok up 2 2 2 1 2 1 2 1 2 1 2 0 -1 behind")
	down := "ok down 0 0 0 0 0 0 0 0 0 0 0 0 0 ahead"
	fallen := behind(adds, []string{"step 1 fall 1", "step 1 offer 1 " + h})
	lastIs(t, append(fallen, "state 1"), down)
	lastIs(t, append(fallen, "mark 1"), "ok -1")
	lastIs(t, append(fallen, "ledger 1"), "ok 0 0 0")
	lastIs(t, append(fallen, "files 1"), "ok 0")
	lastIs(t, append(fallen, "pipe 1"), "ok 0")
	lastIs(t, append(fallen, "joined"), "ok no")
	lastIs(t, append(fallen, "state 0"), "ok up 1 1 1 1 0 1 0 1 0 1 0 0 -1 ahead")
}

// Ledgers: mine first, then the peer's, each by ID; and both sides' views.
func TestLedger(t *testing.T) {
	h := func(n int64) string { return digitsOf(named("h", n)) }
	script := []string{"step 0 offer 10 " + h(0), "step 0 offer 20 " + h(1), "step 1 offer 30 " + h(2), "step 0 offer 40 " + h(3), "step 1 offer 50 " + h(4), "quiet 100"}
	lastIs(t, append(script, "ledger 0"), "ok 630 220 5", "mine 0 10 "+h(0), "mine 1 20 "+h(1), "mine 2 40 "+h(3), "peers 0 30 "+h(2), "peers 1 50 "+h(4))
	lastIs(t, append(script, "ledger 1"), "ok 220 630 5", "mine 0 30 "+h(2), "mine 1 50 "+h(4), "peers 0 10 "+h(0), "peers 1 20 "+h(1), "peers 2 40 "+h(3))
	script = append(script, `step 1 refuse 1 ""`, "step 0 offer 1 "+h(5))
	lastIs(t, append(script, "ledger 0"), "ok 630 220 5", "mine 0 10 "+h(0), "mine 1 20 "+h(1), "mine 2 40 "+h(3), "peers 0 30 "+h(2), "peers 1 50 "+h(4))
	lastIs(t, append(script, "quiet 100", "ledger 0"), "ok 649 220 5", "mine 0 10 "+h(0), "mine 2 40 "+h(3), "mine 3 1 "+h(5), "peers 0 30 "+h(2), "peers 1 50 "+h(4))
}

// Files: by the order of their names, with their sizes as they are seen.
func TestFiles(t *testing.T) {
	offer := "step 0 offer 1 " + zeros
	lastIs(t, []string{offer, "files 0"}, "ok 2", `file "log.0" 64`, `file "mark" 128`)
	lastIs(t, []string{offer, "files 1"}, "ok 1", `file "mark" 128`)
	lastIs(t, []string{offer, offer, offer, "files 0"}, "ok 2", `file "log.0" 192`, `file "mark" 128`)
	got := last(t, offer, "step 0 checkpoint", "files 0")
	if len(got) != 3 || got[0] != "ok 2" || !strings.HasPrefix(got[1], `file "check" `) || got[2] != `file "mark" 128` {
		t.Errorf("P26.1: files behind a checkpoint: %q", got)
	}
	got = last(t, offer, "step 0 checkpoint", offer, "step 0 fall 2", "step 0 checkpoint", `step 0 crash 0 kept "check.tmp" 0`, "files 0")
	if len(got) != 5 || got[0] != "ok 4" || !strings.HasPrefix(got[1], `file "check" `) || got[2] != `file "check.tmp" 64` || got[3] != `file "log.0" 64` || got[4] != `file "mark" 128` {
		t.Errorf("P26.1: files behind a checkpoint that was cut off: %q", got)
	}
	small := theWorld()
	small.Segment = 64
	var script []string
	for range 12 {
		script = append(script, offer)
	}
	want := []string{"ok 13", `file "log.0" 64`, `file "log.1" 64`, `file "log.10" 64`, `file "log.11" 64`}
	for i := 2; i < 10; i++ {
		want = append(want, fmt.Sprintf(`file "log.%d" 64`, i))
	}
	told := linesOf(mustPlay(t, textOf(append([]string{worldLine(small)}, append(script, "files 0")...)...)))
	if textOf(told[13:]...) != textOf(append(want, `file "mark" 128`)...) {
		t.Errorf("P26.1: files of a log of twelve: %q", told[13:])
	}
}

// Questions of sides that are none: each tells no 1, and nothing is done.
func TestSidesThatAreNone(t *testing.T) {
	for _, question := range []string{"state", "ledger", "mark", "pipe", "files"} {
		for _, side := range []string{"2", "3", "-1", "-2", "256", "4294967296", "9223372036854775807", "-9223372036854775808"} {
			lastIs(t, []string{"join", question + " " + side}, "no 1")
		}
		for _, side := range []string{"0", "1"} {
			if got := last(t, "join", question+" "+side); !strings.HasPrefix(got[0], "ok ") {
				t.Errorf("P26.1: %s %s tells %q", question, side, got)
			}
		}
	}
}
