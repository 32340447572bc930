package pair

import (
	"fmt"
	"runtime"
	"slices"
	"strings"
	"sync"
	"testing"
	"time"
	"unsafe"

	"escrow/api"
	"escrow/node"
)

// loose is a text whose bytes can be written over.
func loose(text string) (string, []byte) {
	b := []byte(text)
	return unsafe.String(unsafe.SliceData(b), len(b)), b
}

// R3: what Pipe answers is the caller's own.
func TestPipeIsNewMemory(t *testing.T) {
	p := greeted(t)
	for range 5 {
		done(t, "P24.1", p, offer(0, 5, none))
	}
	want := slices.Clone(p.Pipe(1))
	one, other := p.Pipe(1), p.Pipe(1)
	clear(one[:cap(one)])
	if !slices.Equal(p.Pipe(1), want) || !slices.Equal(other, want) {
		t.Errorf("R3: an answer is written over")
	}
	done(t, "P24.1", p, delivers(1))
	done(t, "P24.1", p, offer(0, 5, none))
	if !slices.Equal(other, want) {
		t.Errorf("R3: an answer changed when the pair went on")
	}
	_ = append(other[:0], "x", "y")
	if !slices.Equal(p.Pipe(1)[:4], want[1:]) {
		t.Errorf("R3: an answer that grows is written over")
	}
}

// R3: what a move tells is the caller's own, and nothing of it is the pipe's.
func TestToldIsNewMemory(t *testing.T) {
	p := begun(t)
	for range 5 {
		done(t, "P24.1", p, offer(0, 5, none))
	}
	done(t, "P24.1", p, joins)
	told := done(t, "P24.1", p, delivers(0))
	want := slices.Clone(told.Out)
	clear(told.Out[:cap(told.Out)])
	if len(want) != 5 || !slices.Equal(p.Pipe(1)[1:], want) {
		t.Errorf("R3: what is told is written over: %x", p.Pipe(1))
	}
	settled(t, "P24.4", p)
}

// R3: what is handed in is neither changed, with the room behind it, nor kept.
func TestMovesAreNotKept(t *testing.T) {
	p := added(t)
	note, noteBytes := loose("a note of side 1")
	out := sends(t, "P24.1", p, refuse(1, 0, note), "fail 0")
	clear(noteBytes)
	want := bytesOf(t, api.Message{Kind: api.MsgFail, Note: "a note of side 1"})
	if out[0] != want || p.Pipe(0)[0] != want || p.Node(1).State().Ours[0].Note != "a note of side 1" {
		t.Errorf("R3: a note is kept: %q, %q", out, p.Pipe(0))
	}
	done(t, "P24.1", p, falls(0, 2))
	tells(t, "P24.1", p, delivers(0), api.OK)
	tells(t, "P24.1", p, offer(0, 1, none), api.ErrOff)
	file, fileBytes := loose("log.0")
	room := []api.Fate{{File: file, Sector: 40, Kind: api.FateKept}, {File: "mark", Kind: api.FateKept}}
	tells(t, "P24.1", p, stepOf(0, node.Step{Kind: node.Crash, Fates: room[:1]}), api.OK)
	if room[0] != (api.Fate{File: "log.0", Sector: 40, Kind: api.FateKept}) || room[1] != (api.Fate{File: "mark", Kind: api.FateKept}) {
		t.Errorf("R3: the fates are changed: %+v", room)
	}
	clear(fileBytes)
	clear(room)
	settled(t, "P24.4", p)
}

// script is moves of all kinds, some of which are refused.
func script() []Move {
	l := append([]Move{offer(0, 1, none), {Kind: 9}, kindOf(0, node.Connect)}, tape()...)
	return append(l, falls(0, 2), offer(0, 3, none), joins, kindOf(0, node.Crash), joins, delivers(1), delivers(0), armed(1, 1), offer(1, 1, none), cuts, kindOf(1, node.Close), joins)
}

// moved is what a pair tells of a move, and all that it is then.
func moved(p *Pair, m Move) string {
	told, e := p.Do(m)
	return fmt.Sprint(shownTold(told), int(e), "\n", whole(p))
}

func scripted(t *testing.T) []string {
	p := begun(t)
	var all []string
	for _, m := range script() {
		all = append(all, moved(p, m))
	}
	return all
}

// R4: the same moves tell the same on new pairs, beside one another too.
func TestTheSameAgain(t *testing.T) {
	t.Parallel()
	want := scripted(t)
	var w sync.WaitGroup
	for range 8 {
		w.Go(func() {
			if !slices.Equal(scripted(t), want) {
				t.Errorf("R4: the same moves tell otherwise")
			}
		})
	}
	w.Wait()
}

// P24.5: two pairs of one world whose moves come by turns tell what each tells alone; so do those of unlike worlds.
func TestTwoPairs(t *testing.T) {
	t.Parallel()
	want := scripted(t)
	l := script()
	p, q := begun(t), begun(t)
	other := world()
	other.Capacity, other.Seeds[0], other.Segment = 5000, named("another", 0), 300
	x := begunIn(t, other)
	for i, m := range l {
		if got := moved(p, m); got != want[i] {
			t.Fatalf("P24.5: move %d tells\n%q, want\n%q", i, got, want[i])
		}
		x.Do(m)
		if i%7 == 0 {
			x.Quiet(3)
		}
		if i >= 5 {
			if got := moved(q, l[i-5]); got != want[i-5] {
				t.Fatalf("P24.5: move %d of the other tells\n%q, want\n%q", i-5, got, want[i-5])
			}
		}
	}
}

// All that runs beside has ended, soon behind the call.
func TestNothingRunsOn(t *testing.T) {
	p := begun(t)
	before := runtime.NumGoroutine()
	for _, m := range script() {
		p.Do(m)
	}
	p = added(t)
	for range 200 {
		done(t, "P24.1", p, cuts)
		settled(t, "P24.4", p)
	}
	for range 100 {
		if runtime.NumGoroutine() <= before {
			return
		}
		time.Sleep(time.Millisecond)
	}
	b := make([]byte, 1<<16)
	if text := string(b[:runtime.Stack(b, true)]); strings.Contains(text, "escrow/pair.(*pipe)") {
		t.Errorf("R4: something runs on: %s", text)
	}
}
