package script

import (
	"math/rand"
	"reflect"
	"slices"
	"strings"
	"sync"
	"testing"
	"unsafe"

	"escrow/api"
	"escrow/node"
)

// loose is a text whose bytes can be written over.
func loose(text string) (string, []byte) {
	b := []byte(text)
	return unsafe.String(unsafe.SliceData(b), len(b)), b
}

func allSamples() (string, []Command) {
	var text strings.Builder
	var l []Command
	for _, s := range samples() {
		text.WriteString(s.line + "\n")
		l = append(l, s.want)
	}
	return text.String(), l
}

// R3: the text that is read isn't kept.
func TestTextIsNotKept(t *testing.T) {
	plain, want := allSamples()
	text, bytes := loose(plain)
	l, e := Parse(text)
	if text != plain {
		t.Errorf("R3: the text is changed")
	}
	for i := range bytes {
		bytes[i] = '?'
	}
	if e != api.OK || !sameCommands(l, want) {
		t.Errorf("R3: the text is kept: %+v", l)
	}
}

// R3: what Quote is given isn't kept, though it be told as it is.
func TestQuotedIsNotKept(t *testing.T) {
	s, bytes := loose("plain")
	q := Quote(s)
	text, e := Print([]Command{stepOf(0, node.Step{Kind: node.Take, Bytes: s})})
	clear(bytes)
	if q != `"plain"` || text != "step 0 take \"plain\"\n" || e != api.OK {
		t.Errorf("R3: %q, %q", q, text)
	}
}

// R3: the commands that are told are neither changed, with the room behind them, nor kept.
func TestCommandsAreNotChanged(t *testing.T) {
	file, fileBytes := loose("log.0")
	fates := []api.Fate{{File: file, Sector: 1, Kind: 2, Bytes: "b"}, {File: "x", Kind: 1, Bytes: "junk"}, {File: "room", Kind: 9}}
	room := []Command{crashOf(3, fates[:2]...), {Kind: Joined, N: 5, Side: 6}, {Kind: 99}}
	before := slices.Clone(room)
	kept := slices.Clone(fates)
	text, e := Print(room[:2])
	if e != api.OK || !reflect.DeepEqual(room, before) || !slices.Equal(fates, kept) {
		t.Errorf("R3: what is told is changed: %+v", room)
	}
	clear(fileBytes)
	clear(fates)
	clear(room)
	if text != "step 0 crash 3 replace \"log.0\" 1 \"b\" kept \"x\" 0\njoined\n" {
		t.Errorf("R3: what is told is kept: %q", text)
	}
}

// R3: an answer is the caller's own, and no two of its lists share memory.
func TestAnswersAreNewMemory(t *testing.T) {
	line := `step 0 crash 0 kept "a" 1 kept "b" 2 kept "c" 3` + "\n"
	text := strings.Repeat(line, 5)
	want := mustRead(t, text)
	one, other := mustRead(t, text), mustRead(t, text)
	for i := range one {
		fates := one[i].Move.Step.Fates
		clear(fates[:cap(fates)])
		for k := i + 1; k < len(one); k++ {
			if !sameCommand(one[k], want[k]) {
				t.Fatalf("R3: two lists of an answer share memory")
			}
		}
	}
	clear(one[:cap(one)])
	if !sameCommands(other, want) {
		t.Errorf("R3: two answers share memory")
	}
	for i := range other {
		_ = append(other[i].Move.Step.Fates, api.Fate{File: "more"})
	}
	_ = append(other, Command{Kind: Joined})
	if !sameCommands(other, want) {
		t.Errorf("R3: an answer that grows is written over")
	}
	reads(t, "R3", text, want...)
}

// R4: the same calls tell the same, beside one another too, and whatever was refused in between.
func TestTheSameAgain(t *testing.T) {
	text, l := allSamples()
	var w sync.WaitGroup
	for n := range 8 {
		w.Go(func() {
			r := rand.New(rand.NewSource(int64(n)))
			for range 50 {
				readRefused(t, "R4", textByChance(r, 20)+"\nno", api.ErrScript)
				reads(t, "R4", text, l...)
				printRefused(t, "R4", api.ErrScript, append(slices.Clone(l), Command{})...)
				prints(t, "R4", text, l...)
			}
		})
	}
	w.Wait()
}

// A panic that isn't the package's own isn't taken for a line that is none.
func TestOtherPanicsGoOn(t *testing.T) {
	defer func() {
		if why := recover(); why != "another" {
			t.Errorf("R1: %v is caught", why)
		}
	}()
	tried(func() { panic("another") })
}
