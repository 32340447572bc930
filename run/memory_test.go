package run

import (
	"math/rand"
	"reflect"
	"runtime"
	"slices"
	"strings"
	"sync"
	"testing"
	"time"
	"unsafe"

	"escrow/api"
	"escrow/node"
	"escrow/pair"
)

// loose is a text whose bytes can be written over.
func loose(text string) (string, []byte) {
	b := []byte(text)
	return unsafe.String(unsafe.SliceData(b), len(b)), b
}

// R3: what is told is new memory: nothing of the text is kept in it.
func TestToldIsNewMemory(t *testing.T) {
	text, bytes := loose(textOf(append([]string{begin}, adds...)...) + `step 1 refuse 0 "a note that is sent"` + "\npipe 0\nfiles 0\n")
	told := mustPlay(t, text)
	want := strings.Clone(told)
	if !strings.Contains(told, "a note that is sent") {
		t.Fatalf("P26.1: the note isn't told: %s", told)
	}
	clear(bytes)
	if told != want {
		t.Errorf("R3: what is told is a piece of the text")
	}
}

// R3: Tell changes nothing that it is given, the room behind it neither, and keeps nothing.
func TestMovesStayAsTheyAre(t *testing.T) {
	note, bytes := loose("a note that is sent")
	room := make([]api.Fate, 3, 5)
	for i := range room[:5] {
		room[:5][i] = api.Fate{File: "log.0", Sector: i, Kind: api.FateKept, Bytes: "left as it is"}
	}
	var l []pair.Move
	for _, x := range everyMove(named("h", 0)) {
		l = append(l, x.move)
	}
	l = append(l, pair.Move{Kind: pair.Step, Side: 1, Step: node.Step{Kind: node.Refuse, Note: note}}, pair.Move{Kind: pair.Step, Step: node.Step{Kind: node.Crash, Fates: room}})
	l = slices.Grow(l, 20)
	spare := l[:cap(l)]
	for i := len(l); i < cap(l); i++ {
		spare[i] = pair.Move{Kind: 77, Side: i}
	}
	before := deep(spare)
	w := theWorld()
	told, e := Tell(w, l)
	if e != api.OK || w != theWorld() || !reflect.DeepEqual(before, deep(spare)) || !reflect.DeepEqual(deep(spare)[len(l)-1].Step.Fates, room[:5]) {
		t.Errorf("R3: Tell changes what it is given: %d", e)
	}
	want := strings.Clone(told)
	clear(bytes)
	clear(room)
	clear(spare)
	if told != want {
		t.Errorf("R3: what is told is a piece of a move")
	}
}

// deep is a copy of moves that shares nothing with them; of fates it has all that there is room for.
func deep(l []pair.Move) []pair.Move {
	l = slices.Clone(l)
	for i := range l {
		f := l[i].Step.Fates
		l[i].Step.Fates = slices.Clone(f[:cap(f)])
		l[i].Step.Note = strings.Clone(l[i].Step.Note)
	}
	return l
}

// P26.2, R4: a text that is told again tells the same, beside others too; what one script does no other knows of.
func TestTheSameAgain(t *testing.T) {
	t.Parallel()
	var scripts, told []string
	byChance(t, 20, 100, func(r *rand.Rand, m *model) {
		scripts, told = append(scripts, m.script()), append(told, m.lines())
	})
	var w sync.WaitGroup
	for k := range 6 {
		w.Go(func() {
			for i := range scripts {
				n := (i*7 + k) % len(scripts)
				if got, e := Play(scripts[n]); got != told[n] || e != api.OK {
					t.Errorf("R4: script %d tells otherwise, %d", n, e)
				}
			}
		})
	}
	w.Wait()
}

// All that runs beside has ended, soon behind the call.
func TestNothingRunsOn(t *testing.T) {
	before := runtime.NumGoroutine()
	for range 50 {
		mustPlay(t, textOf(append([]string{begin}, adds...)...))
		playRefused(t, textOf(append([]string{begin, begin}, adds...)...))
	}
	for range 200 {
		if runtime.NumGoroutine() <= before {
			return
		}
		time.Sleep(time.Millisecond)
	}
	b := make([]byte, 1<<16)
	if text := string(b[:runtime.Stack(b, true)]); strings.Contains(text, "escrow/pair.(*pipe)") {
		t.Errorf("R4: something runs on:\n%s", text)
	}
}

// A list of far too many moves is refused with next to no memory.
func TestManyMovesTakeNoRoom(t *testing.T) {
	l := make([]pair.Move, 1<<18)
	for i := range l {
		l[i].Kind = pair.Join
	}
	var a, b runtime.MemStats
	runtime.ReadMemStats(&a)
	tellRefused(t, "many moves", theWorld(), l)
	runtime.ReadMemStats(&b)
	if n := b.TotalAlloc - a.TotalAlloc; n > 4<<20 {
		t.Errorf("Tell of %d moves takes %d bytes", len(l), n)
	}
}

// P26.1: whatever the text, a call ends and doesn't panic; what it tells beside an error is nothing.
func TestAnyText(t *testing.T) {
	t.Parallel()
	r := rand.New(rand.NewSource(26))
	seen := map[api.Errno]int{}
	try := func(text string) {
		told, e := Play(text)
		seen[e]++
		if e != api.OK && (e != api.ErrScript || told != "") || e == api.OK && !strings.HasPrefix(told, "ok\n") {
			t.Fatalf("P26.1: Play(%s) tells %s, %d", cutShort(text), cutShort(told), e)
		}
	}
	for range 3000 {
		b := make([]byte, r.Intn(200))
		r.Read(b)
		try(string(b))
		try(begin + "\n" + string(b))
	}
	byChance(t, 60, 100, func(r *rand.Rand, m *model) {
		text := m.script()
		for range 20 {
			try(bent(r, text))
		}
	})
	if seen[api.OK] < 200 || seen[api.ErrScript] < 1000 {
		t.Errorf("P26.1: %v", seen)
	}
}

// bent is a text with a byte turned, put in or taken away, or with lines in another order, twice or gone.
func bent(r *rand.Rand, text string) string {
	i := r.Intn(len(text))
	lines := linesOf(text)
	k := r.Intn(len(lines))
	switch r.Intn(6) {
	case 0:
		return text[:i] + string([]byte{text[i] ^ 1<<r.Intn(8)}) + text[i+1:]
	case 1:
		return text[:i] + text[i+1:]
	case 2:
		return text[:i] + string([]byte{byte(r.Intn(256))}) + text[i:]
	case 3:
		return textOf(slices.Delete(lines, k, k+1)...)
	case 4:
		return textOf(slices.Insert(lines, r.Intn(len(lines)+1), lines[k])...)
	}
	rest := lines[1:]
	r.Shuffle(len(rest), func(a, b int) { rest[a], rest[b] = rest[b], rest[a] })
	return textOf(lines...)
}
