package run

import (
	"fmt"
	"math/rand"
	"slices"
	"strings"
	"testing"
)

// tape is a script in which both sides propose, sign, take and remove, checkpoint and close.
func tape() []string {
	h := func(side int, id int64) string { return digitsOf(sum(preimage(side, id))) }
	w := theWorld()
	w.Disk, w.Segment = 1<<20, 200
	return []string{
		worldLine(w), "step 0 offer 100 " + h(0, 0), "join", "deliver 1", "deliver 0", "step 0 offer 50 " + h(0, 1), "step 1 offer 20 " + h(1, 0), "deliver 1", "deliver 1",
		"step 0 sign", "deliver 1", "step 1 sign", "deliver 0", "deliver 0", "deliver 0", "deliver 1", "step 0 sign", "deliver 1", "deliver 0", "step 1 checkpoint",
		fmt.Sprintf("step 1 settle 0 %x", preimage(0, 0)), `step 1 refuse 1 "no"`, "deliver 0", "deliver 0", "step 1 sign", "deliver 0", "deliver 1", "step 0 sign", "deliver 1", "deliver 0",
		"step 0 checkpoint", `step 0 refuse 0 "\x00"`, "deliver 1", "step 0 sign", "deliver 1", "deliver 0", "cut", "join", "deliver 0", "deliver 1", "step 1 sign", "deliver 0", "deliver 1", "step 1 offer 5 " + h(1, 1), "step 1 close",
	}
}

// toldBy: what the last so many commands of a script tell.
func toldBy(t *testing.T, n int, commands ...[]string) string {
	t.Helper()
	all := behind(commands...)
	told := parts(t, all, mustPlay(t, textOf(all...)))
	var l []string
	for _, lines := range told[len(all)-n:] {
		l = append(l, lines...)
	}
	return strings.Join(l, "\n")
}

// stepsOf is a side's steps.
func stepsOf(side int, words ...string) []string {
	var l []string
	for _, w := range words {
		l = append(l, fmt.Sprintf("step %d %s", side, w))
	}
	return l
}

// asksOf is questions of a side.
func asksOf(side int, names ...string) []string {
	var l []string
	for _, name := range names {
		l = append(l, fmt.Sprintf("%s %d", name, side))
	}
	return l
}

// fateWords: some sectors of a side's files are kept, all others lost; none has bytes that were never laid.
func fateWords(r *rand.Rand, w string) string {
	var b strings.Builder
	b.WriteString(w)
	kind := r.Intn(3)
	for _, name := range []string{"log.0", "log.1", "log.2", "log.3", "log.4", "mark", "check.tmp", "mark.tmp"} {
		for k := range 12 {
			if kind == 1 || kind == 2 && r.Intn(2) == 0 {
				fmt.Fprintf(&b, " kept %q %d", name, k)
			}
		}
	}
	return b.String()
}

// P26.1, T2: the power goes at any Write or Sync of any command: behind the crash, with any sectors kept, the state is the one without the command or the one with it; opened again, or crashed in the midst of opening, it is the same. Then all comes to be quiet (T6).
func TestThePowerGoesAnywhere(t *testing.T) {
	t.Parallel()
	r := rand.New(rand.NewSource(261))
	commands := tape()
	seen := map[string]int{}
	for i, x := range commands {
		side, acts := actor(x)
		if !acts {
			continue
		}
		ahead := commands[:i:i]
		looks := asksOf(side, "state", "ledger", "mark")
		without := toldBy(t, 3, ahead, stepsOf(side, "crash 0"), looks)
		with := toldBy(t, 3, ahead, []string{x}, stepsOf(side, "crash 0"), looks)
		for n := 1; ; n++ {
			fallen := behind(ahead, stepsOf(side, fmt.Sprint("fall ", n)), []string{x})
			if !strings.HasPrefix(toldBy(t, 1, fallen), "err 9 0") {
				seen[fmt.Sprint("writes and syncs: ", n-1)]++
				break
			}
			for range 6 {
				crash := fateWords(r, "crash 0")
				got := toldBy(t, 3, fallen, stepsOf(side, crash), looks)
				if got != without && got != with {
					t.Fatalf("T2: behind %q and its fall %d and %q are told\n%s, want\n%s, or\n%s", x, n, crash, got, without, with)
				}
				if without != with {
					seen[fmt.Sprint("with the command: ", got == with)]++
				}
				again := toldBy(t, 3, fallen, stepsOf(side, crash, fateWords(r, "crash 0")), looks)
				if again != got {
					t.Fatalf("T2: behind %q and its fall %d and %q are told\n%s, and opened again\n%s", x, n, crash, got, again)
				}
				for k := 1; ; k++ {
					opening := stepsOf(side, strings.Replace(crash, "crash 0", fmt.Sprint("crash ", k), 1))
					if strings.HasPrefix(toldBy(t, 1, fallen, opening), "ok ") {
						break
					}
					seen["crashes in an opening"]++
					if again := toldBy(t, 3, fallen, opening, stepsOf(side, "crash 0"), looks); again != got {
						t.Fatalf("T2: behind %q and its fall %d and %q are told\n%s, and behind a crash in the opening\n%s", x, n, crash, got, again)
					}
				}
				if !strings.HasSuffix(x, "close") {
					mirrored(t, behind(fallen, stepsOf(side, crash), []string{"quiet 1000"}))
				}
			}
		}
	}
	for _, want := range []string{"with the command: true", "with the command: false", "crashes in an opening", "writes and syncs: 0", "writes and syncs: 2", "writes and syncs: 4"} {
		if seen[want] < 3 {
			t.Errorf("the power went with %q %d times: %v", want, seen[want], seen)
		}
	}
}

// P26.1, T4: the disk refuses any Write or Sync of any command: what is refused sends nothing, and leaves the state as it was; a message that is refused is lost with the connection, and said again.
func TestTheDiskRefusesAnything(t *testing.T) {
	t.Parallel()
	commands := tape()
	seen := map[string]int{}
	for i, x := range commands {
		side, acts := actor(x)
		if !acts {
			continue
		}
		ahead, looks := commands[:i:i], asksOf(side, "state", "ledger")
		delivered := strings.HasPrefix(x, "deliver ")
		without := []string{toldBy(t, 2, ahead, looks)}
		if delivered {
			// The new commitment counts as soon as it is in the log, whatever becomes of the mark.
			without = []string{toldBy(t, 2, ahead, []string{"cut"}, looks), toldBy(t, 2, ahead, []string{x, "cut"}, looks)}
		}
		for n := 1; ; n++ {
			refused := behind(ahead, stepsOf(side, fmt.Sprint("arm ", n)), []string{x})
			if told := toldBy(t, 1, refused); told != "err 40 0" {
				if want := toldBy(t, 1, ahead, []string{x}); told != want {
					t.Fatalf("T4: %q, of which nothing was refused, tells %q, want %q", x, told, want)
				}
				break
			}
			seen[fmt.Sprint("refused, delivered: ", delivered)]++
			if got := toldBy(t, 2, refused, looks); !slices.Contains(without, got) {
				t.Fatalf("T4: %q, refused at %d, makes\n%s, want\n%s", x, n, got, without)
			}
			if joined := toldBy(t, 1, refused, []string{"joined"}); delivered && joined != "ok no" || !delivered && joined != toldBy(t, 1, ahead, []string{"joined"}) {
				t.Fatalf("T4: %q, refused at %d: joined: %s", x, n, joined)
			}
			if got := toldBy(t, 1, refused, []string{x}); !delivered && got != toldBy(t, 1, ahead, []string{x}) {
				t.Fatalf("T4: %q, refused at %d, tells %q the next time", x, n, got)
			}
			if x != "step 1 close" {
				mirrored(t, behind(refused, []string{"quiet 1000"}))
			}
		}
	}
	for _, want := range []string{"refused, delivered: true", "refused, delivered: false"} {
		if seen[want] < 10 {
			t.Errorf("the disk had %q %d times: %v", want, seen[want], seen)
		}
	}
}
