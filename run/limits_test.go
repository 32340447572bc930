package run

import (
	"strings"
	"testing"

	"escrow/api"
)

// filler is a script whose told lines come to any number of bytes: two pipes of unlike size, one greater than the other, and lines of a few bytes.
type filler struct {
	ahead []string
	// fills are questions that change nothing, and how many bytes they tell, the most first.
	fills []fill
}

type fill struct {
	line string
	size int
}

// newFiller: side 0 has said much, which is under way to side 1, and side 1 little, so that neither pipe tells the same.
func newFiller(t *testing.T) *filler {
	t.Helper()
	f := &filler{ahead: []string{begin}}
	f.ahead = append(f.ahead, greets...)
	loud := strings.Repeat("ff", 32)
	for range 60 {
		f.ahead = append(f.ahead, "step 0 offer 1 "+loud)
	}
	for range 6 {
		f.ahead = append(f.ahead, "step 1 offer 1 "+loud)
	}
	for _, line := range []string{"pipe 1", "pipe 0", "state 0", "mark 0", "mark 2"} {
		f.fills = append(f.fills, fill{line, f.sizeOf(t, line)})
	}
	if s := f.fills; s[0].size < 8000 || s[1].size > 1500 || s[1].size < 500 || s[2].size > 70 || s[3].size != 6 || s[4].size != 5 {
		t.Fatalf("the lines have %v bytes", s)
	}
	return f
}

func (f *filler) sizeOf(t *testing.T, line string) int {
	t.Helper()
	ahead := mustPlay(t, textOf(f.ahead...))
	return len(mustPlay(t, textOf(append(f.ahead[:len(f.ahead):len(f.ahead)], line)...))) - len(ahead)
}

// upTo is a script that tells just so many bytes.
func (f *filler) upTo(t *testing.T, n int) []string {
	t.Helper()
	l := f.ahead[:len(f.ahead):len(f.ahead)]
	left := n - len(mustPlay(t, textOf(l...)))
	for _, x := range f.fills[:3] {
		// What is left must be enough for lines of five and six bytes to make it up.
		for left-x.size >= 20 {
			l = append(l, x.line)
			left -= x.size
		}
	}
	sixes := left % 5
	fives := (left - 6*sixes) / 5
	for range sixes {
		l = append(l, "mark 0")
	}
	for range fives {
		l = append(l, "mark 2")
	}
	if got := len(mustPlay(t, textOf(l...))); got != n {
		t.Fatalf("the script tells %d bytes, want %d", got, n)
	}
	return l
}

// Where a command's lines would make all that is told longer than it may be, no 3 is told; where they just fit they are told.
func TestTooMuch(t *testing.T) {
	t.Parallel()
	f := newFiller(t)
	lines := []string{"pipe 1", "pipe 0", "state 0", "state 1", "ledger 0", "mark 0", "mark 2", "files 0", "joined", "join", "cut", "deliver 0", "deliver 1", "deliver 5", "lose 1", "quiet 0", "quiet 1000", "step 0 offer 0 " + zeros, "step 0 offer 1 " + zeros, "step 1 sign", "step 0 close", "step 1 crash 0", "step 0 arm 1"}
	whole := mustPlay(t, textOf(f.ahead...))
	for _, line := range lines {
		own := mustPlay(t, textOf(append(f.ahead[:len(f.ahead):len(f.ahead)], line)...))[len(whole):]
		for over, want := range []string{own, "no 3\n"} {
			script := f.upTo(t, api.MaxTold-len(own)+over)
			ahead := mustPlay(t, textOf(script...))
			plays(t, "P26.1", textOf(append(script, line)...), ahead+want)
		}
		// With a byte to spare, and with none at all.
		script := f.upTo(t, api.MaxTold-len(own)-1)
		plays(t, "P26.1", textOf(append(script, line)...), mustPlay(t, textOf(script...))+own)
		script = f.upTo(t, api.MaxTold)
		plays(t, "P26.1", textOf(append(script, line)...), mustPlay(t, textOf(script...))+"no 3\n")
	}
}

// Behind a command whose lines didn't fit those of another may; and where nothing fits, no 3 is told each time, beyond the limit too.
func TestShortOnesStillFit(t *testing.T) {
	f := newFiller(t)
	script := f.upTo(t, api.MaxTold-20)
	ahead := mustPlay(t, textOf(script...))
	for _, x := range []struct {
		lines []string
		want  string
	}{
		{[]string{"pipe 1", "mark 0", "state 0", "joined", "mark 0", "mark 2", "mark 0"}, "no 3\nok -1\nno 3\nno 3\nno 3\nno 3\nno 3\n"},
		{[]string{"joined", "pipe 0", "joined", "joined", "joined"}, "ok yes\nno 3\nok yes\nno 3\nno 3\n"},
		{[]string{"mark 2", "mark 2", "mark 2", "mark 2", "mark 2", "mark 2"}, "no 1\nno 1\nno 1\nno 1\nno 3\nno 3\n"},
		{[]string{"mark 0", "mark 0", "joined", "mark 0", "mark 0"}, "ok -1\nok -1\nok yes\nno 3\nno 3\n"},
	} {
		plays(t, "P26.1", textOf(append(script[:len(script):len(script)], x.lines...)...), ahead+x.want)
	}
	script = f.upTo(t, api.MaxTold)
	ahead = mustPlay(t, textOf(script...))
	n := api.MaxLines - len(script)
	plays(t, "P26.1", textOf(append(script, strings.Split(strings.Repeat("pipe 0\n", n-1)+"joined", "\n")...)...), ahead+strings.Repeat("no 3\n", n))
}

// A command that isn't told is done all the same.
func TestDoneAllTheSame(t *testing.T) {
	f := newFiller(t)
	room := len("ok up 0 0 0 0 0 0 0 0 0 60 0 0 -1 ahead\n")
	script := f.upTo(t, api.MaxTold-5-room)
	ahead := mustPlay(t, textOf(script...))
	for _, x := range []struct{ line, question, want string }{
		{"pipe 1", "state 0", "ok up 0 0 0 0 0 0 0 0 0 60 0 0 -1 ahead\n"},
		{"step 0 close", "state 0", "ok up 0 0 0 0 0 0 0 0 0 60 0 0 0 ahead\n"},
		{"step 0 close", "joined", "ok no\n"},
		{"step 0 offer 1 " + zeros, "state 0", "ok up 0 0 0 0 0 0 0 0 0 61 0 0 -1 ahead\n"},
		{"step 1 offer 1 " + zeros, "state 1", "ok up 0 0 0 0 0 0 0 0 0 7 0 0 -1 ahead\n"},
	} {
		plays(t, "P26.1", textOf(append(script[:len(script):len(script)], x.line, x.question)...), ahead+"no 3\n"+x.want)
	}
}

// P26.4: the lines of a script that tells too much are as many as are said.
func TestLinesOfTooMuch(t *testing.T) {
	t.Parallel()
	f := newFiller(t)
	script := f.ahead
	for len(script) < api.MaxLines {
		script = append(script, []string{"pipe 1", "pipe 0", "state 0", "joined"}[len(script)%4])
	}
	told := mustPlay(t, textOf(script...))
	all := parts(t, script, told)
	refused := 0
	for _, l := range all {
		if l[0] == "no 3" {
			refused++
		}
	}
	if refused < 100 || len(told) < api.MaxTold-10 || len(told) > api.MaxTold+5*refused {
		t.Errorf("P26.4: %d bytes, %d times no 3", len(told), refused)
	}
	// P26.3: from the front, across the limit.
	for n := 1; n < len(script); n += 37 {
		if front := mustPlay(t, textOf(script[:n]...)); !strings.HasPrefix(told, front) {
			t.Fatalf("P26.3: the first %d commands tell another beginning", n)
		}
	}
}
