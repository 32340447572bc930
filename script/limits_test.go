package script

import (
	"runtime"
	"strings"
	"testing"

	"escrow/api"
	"escrow/node"
)

// ofLine is a line of so many bytes.
func ofLine(n int) string {
	head := `step 0 take "`
	return head + strings.Repeat("x", n-len(head)-1) + `"`
}

func readsAs(t *testing.T, text string, want api.Errno) {
	t.Helper()
	l, e := Parse(text)
	if e != want || e != api.OK && l != nil {
		t.Errorf("P25.1: Parse(%s) tells %d commands, %d, want %d", shown(text), len(l), e, want)
	}
	if _, errno := modelParse(text); errno != want {
		t.Errorf("P25.1: the model tells %d of %s, want %d", errno, shown(text), want)
	}
}

func TestMostBytes(t *testing.T) {
	comment := "#" + strings.Repeat("x", 1022) + "\n" // 1024 bytes
	for _, x := range []struct {
		text string
		want api.Errno
	}{
		{strings.Repeat(comment, 64), api.OK},
		{strings.Repeat(comment, 64) + "\n", api.ErrLong},
		{strings.Repeat(comment, 64) + "#", api.ErrLong},
		{strings.Repeat(comment, 63) + comment[:1023], api.OK},
		{strings.Repeat(comment, 63) + comment[:1023] + "x", api.OK},
		{strings.Repeat(comment, 63) + comment[:1023] + "xx", api.ErrLong},
		{"no\n" + strings.Repeat(comment, 64), api.ErrLong},
		{strings.Repeat(comment, 64) + " ", api.ErrLong},
		{strings.Repeat(" ", 1<<22), api.ErrLong},
		{filled(65535), api.OK},
		{filled(65536), api.OK},
		{filled(65537), api.ErrLong},
	} {
		readsAs(t, x.text, x.want)
	}
}

func TestMostLines(t *testing.T) {
	for _, line := range []string{"", "#", "# a line", "joined", "deliver 1"} {
		end := line + "\n"
		readsAs(t, strings.Repeat(end, 1023), api.OK)
		readsAs(t, strings.Repeat(end, 1024), api.OK)
		readsAs(t, strings.Repeat(end, 1025), api.ErrLong)
		readsAs(t, strings.Repeat(end, 1023)+"#", api.OK)
		readsAs(t, strings.Repeat(end, 1023)+"joined", api.OK)
		readsAs(t, strings.Repeat(end, 1024)+"#", api.ErrLong)
		readsAs(t, strings.Repeat(end, 1024)+"joined", api.ErrLong)
		readsAs(t, strings.Repeat(end, 1024)+"\n", api.ErrLong)
		readsAs(t, strings.Repeat(end, 1023)+"no", api.ErrScript)
		readsAs(t, "no\n"+strings.Repeat(end, 1023), api.ErrScript)
		readsAs(t, "no\n"+strings.Repeat(end, 1024), api.ErrLong)
		readsAs(t, strings.Repeat(end, 1024)+"no", api.ErrLong)
	}
}

func TestLongestLine(t *testing.T) {
	comment := "#" + strings.Repeat("x", 4095)
	for _, line := range []string{comment, ofLine(4096)} {
		for _, ahead := range []string{"", "\n", "joined\n", "#x\n\n"} {
			for _, behind := range []string{"", "\n", "\njoined", "\n\n\n"} {
				readsAs(t, ahead+line+behind, api.OK)
				readsAs(t, ahead+"no\n"+line+behind, api.ErrScript)
			}
		}
	}
	for _, line := range []string{comment + "x", ofLine(4097), ofLine(5000), strings.Repeat("no ", 2000)} {
		for _, ahead := range []string{"", "\n", "joined\n", "no\n", "#x\n\n"} {
			for _, behind := range []string{"", "\n", "\nno", "\n\n\n"} {
				readsAs(t, ahead+line+behind, api.ErrLong)
			}
		}
	}
	// The limit is the line's, not that of what it says.
	escaped := `step 0 take "` + strings.Repeat(`\x41`, 1020)
	readsAs(t, escaped+`AA"`, api.OK)
	readsAs(t, escaped+`AAA"`, api.ErrLong)
}

func many(n int, c Command) []Command {
	l := make([]Command, n)
	for i := range l {
		l[i] = c
	}
	return l
}

func TestPrintAtTheLimits(t *testing.T) {
	joined := Command{Kind: Joined}
	prints(t, "P25.1", strings.Repeat("joined\n", 1024), many(1024, joined)...)
	printRefused(t, "P25.1", api.ErrLong, many(1025, joined)...)
	printRefused(t, "P25.1", api.ErrLong, many(100000, joined)...)
	take := func(n int) Command { // of a line with so many bytes
		return stepOf(0, node.Step{Kind: node.Take, Bytes: strings.Repeat("x", n-len(`step 0 take ""`))})
	}
	prints(t, "P25.1", ofLine(4096)+"\n", take(4096))
	printRefused(t, "P25.1", api.ErrLong, take(4097))
	printRefused(t, "P25.1", api.ErrLong, joined, take(4097), joined)
	prints(t, "P25.1", strings.Repeat(ofLine(4095)+"\n", 16), many(16, take(4095))...)
	printRefused(t, "P25.1", api.ErrLong, append(many(15, take(4095)), take(4096))...)
	printRefused(t, "P25.1", api.ErrLong, append(many(16, take(4095)), joined)...)
	quoted := func(text string) Command { return stepOf(0, node.Step{Kind: node.Take, Bytes: text}) }
	prints(t, "P25.1", `step 0 take "`+strings.Repeat(`\x00`, 1020)+`xx"`+"\n", quoted(strings.Repeat("\x00", 1020)+"xx"))
	printRefused(t, "P25.1", api.ErrLong, quoted(strings.Repeat("\x00", 1021)))
	prints(t, "P25.1", `step 0 take "`+strings.Repeat(`\"`, 2041)+`"`+"\n", quoted(strings.Repeat(`"`, 2041)))
	printRefused(t, "P25.1", api.ErrLong, quoted(strings.Repeat(`"`, 2042)))
}

// Where both errors apply Print answers the one that the chapter names first, wherever the bad command stands.
func TestPrintOfLongAndBad(t *testing.T) {
	bad := []Command{{}, moveOf(6, 0), stepOf(0, node.Step{}), crashOf(0, api.Fate{Kind: 3})}
	long := stepOf(0, node.Step{Kind: node.Take, Bytes: strings.Repeat("x", 70000)})
	fate := api.Fate{File: strings.Repeat("\x00", 30000), Kind: 2, Bytes: strings.Repeat("y", 66000)}
	for _, c := range bad {
		printRefused(t, "P25.1", api.ErrScript, append(many(1024, Command{Kind: Joined}), c)...)
		printRefused(t, "P25.1", api.ErrScript, append(many(200000, Command{Kind: Joined}), c)...)
		printRefused(t, "P25.1", api.ErrScript, long, c)
		printRefused(t, "P25.1", api.ErrScript, c, long)
		printRefused(t, "P25.1", api.ErrScript, append(many(20, long), c)...)
		printRefused(t, "P25.1", api.ErrScript, crashOf(0, fate, fate), c)
	}
	printRefused(t, "P25.1", api.ErrLong, crashOf(0, fate, fate))
	printRefused(t, "P25.1", api.ErrScript, crashOf(0, fate, fate, api.Fate{Kind: 7}))
	printRefused(t, "P25.1", api.ErrScript, crashOf(0, api.Fate{Kind: 7}, fate))
}

// A text that is far too long takes no more room than one that isn't.
func TestRoomOfLongTexts(t *testing.T) {
	huge := strings.Repeat("\x00", 1<<26)
	fates := make([]api.Fate, 1000)
	for i := range fates {
		fates[i] = api.Fate{File: huge, Kind: 2, Bytes: huge}
	}
	var before, after runtime.MemStats
	runtime.ReadMemStats(&before)
	printRefused(t, "P25.1", api.ErrLong, stepOf(0, node.Step{Kind: node.Refuse, Note: huge}), crashOf(0, fates...))
	readRefused(t, "P25.1", huge, api.ErrLong)
	runtime.ReadMemStats(&after)
	if used := after.TotalAlloc - before.TotalAlloc; used > 1<<25 {
		t.Errorf("P25.1: %d bytes are used", used)
	}
}
