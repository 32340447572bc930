package run

import (
	"crypto/sha256"
	"encoding/hex"
	"fmt"
	"strings"
	"testing"

	"escrow/api"
	"escrow/pair"
	"escrow/seed"
)

var zeros = strings.Repeat("0", 64)

func named(what string, n int64) api.Hash { return sha256.Sum256(fmt.Append(nil, what, n)) }

func sum(h api.Hash) api.Hash { return sha256.Sum256(h[:]) }

func digitsOf(h api.Hash) string { return hex.EncodeToString(h[:]) }

// preimage is the one of the add that a side makes with an ID.
func preimage(side int, id int64) api.Hash { return named(fmt.Sprint("preimage of side ", side), id) }

func secretOf(side int, n int64) api.Hash {
	h, _ := seed.Secret(named("seed", int64(side)), n)
	return h
}

// quoted: the one form of a text in quotes, as chapter 25 says it.
func quoted(s string) string {
	var b strings.Builder
	for i := range len(s) {
		switch c := s[i]; {
		case c < 32 || c > 126:
			fmt.Fprintf(&b, "\\x%02x", c)
		case c == '"' || c == '\\':
			fmt.Fprintf(&b, "\\%c", c)
		default:
			b.WriteByte(c)
		}
	}
	return "\"" + b.String() + "\""
}

// theWorld is the one of the chapter's examples.
func theWorld() pair.World {
	return pair.World{
		Capacity: 1000, Ours: 700, Disk: 65536, Segment: 4096,
		Seeds: [2]api.Hash{named("seed", 0), named("seed", 1)},
		Keys:  [2]api.Hash{named("key", 0), named("key", 1)},
	}
}

func worldLine(w pair.World) string {
	return fmt.Sprintf("world %d %d %d %d %x %x %x %x", w.Capacity, w.Ours, w.Disk, w.Segment, w.Seeds[0], w.Seeds[1], w.Keys[0], w.Keys[1])
}

var begin = worldLine(theWorld())

// textOf: a line of each.
func textOf(lines ...string) string {
	if len(lines) == 0 {
		return ""
	}
	return strings.Join(lines, "\n") + "\n"
}

// linesOf: each of a text, which ends with a byte 10.
func linesOf(text string) []string {
	l := strings.Split(text, "\n")
	return l[:len(l)-1]
}

// cutShort is a text's beginning, to be told in a test's error.
func cutShort(text string) string {
	if len(text) > 500 {
		return fmt.Sprintf("%q.. (%d bytes)", text[:500], len(text))
	}
	return fmt.Sprintf("%q", text)
}

func mustPlay(t *testing.T, text string) string {
	t.Helper()
	told, e := Play(text)
	if e != api.OK {
		t.Fatalf("P26.1: Play(%s) tells %s, %d", cutShort(text), cutShort(told), e)
	}
	return told
}

func plays(t *testing.T, promise, text, want string) {
	t.Helper()
	if told, e := Play(text); told != want || e != api.OK {
		t.Errorf("%s: Play(%s) tells\n%s, %d, want\n%s%s", promise, cutShort(text), cutShort(told), e, cutShort(want), firstUnlike(told, want))
	}
}

// firstUnlike is the first line of two texts that isn't the same.
func firstUnlike(a, b string) string {
	l, k := strings.Split(a, "\n"), strings.Split(b, "\n")
	for i := range min(len(l), len(k)) {
		if l[i] != k[i] {
			return fmt.Sprintf("\nline %d: %s, want %s", i, cutShort(l[i]), cutShort(k[i]))
		}
	}
	return ""
}

// tells: the lines that a script tells in that world, behind the world's own.
func tells(t *testing.T, script []string, want ...string) {
	t.Helper()
	plays(t, "P26.1", textOf(append([]string{begin}, script...)...), textOf(append([]string{"ok"}, want...)...))
}

func playRefused(t *testing.T, text string) {
	t.Helper()
	if told, e := Play(text); told != "" || e != api.ErrScript {
		t.Errorf("P26.1: Play(%s) tells %s, %d, want ErrScript", cutShort(text), cutShort(told), e)
	}
}

func tellRefused(t *testing.T, what string, w pair.World, l []pair.Move) {
	t.Helper()
	if told, e := Tell(w, l); told != "" || e != api.ErrScript {
		t.Errorf("P26.1: %s: Tell of %d moves tells %s, %d, want ErrScript", what, len(l), cutShort(told), e)
	}
}

// last: what the last of a script's commands tells, and all that is told ahead of it; the others are told as they are alone.
func last(t *testing.T, script ...string) []string {
	t.Helper()
	all := append([]string{begin}, script...)
	ahead := mustPlay(t, textOf(all[:len(all)-1]...))
	whole := mustPlay(t, textOf(all...))
	if !strings.HasPrefix(whole, ahead) {
		t.Fatalf("P26.3: the end of %q changes what its beginning tells:\n%s\n%s", script, cutShort(ahead), cutShort(whole))
	}
	return linesOf(whole[len(ahead):])
}

// lastIs: what the last of a script's commands tells.
func lastIs(t *testing.T, script []string, want ...string) {
	t.Helper()
	if got := last(t, script...); textOf(got...) != textOf(want...) {
		t.Errorf("P26.1: behind %q: %q tells\n%q, want\n%q", script[:len(script)-1], script[len(script)-1], got, want)
	}
}

// behind: some scripts, one behind the other.
func behind(scripts ...[]string) []string {
	var l []string
	for _, s := range scripts {
		l = append(l, s...)
	}
	return l
}
