package run

import (
	"math/rand"
	"strconv"
	"strings"
	"testing"

	"escrow/api"
	"escrow/script"
)

// loosened: the script in another form: with lines between its own that say nothing, with bytes of its quoted texts by their numbers, perhaps without its last byte 10.
func loosened(r *rand.Rand, text string) string {
	nothing := []string{"\n", "#\n", "# " + begin + "\n", "#\x00\xff\"\n"}
	var b strings.Builder
	for _, line := range linesOf(text) {
		for r.Intn(4) == 0 {
			b.WriteString(nothing[r.Intn(len(nothing))])
		}
		b.WriteString(looseLine(r, line) + "\n")
	}
	if r.Intn(2) == 0 {
		return strings.TrimSuffix(b.String(), "\n")
	}
	return b.String()
}

func looseLine(r *rand.Rand, line string) string {
	var b strings.Builder
	inside := false
	for i := 0; i < len(line); i++ {
		c := line[i]
		switch {
		case c == '"':
			inside = !inside
			b.WriteByte(c)
		case c == '\\':
			n := 2
			if line[i+1] == 'x' {
				n = 4
			}
			b.WriteString(line[i : i+n])
			i += n - 1
		case inside && r.Intn(20) == 0:
			b.WriteString("\\x" + digitsOf(api.Hash{c})[:2])
		default:
			b.WriteByte(c)
		}
	}
	if b.Len() > api.MaxLine {
		return line
	}
	return b.String()
}

// byChance is some scripts, each with what it must tell.
func byChance(t *testing.T, seeds, turns int, try func(r *rand.Rand, m *model)) {
	t.Helper()
	for seed := range int64(seeds) {
		r := rand.New(rand.NewSource(1000 + seed))
		m := newModel(t, r, chosen(r), map[string]int{})
		m.odd = r.Intn(2) == 0
		for range r.Intn(turns) {
			m.turn()
		}
		if len(m.script()) < api.MaxScript/2 {
			try(r, m)
		}
		if t.Failed() {
			t.Fatalf("in the script of seed %d", seed)
		}
	}
}

// P26.2, T8: a script's own form tells what it tells; told twice it tells the same.
func TestOwnForm(t *testing.T) {
	t.Parallel()
	unlike := 0
	byChance(t, 120, 120, func(r *rand.Rand, m *model) {
		loose := loosened(r, m.script())
		l, e := script.Parse(loose)
		if e != api.OK {
			t.Fatalf("script.Parse(%s): %d", cutShort(loose), e)
		}
		own, e := script.Print(l)
		if e != api.OK {
			t.Fatalf("script.Print: %d", e)
		}
		if own != loose {
			unlike++
		}
		plays(t, "P26.2", loose, m.lines())
		plays(t, "P26.2", own, m.lines())
		plays(t, "T8", loose, m.lines())
	})
	if unlike < 60 {
		t.Errorf("P26.2: only %d had another form", unlike)
	}
}

// P26.2: a text that has no own form, as that would be too long, tells all the same.
func TestNoOwnForm(t *testing.T) {
	text := begin + "\n"
	for len(text) < api.MaxScript-4000 {
		text += "step 0 refuse 0 \"" + strings.Repeat("x", 2000) + "\"\n"
	}
	text += "step 0 refuse 0 \"" + strings.Repeat("y", api.MaxScript-len(text)-18) + "\""
	l, e := script.Parse(text)
	if _, p := script.Print(l); len(text) != api.MaxScript || e != api.OK || p != api.ErrLong {
		t.Fatalf("a text of %d bytes: %d, %d", len(text), e, p)
	}
	plays(t, "P26.2", text, "ok\n"+strings.Repeat("err 120 0\n", len(l)-1))
	playRefused(t, text+"\n")
}

// P26.3: the first so many commands tell the beginning.
func TestFromTheFront(t *testing.T) {
	t.Parallel()
	byChance(t, 40, 80, func(r *rand.Rand, m *model) {
		whole := mustPlay(t, m.script())
		at := 0
		for n := range m.commands {
			at += len(textOf(m.told[n]...))
			if told := mustPlay(t, textOf(m.commands[:n+1]...)); told != whole[:at] {
				t.Fatalf("P26.3: the first %d commands of %s tell\n%s, want\n%s", n+1, cutShort(m.script()), cutShort(told), cutShort(whole[:at]))
			}
		}
	})
}

// firstWords are those that a line of what is told may begin with.
const firstWords = " ok no err send broadcast mine peers message file "

// parts: what is told, cut into each command's lines by what their first lines count.
func parts(t *testing.T, commands []string, told string) [][]string {
	t.Helper()
	lines := linesOf(told)
	var all [][]string
	for _, c := range commands {
		if len(lines) == 0 {
			t.Fatalf("P26.4: nothing is told of %q", c)
		}
		n := 1 + counted(t, c, lines[0])
		if n > len(lines) {
			t.Fatalf("P26.4: of %q is told %q, and %d lines more", c, lines[0], len(lines)-1)
		}
		all = append(all, lines[:n])
		lines = lines[n:]
	}
	if len(lines) > 0 {
		t.Fatalf("P26.4: behind all commands is told %q", lines)
	}
	for _, l := range all {
		for i, line := range l {
			word, _, _ := strings.Cut(line, " ")
			first := word == "ok" || word == "no" || word == "err"
			if !strings.Contains(firstWords, " "+word+" ") || first != (i == 0) {
				t.Fatalf("P26.4: a line %q in %q", line, l)
			}
		}
	}
	return all
}

// counted: how many lines follow a command's first one.
func counted(t *testing.T, command, first string) int {
	t.Helper()
	words, said := strings.Split(command, " "), strings.Split(first, " ")
	at := map[string]int{"step": 1, "join": 1, "cut": 1, "deliver": 1, "lose": 1, "pipe": 1, "files": 1, "ledger": 3}[words[0]]
	if said[0] == "no" || at == 0 {
		return 0
	}
	if said[0] == "err" {
		at = 2
	}
	n, err := strconv.Atoi(said[at])
	if err != nil || n < 0 {
		t.Fatalf("P26.4: of %q is told %q", command, first)
	}
	if words[0] == "step" && words[2] == "close" && said[0] == "ok" {
		n++
	}
	return n
}

// P26.4: how many lines there are, and what they begin with.
func TestLines(t *testing.T) {
	t.Parallel()
	most := 0
	byChance(t, 150, 200, func(r *rand.Rand, m *model) {
		for i, l := range parts(t, m.commands, mustPlay(t, m.script())) {
			most = max(most, len(l))
			for k, line := range l {
				if line != m.told[i][k] || strings.ContainsFunc(line, func(c rune) bool { return c < 32 || c > 126 }) || strings.HasSuffix(line, " ") || strings.HasPrefix(line, " ") {
					t.Fatalf("P26.4: of %q is told %q", m.commands[i], l)
				}
			}
		}
	})
	if most < 10 {
		t.Errorf("P26.4: no command told more than %d lines", most)
	}
}
