package run

import (
	"strconv"
	"strings"

	"escrow/api"
	"escrow/node"
	"escrow/script"
)

// line: words with one blank between each two.
func line(words ...string) string { return strings.Join(words, " ") + "\n" }

// no: the line of what is refused.
func no(e api.Errno) string { return line("no", number(e)) }

// answer: the first line of a move that isn't refused.
func answer(told node.Told) string {
	sent := number(len(told.Out))
	if told.Err != api.OK {
		return line("err", number(told.Err), sent)
	}
	return line("ok", sent)
}

// quotes: a line of each text, with that word ahead of it.
func quotes(ahead string, texts []string) []string {
	var lines []string
	for _, text := range texts {
		lines = append(lines, line(ahead, script.Quote(text)))
	}
	return lines
}

// counts: two words, one of each side's.
func counts(c api.Counts) string { return number(c.Ours) + " " + number(c.Peers) }

func number[N ~int | ~int64](n N) string { return strconv.FormatInt(int64(n), 10) }

// word: the first where it holds, else the other.
func word(holds bool, first, other string) string {
	if holds {
		return first
	}
	return other
}
