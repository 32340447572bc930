package script

import (
	"strings"

	"escrow/api"
)

// tooLong: has the text too many bytes, or too many lines, or a line too many bytes?
func tooLong(text string) bool {
	// The bytes first: only a text that has few is gone through.
	return len(text) > api.MaxScript || lineCount(text) > api.MaxLines || longest(text) > api.MaxLine
}

func lineCount(text string) int {
	n := strings.Count(text, "\n")
	if text != "" && !strings.HasSuffix(text, "\n") {
		n++
	}
	return n
}

// longest: how many bytes the longest line has.
func longest(text string) int {
	most := 0
	for _, line := range strings.Split(text, "\n") {
		most = max(most, len(line))
	}
	return most
}
