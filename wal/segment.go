package wal

import (
	"cmp"
	"iter"
	"slices"
	"strconv"
	"strings"
)

const maxSegment = 9999999

// segment: what is remembered of a file of the log. It holds frames alone, so one without bytes has none.
type segment struct {
	number int
	size   int
	end    int64 // the number behind its last frame's, if it has any
}

func (s segment) allBelow(n int64) bool { return s.size == 0 || s.end <= n }

// inOrder tells the segments by rising numbers, each with its file's name.
func (l *Log) inOrder() iter.Seq2[*segment, string] {
	return func(yield func(*segment, string) bool) {
		for i := range l.segments {
			s := &l.segments[i]
			if !yield(s, l.file(*s)) {
				return
			}
		}
	}
}

func (l *Log) file(s segment) string { return l.name + "." + strconv.Itoa(s.number) }

// find: the segments are those that stand on the disk, not yet read. Do their numbers follow one another?
func (l *Log) find() bool {
	for _, file := range l.disk.List() {
		if number, ok := numberOf(file, l.name); ok {
			l.segments = append(l.segments, segment{number: number})
		}
	}
	slices.SortFunc(l.segments, func(a, b segment) int { return cmp.Compare(a.number, b.number) })
	for i, s := range l.segments {
		if s.number != l.segments[0].number+i {
			return false
		}
	}
	return true
}

// numberOf: which segment of the log is that file, if it is one?
func numberOf(file, log string) (int, bool) {
	digits, named := strings.CutPrefix(file, log+".")
	number, err := strconv.Atoi(digits)
	if !named || err != nil || number < 0 || number > maxSegment {
		return 0, false
	}
	// A sign, or a 0 ahead, isn't there when the number is told again.
	return number, strconv.Itoa(number) == digits
}
