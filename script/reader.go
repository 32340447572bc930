package script

import (
	"strconv"
	"strings"

	"escrow/api"
)

// reader is a line of which the rest is still to be read.
type reader struct {
	rest string
}

// read: what the lines of a text say.
func read(text string) []Command {
	var l []Command
	for _, line := range strings.Split(text, "\n") {
		if !saysNothing(line) {
			l = append(l, said(line))
		}
	}
	return l
}

func saysNothing(line string) bool { return line == "" || line[0] == '#' }

// said: the command that a line is.
func said(line string) Command {
	r := &reader{rest: line}
	var c Command
	command(r, &c)
	require(r.rest == "")
	return c
}

func (r *reader) head(c *Command) {
	word := r.word()
	if kind, is := kindOf(moveNames(), word); is {
		c.Kind, c.Move.Kind = Move, kind
		return
	}
	kind, is := kindOf(commandNames(), word)
	require(is)
	c.Kind = kind
}

func (r *reader) name(kind *int, names []string) {
	found, is := kindOf(names, r.nextWord())
	require(is)
	*kind = found
}

func (r *reader) number(n *int64) {
	word := r.nextWord()
	found, err := strconv.ParseInt(word, 10, 64)
	// A number has one form: no sign or zero more than it needs.
	require(err == nil && strconv.FormatInt(found, 10) == word)
	*n = found
}

func (r *reader) whole(n *int) {
	var found int64
	r.number(&found)
	*n = int(found)
}

func (r *reader) hash(h *api.Hash) {
	word := r.nextWord()
	require(len(word) == 2*len(h))
	for i := range h {
		h[i] = byteOf(word[2*i], word[2*i+1])
	}
}

func (r *reader) quoted(s *string) {
	r.blank()
	require(r.next() == '"')
	var text []byte
	for b := r.next(); b != '"'; b = r.next() {
		require(isPlain(b))
		if b == '\\' {
			b = r.escaped()
		}
		text = append(text, b)
	}
	*s = string(text)
}

// escaped: the byte that an escape is, of which the backslash was read.
func (r *reader) escaped() byte {
	b := r.next()
	switch b {
	case 'x':
		upper := r.next()
		b = byteOf(upper, r.next())
		fallthrough
	case '"', '\\':
		return b
	}
	panic(noLine{})
}

func (r *reader) fates(l *[]api.Fate) {
	for r.rest != "" {
		var f api.Fate
		fate(r, &f)
		*l = append(*l, f)
	}
}

// nextWord: a word that isn't the first.
func (r *reader) nextWord() string {
	r.blank()
	return r.word()
}

// word: what stands up to the next blank, or to the end.
func (r *reader) word() string {
	word := r.rest
	if i := strings.IndexByte(word, ' '); i >= 0 {
		word = word[:i]
	}
	r.rest = r.rest[len(word):]
	return word
}

func (r *reader) blank() { require(r.next() == ' ') }

func (r *reader) next() byte {
	require(r.rest != "")
	b := r.rest[0]
	r.rest = r.rest[1:]
	return b
}

// byteOf: the byte of two digits.
func byteOf(upper, lower byte) byte { return valueOf(upper)<<4 | valueOf(lower) }

func valueOf(digit byte) byte {
	v := strings.IndexByte(digits, digit)
	require(v >= 0)
	return byte(v)
}
