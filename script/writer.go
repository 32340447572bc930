package script

import (
	"strconv"
	"strings"

	"escrow/api"
)

// writer is a text that grows by lines, but not beyond what a script may have: it is long then, and takes no more room.
type writer struct {
	text strings.Builder
	long bool
}

// written: the text of commands; true: it is too long. Of one that is too long the rest is gone through all the same, as it may hold what isn't a line's.
func written(l []Command) (string, bool) {
	w := &writer{}
	for _, c := range l {
		command(w, &c)
		w.add("\n")
	}
	text := w.text.String()
	return text, w.long || tooLong(text)
}

func (w *writer) head(c *Command) {
	if c.Kind == Move {
		w.add(nameOf(moveNames(), c.Move.Kind))
		return
	}
	w.add(nameOf(commandNames(), c.Kind))
}

func (w *writer) name(kind *int, names []string) { w.addWord(nameOf(names, *kind)) }

func (w *writer) number(n *int64) { w.addWord(strconv.FormatInt(*n, 10)) }

func (w *writer) whole(n *int) { w.addWord(strconv.Itoa(*n)) }

func (w *writer) hash(h *api.Hash) { w.addWord(Hex(*h)) }

func (w *writer) quoted(s *string) {
	if w.fits(*s) {
		w.addWord(Quote(*s))
	}
}

func (w *writer) fates(l *[]api.Fate) {
	for _, f := range *l {
		fate(w, &f)
	}
}

// addWord: a word that isn't the first.
func (w *writer) addWord(word string) {
	w.add(" ")
	w.add(word)
}

func (w *writer) add(s string) {
	if w.fits(s) {
		w.text.WriteString(s)
	}
}

// fits: is there room for so many bytes more? If not there is none from there on.
func (w *writer) fits(s string) bool {
	if w.text.Len()+len(s) > api.MaxScript {
		w.long = true
	}
	return !w.long
}
