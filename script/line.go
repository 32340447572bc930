package script

import (
	"escrow/api"
	"escrow/node"
	"escrow/pair"
)

// words is a line that is gone through from its first word on: a reader lays what it finds where it is told to, a writer tells what stands there. So each line is said once, for both ways.
type words interface {
	// head is the first word; it says the command's kind, and its move's.
	head(c *Command)
	// name is a word that says a kind: names are by their kinds.
	name(kind *int, names []string)
	number(n *int64)
	whole(n *int)
	hash(h *api.Hash)
	quoted(s *string)
	// fates is all that is left of a line.
	fates(l *[]api.Fate)
}

// command goes through a command's line.
func command(w words, c *Command) {
	w.head(c)
	switch c.Kind {
	case World:
		world(w, &c.World)
	case Move:
		move(w, &c.Move)
	case Quiet:
		w.number(&c.N)
	case State, Ledger, Mark, Pipe, Files:
		w.whole(&c.Side)
	}
}

func world(w words, x *pair.World) {
	w.number(&x.Capacity)
	w.number(&x.Ours)
	w.whole(&x.Disk)
	w.whole(&x.Segment)
	for side := range x.Seeds {
		w.hash(&x.Seeds[side])
	}
	for side := range x.Keys {
		w.hash(&x.Keys[side])
	}
}

// move goes through what stands behind the first word, which says the move's kind.
func move(w words, m *pair.Move) {
	switch m.Kind {
	case pair.Step:
		w.whole(&m.Side)
		step(w, &m.Step)
	case pair.Deliver, pair.Lose:
		w.whole(&m.Side)
	}
}

func step(w words, s *node.Step) {
	w.name(&s.Kind, stepNames())
	switch s.Kind {
	case node.Offer:
		w.number(&s.Amount)
		w.hash(&s.Hash)
	case node.Settle:
		w.number(&s.ID)
		w.hash(&s.Hash)
	case node.Refuse:
		w.number(&s.ID)
		w.quoted(&s.Note)
	case node.Take:
		w.quoted(&s.Bytes)
	case node.Arm, node.Fall:
		w.number(&s.N)
	case node.Crash:
		w.number(&s.N)
		w.fates(&s.Fates)
	}
}

func fate(w words, f *api.Fate) {
	w.name(&f.Kind, fateNames())
	w.quoted(&f.File)
	w.whole(&f.Sector)
	if f.Kind == api.FateReplace {
		w.quoted(&f.Bytes)
	}
}
