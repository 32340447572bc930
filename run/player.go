package run

import (
	"strings"

	"escrow/api"
	"escrow/pair"
	"escrow/script"
)

// player: a pair on which commands are done, and what all of them told so far.
type player struct {
	pair *pair.Pair
	told strings.Builder
}

// played: what commands tell on a pair of which the first one is the world.
func played(on *pair.Pair, l []script.Command) string {
	p := &player{pair: on}
	for _, c := range l {
		p.add(p.linesOf(c))
	}
	return p.told.String()
}

// add: a command's lines, if there is room for all of them.
func (p *player) add(lines []string) {
	text := strings.Join(lines, "")
	if p.told.Len()+len(text) > api.MaxTold {
		text = no(api.ErrLong)
	}
	p.told.WriteString(text)
}

// linesOf does a command, and tells its lines.
func (p *player) linesOf(c script.Command) []string {
	if asksSide(c.Kind) && p.pair.Node(c.Side) == nil {
		return []string{no(api.ErrArg)}
	}
	tell := p.teller(c.Kind)
	return tell(c)
}

// asksSide: is it a question of one side?
func asksSide(kind int) bool {
	switch kind {
	case script.State, script.Ledger, script.Mark, script.Pipe, script.Files:
		return true
	}
	return false
}

// teller: what does commands of a kind, and tells their lines.
func (p *player) teller(kind int) func(script.Command) []string {
	switch kind {
	case script.World:
		return p.world
	case script.Move:
		return p.move
	case script.Quiet:
		return p.quiet
	case script.State:
		return p.state
	case script.Ledger:
		return p.ledger
	case script.Mark:
		return p.mark
	case script.Pipe:
		return p.pipe
	case script.Files:
		return p.files
	}
	// A text that was read has no kinds but these and script.Joined.
	return p.joined
}
