package pair

import (
	"escrow/api"
	"escrow/node"
)

// move does a move of any kind, of a side that there is.
func (p *Pair) move(m Move) (node.Told, api.Errno) {
	switch m.Kind {
	case Step:
		return p.step(m.Side, m.Step)
	case Join:
		return node.Told{}, p.join()
	case Cut:
		return node.Told{}, p.cut()
	case Deliver:
		return p.deliver(m.Side)
	case Lose:
		return node.Told{}, p.lose(m.Side)
	}
	return node.Told{}, api.ErrArg
}

// step: a step of a side that isn't the pair's own to do.
func (p *Pair) step(side int, s node.Step) (node.Told, api.Errno) {
	switch s.Kind {
	case node.Connect, node.Disconnect, node.Take:
		return node.Told{}, api.ErrArg
	}
	return p.does(side, s), api.OK
}

// join: both are connected anew, and their hellos are under way.
func (p *Pair) join() api.Errno {
	if p.Joined() || !p.mayJoin() {
		return api.ErrState
	}
	// Whoever holds a node may have ended its connection beside the pair: the other's would be no new one.
	p.part()
	var hellos [2]node.Told
	for side, n := range p.nodes {
		hellos[side] = n.Do(node.Step{Kind: node.Connect})
	}
	for side, hello := range hellos {
		p.send(side, hello.Out)
	}
	return api.OK
}

func (p *Pair) cut() api.Errno {
	if !p.Joined() {
		return api.ErrState
	}
	p.part()
	return api.OK
}

// deliver: a side takes the first message that is under way to it.
func (p *Pair) deliver(side int) (node.Told, api.Errno) {
	if !p.awaits(side) {
		return node.Told{}, api.ErrNone
	}
	return p.does(side, node.Step{Kind: node.Take, Bytes: p.pipes[side].takeOff()}), api.OK
}

// lose: no single message is ever lost, but with it the connection.
func (p *Pair) lose(side int) api.Errno {
	if !p.awaits(side) {
		return api.ErrNone
	}
	return p.cut()
}

// does: a step of a side, whose messages are under way then.
func (p *Pair) does(side int, s node.Step) node.Told {
	told := p.nodes[side].Do(s)
	p.send(side, told.Out)
	return told
}

// send: what a side says goes to the other, if there is a way to it.
func (p *Pair) send(side int, out []string) {
	if p.Joined() {
		p.pipes[1-side].put(out)
	}
}

// part: neither is connected, and nothing is under way.
func (p *Pair) part() {
	for _, n := range p.nodes {
		if n.Connected() {
			n.Do(node.Step{Kind: node.Disconnect})
		}
	}
	p.pipes = [2]pipe{}
}

// mayTalk: are both connected, and neither dead?
func (p *Pair) mayTalk() bool { return p.Joined() && p.mayJoin() }

// mayJoin: are both up, and neither dead?
func (p *Pair) mayJoin() bool { return lives(p.nodes[0]) && lives(p.nodes[1]) }

func lives(n *node.Node) bool {
	_, dead := n.Dead()
	return n.Up() && !dead
}

// awaits: is something under way to that side? What was is lost as soon as one of the two isn't connected, whoever saw to that.
func (p *Pair) awaits(side int) bool {
	return isSide(side) && p.Joined() && len(p.pipes[side]) > 0
}

// awaited: the side to which the next message goes; false: nothing is under way.
func (p *Pair) awaited() (int, bool) {
	for side := range p.pipes {
		if p.awaits(side) {
			return side, true
		}
	}
	return 0, false
}

// signs: a side signs; was that answered with OK?
func (p *Pair) signs(side int) bool {
	told, e := p.Do(Move{Kind: Step, Side: side, Step: node.Step{Kind: node.Sign}})
	return e == api.OK && told.Err == api.OK
}
