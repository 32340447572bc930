package node

import (
	"escrow/api"
	"escrow/channel"
	"escrow/disk"
	"escrow/msg"
)

// needsPower: is the node down behind a step of that kind, if its disk is off then?
func needsPower(kind int) bool { return needsChannel(kind) || kind == Crash || kind == Open }

// needsChannel: is it a step of a node that is up?
func needsChannel(kind int) bool { return Offer <= kind && kind <= Checkpoint }

// step does a step of any kind, or gives up.
func (n *Node) step(s Step) Told {
	if needsChannel(s.Kind) {
		require(n.Up(), api.ErrOff)
		return n.ownStep(s)
	}
	switch s.Kind {
	case Arm:
		n.disk.Arm(int(s.N), disk.Any)
	case Fall:
		n.disk.Fall(int(s.N))
	case Crash:
		n.crash(s.Fates, int(s.N))
	case Open:
		require(!n.Up(), api.ErrState)
		n.open()
	default:
		giveUp(api.ErrArg)
	}
	return Told{}
}

// ownStep does a step of a node that is up.
func (n *Node) ownStep(s Step) Told {
	switch s.Kind {
	case Offer:
		return n.proposed(n.channel.Offer(s.Amount, s.Hash))
	case Settle:
		return n.proposed(n.channel.Settle(s.ID, s.Hash))
	case Refuse:
		return n.proposed(n.channel.Refuse(s.ID, s.Note))
	case Sign:
		return n.sign()
	case Close:
		return n.broadcast()
	case Connect:
		return n.connect()
	case Disconnect:
		require(n.linked, api.ErrState)
		n.cut()
	case Take:
		return n.take(s.Bytes)
	case Checkpoint:
		must(n.channel.Checkpoint())
	}
	return Told{}
}

// proposed: an update is durable. It is said now only if the peer was greeted: else it goes behind the next hello.
func (n *Node) proposed(l []api.Message, e api.Errno) Told {
	must(e)
	if !n.greeted {
		return Told{}
	}
	return Told{Out: written(l...)}
}

func (n *Node) sign() Told {
	require(n.greeted, api.ErrState)
	l, e := n.channel.Sign()
	must(e)
	return Told{Out: written(l...)}
}

func (n *Node) broadcast() Told {
	index, text, sig, e := n.channel.Close()
	must(e)
	return Told{Index: index, Text: text, Sig: sig}
}

func (n *Node) connect() Told {
	require(!n.linked, api.ErrState)
	n.requireLiving()
	// First: a node whose hello can't be said isn't connected.
	hello := written(n.channel.Hello())
	n.link()
	return Told{Out: hello}
}

// take: a message of the peer.
func (n *Node) take(bytes string) Told {
	require(n.linked, api.ErrState)
	n.requireLiving()
	// Bytes that are no message read as the zero one, and with that the channel fails as they ask for.
	m, _ := msg.Read(bytes)
	l, e := n.reply(m)
	if e != api.OK {
		n.giveUpTake(e)
	}
	return Told{Out: written(l...)}
}

// reply: what the channel says to a message: as to a hello, till one was answered.
func (n *Node) reply(m api.Message) ([]api.Message, api.Errno) {
	if n.greeted {
		return n.channel.Take(m)
	}
	l, e := n.channel.Answer(m)
	if e == api.OK {
		n.greet()
	}
	return l, e
}

// giveUpTake: the peer's message was refused with that error by a channel that lived.
func (n *Node) giveUpTake(e api.Errno) {
	if code, dead := n.channel.Dead(); dead {
		giveUp(e, written(api.Message{Kind: api.MsgError, Index: int64(code)})...)
	}
	// It was the disk: the message was right and is lost, so that the peer must say it again.
	n.cut()
	giveUp(e)
}

// requireLiving: the step goes on only if the channel isn't dead.
func (n *Node) requireLiving() {
	_, dead := n.channel.Dead()
	require(!dead, api.ErrDead)
}

// cut: there is no connection any more, and what was heard on it and isn't covered is forgotten.
func (n *Node) cut() {
	n.unlink()
	n.channel.Cut()
}

// crash: the power goes, comes back, and goes again at the Write or Sync of that number, if there is one.
func (n *Node) crash(fates []api.Fate, number int) {
	n.goDown()
	n.disk.Crash(fates)
	n.disk.On()
	n.disk.Fall(number)
	n.open()
}

// open: the channel of a node that is down is opened anew.
func (n *Node) open() {
	ch, e := channel.Open(n.disk, n.config)
	must(e)
	n.channel = ch
}

// goDown: the channel is gone, and the connection with it.
func (n *Node) goDown() {
	n.unlink()
	n.channel = nil
}

// written: the messages as bytes, in order.
func written(l ...api.Message) []string {
	var out []string
	for _, m := range l {
		b, e := msg.Write(m)
		must(e)
		out = append(out, b)
	}
	return out
}
