package run

import (
	"escrow/api"
	"escrow/ledger"
	"escrow/node"
	"escrow/pair"
	"escrow/script"
)

// mostDeliveries is what a quiet makes at the most, whatever it asks for.
const mostDeliveries = 1000000

// world: the pair was made of it already.
func (p *player) world(script.Command) []string { return []string{line("ok")} }

func (p *player) move(c script.Command) []string {
	told, e := p.pair.Do(c.Move)
	if e != api.OK {
		return []string{no(e)}
	}
	lines := append([]string{answer(told)}, quotes("send", told.Out)...)
	if closes(c.Move) && told.Err == api.OK {
		lines = append(lines, line("broadcast", number(told.Index), script.Quote(told.Text), script.Hex(told.Sig)))
	}
	return lines
}

func closes(m pair.Move) bool { return m.Kind == pair.Step && m.Step.Kind == node.Close }

func (p *player) quiet(c script.Command) []string {
	made, end := p.pair.Quiet(int(max(0, min(c.N, mostDeliveries))))
	return []string{line("ok", number(made), word(end, "yes", "no"))}
}

func (p *player) state(c script.Command) []string {
	n := p.pair.Node(c.Side)
	s := n.State()
	return []string{line("ok", word(n.Up(), "up", "down"),
		number(s.Local), number(s.Remote), number(s.Acked),
		counts(s.At), counts(s.Signed), counts(s.Held),
		number(len(s.Ours)), number(len(s.Peers)),
		number(s.Failed), number(s.Closed), word(s.Behind, "behind", "ahead"))}
}

func (p *player) ledger(c script.Command) []string {
	s := p.pair.Node(c.Side).State()
	l, e := ledger.Fold(s.BaseOurs, s.BasePeers, s.Ours, s.Peers, s.At)
	if e != api.OK {
		return []string{no(e)}
	}
	lines := []string{line("ok", number(l.Ours), number(l.Peers), number(len(l.Open)))}
	for _, x := range l.Open {
		lines = append(lines, line(word(x.Ours, "mine", "peers"), number(x.ID), number(x.Amount), script.Hex(x.Hash)))
	}
	return lines
}

func (p *player) mark(c script.Command) []string {
	return []string{line("ok", number(p.pair.Node(c.Side).Mark()))}
}

func (p *player) pipe(c script.Command) []string {
	l := p.pair.Pipe(c.Side)
	return append([]string{line("ok", number(len(l)))}, quotes("message", l)...)
}

func (p *player) files(c script.Command) []string {
	d := p.pair.Node(c.Side).Disk()
	names := d.List()
	lines := []string{line("ok", number(len(names)))}
	for _, name := range names {
		// A file that is listed has a size.
		size, _ := d.Size(name)
		lines = append(lines, line("file", script.Quote(name), number(size)))
	}
	return lines
}

func (p *player) joined(script.Command) []string {
	return []string{line("ok", word(p.pair.Joined(), "yes", "no"))}
}
