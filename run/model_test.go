package run

import (
	"fmt"
	"math"
	"math/rand"
	"strings"
	"testing"

	"escrow/api"
	"escrow/disk"
	"escrow/ledger"
	"escrow/node"
	"escrow/pair"
)

// model is a script that grows by chance, with what it must tell: each command is done on a pair of its own as it is chosen, and told a second time, with no text read.
type model struct {
	*rand.Rand
	world    pair.World
	pair     *pair.Pair
	commands []string
	told     [][]string
	// offered is how many adds a side has proposed, at the most.
	offered [2]int64
	// odd: whether commands are chosen that are refused whatever stands ahead of them, and amounts and numbers of all kinds.
	odd  bool
	seen map[string]int
}

func newModel(t *testing.T, r *rand.Rand, w pair.World, seen map[string]int) *model {
	t.Helper()
	p, e := pair.New(w)
	if e != api.OK {
		t.Fatalf("pair.New(%+v): %d", w, e)
	}
	return &model{Rand: r, world: w, pair: p, commands: []string{worldLine(w)}, told: [][]string{{"ok"}}, seen: seen}
}

// script is the text of all commands.
func (m *model) script() string { return textOf(m.commands...) }

// lines is what they tell, if all that is told has room.
func (m *model) lines() string {
	var all strings.Builder
	for _, l := range m.told {
		text := textOf(l...)
		if all.Len()+len(text) > 1048576 {
			text = "no 3\n"
		}
		all.WriteString(text)
	}
	return all.String()
}

func (m *model) say(command string, lines ...string) {
	m.commands = append(m.commands, command)
	m.told = append(m.told, lines)
	words := strings.Split(command, " ")
	if words[0] == "step" {
		words[0] += " " + words[2]
	}
	m.seen[words[0]+": "+strings.Join(strings.Split(lines[0], " ")[:min(2, strings.Count(lines[0], " ")+1)], " ")]++
}

func (m *model) move(command string, x pair.Move) {
	told, e := m.pair.Do(x)
	if e != api.OK {
		m.say(command, fmt.Sprintf("no %d", int(e)))
		return
	}
	lines := []string{fmt.Sprintf("ok %d", len(told.Out))}
	if told.Err != api.OK {
		lines[0] = fmt.Sprintf("err %d %d", int(told.Err), len(told.Out))
	}
	for _, b := range told.Out {
		lines = append(lines, "send "+quoted(b))
	}
	if x.Kind == pair.Step && x.Step.Kind == node.Close && told.Err == api.OK {
		lines = append(lines, fmt.Sprintf("broadcast %d %s %x", told.Index, quoted(told.Text), told.Sig[:]))
	}
	m.say(command, lines...)
}

func (m *model) step(side int, words string, s node.Step) {
	m.move(fmt.Sprintf("step %d %s", side, words), pair.Move{Kind: pair.Step, Side: side, Step: s})
}

func (m *model) quiet(n int64) {
	most := n
	if most < 0 {
		most = 0
	}
	if most > 1000000 {
		most = 1000000
	}
	made, end := m.pair.Quiet(int(most))
	m.say(fmt.Sprintf("quiet %d", n), fmt.Sprintf("ok %d %s", made, map[bool]string{true: "yes", false: "no"}[end]))
}

// question: one of the five, of any side.
func (m *model) question(name string, side int) {
	n := m.pair.Node(side)
	command := fmt.Sprintf("%s %d", name, side)
	if n == nil {
		m.say(command, "no 1")
		return
	}
	s := n.State()
	switch name {
	case "state":
		m.say(command, stateLine(n, s))
	case "ledger":
		m.say(command, ledgerLines(s)...)
	case "mark":
		m.say(command, fmt.Sprintf("ok %d", n.Mark()))
	case "pipe":
		lines := []string{fmt.Sprintf("ok %d", len(m.pair.Pipe(side)))}
		for _, b := range m.pair.Pipe(side) {
			lines = append(lines, "message "+quoted(b))
		}
		m.say(command, lines...)
	case "files":
		m.say(command, fileLines(n.Disk())...)
	}
}

func stateLine(n *node.Node, s api.State) string {
	up, order := "down", "ahead"
	if n.Up() {
		up = "up"
	}
	if s.Behind {
		order = "behind"
	}
	text := fmt.Sprintln("ok", up, s.Local, s.Remote, s.Acked, s.At.Ours, s.At.Peers, s.Signed.Ours, s.Signed.Peers, s.Held.Ours, s.Held.Peers, len(s.Ours), len(s.Peers), s.Failed, s.Closed, order)
	return strings.TrimSuffix(text, "\n")
}

func ledgerLines(s api.State) []string {
	l, e := ledger.Fold(s.BaseOurs, s.BasePeers, s.Ours, s.Peers, s.At)
	if e != api.OK {
		return []string{fmt.Sprintf("no %d", int(e))}
	}
	lines := []string{fmt.Sprintf("ok %d %d %d", l.Ours, l.Peers, len(l.Open))}
	for _, x := range l.Open {
		whose := "peers"
		if x.Ours {
			whose = "mine"
		}
		lines = append(lines, fmt.Sprintf("%s %d %d %x", whose, x.ID, x.Amount, x.Hash[:]))
	}
	return lines
}

func fileLines(d *disk.Disk) []string {
	lines := []string{fmt.Sprintf("ok %d", len(d.List()))}
	for _, name := range d.List() {
		text, _ := d.Read(name, 0, api.MaxFile)
		lines = append(lines, fmt.Sprintf("file %s %d", quoted(name), len(text)))
	}
	return lines
}

func (m *model) joined() {
	word := "no"
	if m.pair.Node(0).Connected() && m.pair.Node(1).Connected() {
		word = "yes"
	}
	m.say("joined", "ok "+word)
}

// side: one of the two, or, where the script may be odd, at times none.
func (m *model) side() int {
	if m.odd && m.Intn(25) == 0 {
		return []int{2, -1, math.MaxInt, math.MinInt, 1 << 32}[m.Intn(5)]
	}
	return m.Intn(2)
}

func (m *model) number(most int64) int64 {
	if m.odd && m.Intn(12) == 0 {
		return []int64{0, -1, math.MaxInt64, math.MinInt64, 1 << 32, api.MaxAmount, api.MaxAmount + 1}[m.Intn(7)]
	}
	return m.Int63n(most)
}

func (m *model) offer(side int) {
	id := int64(0)
	if side == 0 || side == 1 {
		id = m.offered[side]
		m.offered[side]++
	}
	amount, hash := 1+m.number(120), sum(preimage(side, id))
	m.step(side, fmt.Sprintf("offer %d %x", amount, hash[:]), node.Step{Kind: node.Offer, Amount: amount, Hash: hash})
}

// remove: one of the other side's adds, that there may be.
func (m *model) remove(side int) {
	id := m.number(10)
	if n := m.pair.Node(side); n != nil {
		id = m.number(int64(len(n.State().Peers) + 1))
		for _, u := range n.State().Peers {
			if u.Kind == api.Add && m.Intn(2) == 0 {
				id = u.ID
			}
		}
	}
	if m.Intn(2) == 0 {
		note := make([]byte, m.Intn(66))
		m.Read(note)
		m.step(side, fmt.Sprintf("refuse %d %s", id, quoted(string(note))), node.Step{Kind: node.Refuse, ID: id, Note: string(note)})
		return
	}
	hash := preimage(1-side, id)
	if m.Intn(8) == 0 {
		hash[0]++
	}
	m.step(side, fmt.Sprintf("settle %d %x", id, hash[:]), node.Step{Kind: node.Settle, ID: id, Hash: hash})
}

// plain is a step of which a kind and a side are all.
func (m *model) plain(side int) {
	names := []string{"sign", "sign", "sign", "sign", "checkpoint", "checkpoint", "open", "connect", "disconnect"}
	kinds := []int{node.Sign, node.Sign, node.Sign, node.Sign, node.Checkpoint, node.Checkpoint, node.Open, node.Connect, node.Disconnect}
	i := m.Intn(len(names))
	if m.odd && m.Intn(10) == 0 {
		m.step(side, `take "\x07"`, node.Step{Kind: node.Take, Bytes: "\x07"})
		return
	}
	m.step(side, names[i], node.Step{Kind: kinds[i]})
}

// trouble: the disk is to refuse something, or the power to go.
func (m *model) trouble(side int) {
	n := m.number(7)
	if m.Intn(2) == 0 {
		m.step(side, fmt.Sprintf("arm %d", n), node.Step{Kind: node.Arm, N: n})
		return
	}
	m.step(side, fmt.Sprintf("fall %d", n), node.Step{Kind: node.Fall, N: n})
}

// crash: with fates of sectors that may be dirty, and of others.
func (m *model) crash(side int) {
	var fates []api.Fate
	if x := m.pair.Node(side); x != nil {
		fates = m.fates(x.Disk())
	}
	m.crashWith(side, max(0, m.number(8)-4), fates)
}

func (m *model) crashWith(side int, n int64, fates []api.Fate) {
	words := fmt.Sprintf("crash %d", n)
	for _, f := range fates {
		words += fmt.Sprintf(" %s %s %d", []string{"lost", "kept", "replace"}[f.Kind], quoted(f.File), f.Sector)
		if f.Kind == api.FateReplace {
			words += " " + quoted(f.Bytes)
		}
	}
	if len(words) > 4000 {
		words, fates = fmt.Sprintf("crash %d", n), nil
	}
	m.step(side, words, node.Step{Kind: node.Crash, N: n, Fates: fates})
}

// fates of what is dirty: by one kind or by chance; a replaced sector has bytes that were never laid.
func (m *model) fates(d *disk.Disk) []api.Fate {
	c := d.Copy()
	c.Crash(nil)
	c.On()
	names := append(c.List(), "log.0", "log.1", "check.tmp", "mark.tmp", "no \"such\" file\\")
	kinds := m.Intn(4)
	var l []api.Fate
	for _, name := range names {
		size, _ := c.Size(name)
		for k := max(0, size/api.Sector-1); k < size/api.Sector+3; k++ {
			f := api.Fate{File: name, Sector: k, Kind: []int{api.FateLost, api.FateKept, m.Intn(2), m.Intn(3)}[kinds]}
			if f.Kind == api.FateReplace {
				b := make([]byte, m.Intn(70))
				m.Read(b)
				f.Bytes = string(b)
			}
			if m.Intn(3) > 0 {
				l = append(l, f)
			}
		}
	}
	return l
}

func (m *model) ask() {
	m.question([]string{"state", "state", "ledger", "mark", "pipe", "files"}[m.Intn(6)], m.side())
}

func (m *model) deliver(side int) {
	m.move(fmt.Sprintf("deliver %d", side), pair.Move{Kind: pair.Deliver, Side: side})
}

// isDown: has that side no power, or no channel?
func (m *model) isDown(side int) bool {
	n := m.pair.Node(side)
	return n != nil && !n.Up()
}

// turn is one command more, by chance.
func (m *model) turn() {
	side := m.side()
	x := m.Intn(100)
	switch {
	case m.isDown(side) && x < 60:
		m.crash(side)
	case !m.pair.Joined() && x < 35:
		m.move("join", pair.Move{Kind: pair.Join})
	case x < 38 && len(m.pair.Pipe(side)) > 0:
		m.deliver(side)
	case x < 50:
		m.offer(side)
	case x < 60:
		m.remove(side)
	case x < 70:
		m.plain(side)
	case x < 73:
		m.trouble(side)
	case x < 75:
		m.crash(side)
	case x < 78:
		m.quiet(m.number(9))
	case x < 80:
		m.quiet(m.number(1000))
	case x < 82:
		m.move("cut", pair.Move{Kind: pair.Cut})
	case x < 84:
		m.move(fmt.Sprintf("lose %d", side), pair.Move{Kind: pair.Lose, Side: side})
	case x < 86:
		m.joined()
	case x < 87:
		m.move("join", pair.Move{Kind: pair.Join})
	case x < 90:
		m.deliver(side)
	case x == 90 && m.Intn(6) == 0:
		m.step(side, "close", node.Step{Kind: node.Close})
	default:
		m.ask()
	}
}

// chosen is a world by chance: roomy, or with a disk or segments that are soon full.
func chosen(r *rand.Rand) pair.World {
	w := theWorld()
	w.Disk, w.Segment = 1<<20, 1<<16
	switch r.Intn(4) {
	case 0:
		w.Disk, w.Segment = 300+r.Intn(5000), 64+r.Intn(3000)
	case 1:
		w.Capacity, w.Ours = 1+r.Int63n(5000), 0
	case 2:
		w.Seeds[0], w.Keys[1] = named("seed", r.Int63()), named("key", r.Int63())
	}
	return w
}

// P26.1: scripts by chance tell what a second telling says.
func TestScriptsByChance(t *testing.T) {
	t.Parallel()
	seen := map[string]int{}
	for seed := range int64(250) {
		r := rand.New(rand.NewSource(seed))
		m := newModel(t, r, chosen(r), seen)
		m.odd = r.Intn(2) == 0
		for range []int{10, 60, 250}[r.Intn(3)] {
			m.turn()
		}
		if len(m.script()) > api.MaxScript {
			continue
		}
		plays(t, "P26.1", m.script(), m.lines())
		if t.Failed() {
			t.Fatalf("in the script of seed %d", seed)
		}
	}
	for _, want := range []string{
		"join: ok 0", "join: no 8", "cut: ok 0", "cut: no 8", "deliver: ok 0", "deliver: ok 1", "deliver: ok 2", "deliver: no 5", "deliver: err 40", "deliver: err 9", "lose: ok 0", "lose: no 5", "deliver: no 1", "lose: no 1",
		"step offer: ok 0", "step offer: ok 1", "step offer: err 9", "step offer: err 40", "step offer: err 41", "step offer: err 80", "step offer: err 130", "step offer: no 1",
		"step settle: ok 1", "step settle: err 120", "step refuse: ok 1", "step refuse: err 120", "step sign: ok 1", "step sign: err 8", "step sign: err 9", "step connect: no 1", "step take: no 1",
		"step close: ok 0", "step offer: err 220", "step checkpoint: ok 0", "step checkpoint: err 40", "step open: err 8", "step open: err 9", "step crash: ok 0", "step crash: err 9", "step arm: ok 0", "step fall: ok 0",
		"quiet: ok 0", "quiet: ok 2", "quiet: ok 7", "state: ok up", "state: ok down", "state: no 1", "ledger: ok 0", "ledger: no 1", "mark: ok -1", "mark: ok 0", "mark: ok 1", "mark: no 1", "pipe: ok 0", "pipe: ok 1", "pipe: ok 2", "pipe: no 1", "files: ok 0", "files: ok 1", "files: ok 2", "files: ok 3", "files: no 1", "joined: ok yes", "joined: ok no",
	} {
		if seen[want] < 3 {
			t.Errorf("the scripts had %q %d times", want, seen[want])
		}
	}
}
