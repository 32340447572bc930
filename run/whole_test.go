package run

import (
	"fmt"
	"math/rand"
	"strconv"
	"strings"
	"testing"

	"escrow/api"
	"escrow/msg"
	"escrow/node"
	"escrow/pair"
	"escrow/script"
)

// watched is a script with questions between its commands: what is under way ahead of each delivery and behind each join, and both sides' numbers behind each command. The other list says which of its commands are the script's own.
func watched(commands []string) ([]string, []int) {
	var all []string
	var own []int
	for _, c := range commands {
		if side, is := strings.CutPrefix(c, "deliver "); is {
			all = append(all, "pipe "+side)
		}
		own = append(own, len(all))
		all = append(all, c)
		if c == "join" {
			all = append(all, "pipe 0", "pipe 1")
		}
		all = append(all, "state 0", "state 1", "ledger 0", "ledger 1", "mark 0", "mark 1", "joined")
	}
	return all, own
}

// side is what is known of one of the two by what was told.
type side struct {
	// state and ledger are the lines that were told last, and those that were told while it was up.
	state, ledger, up string
	mark              int64
	// signed is the signatures that it sent, by index; revealed the greatest index that it told; heard the greatest that it was told.
	signed          map[int64]string
	revealed, heard int64
	broadcast       int64
	under           string
}

// watch holds what is told against the document's promises over a whole script.
type watch struct {
	t        *testing.T
	capacity int64
	sides    [2]side
	pipes    [2][]string
	seen     map[string]int
	at       string
}

func newWatch(t *testing.T, capacity int64, seen map[string]int) *watch {
	w := &watch{t: t, capacity: capacity, seen: seen}
	for i := range w.sides {
		w.sides[i] = side{signed: map[int64]string{}, revealed: -1, heard: -1, broadcast: -1, mark: -1}
	}
	return w
}

func (w *watch) fatal(format string, a ...any) {
	w.t.Helper()
	w.t.Fatalf("at %q: "+format, append([]any{w.at}, a...)...)
}

// unquoted is the text that a line has in quotes.
func (w *watch) unquoted(line string) string {
	w.t.Helper()
	l, e := script.Parse("step 0 take " + line[strings.IndexByte(line, '"'):])
	if e != api.OK {
		w.fatal("%q isn't quoted", line)
	}
	return l[0].Move.Step.Bytes
}

func (w *watch) messageOf(line string) (api.Message, string) {
	w.t.Helper()
	b := w.unquoted(line)
	m, e := msg.Read(b)
	if e != api.OK {
		w.fatal("%q is no message", line)
	}
	return m, b
}

func numberAt(line string, word int) int64 {
	n, _ := strconv.ParseInt(strings.Split(line, " ")[word], 10, 64)
	return n
}

// actor: the side whose step or delivery a command is.
func actor(command string) (int, bool) {
	words := strings.Split(command, " ")
	if words[0] != "step" && words[0] != "deliver" || words[1] != "0" && words[1] != "1" {
		return 0, false
	}
	return int(words[1][0] - '0'), true
}

// T1, T5, T7: what is sent and broadcast, and what is taken.
func (w *watch) sends(command string, lines []string) {
	w.t.Helper()
	who, acts := actor(command)
	if !acts {
		return
	}
	s := &w.sides[who]
	for _, line := range lines[1:] {
		if strings.HasPrefix(line, "broadcast ") {
			w.broadcasts(s, line)
			continue
		}
		m, b := w.messageOf(line)
		switch m.Kind {
		case api.MsgRevoke:
			s.revealed = max(s.revealed, m.Index)
			if m.Secret != secretOf(who, m.Index) || s.broadcast >= 0 && m.Index >= s.broadcast {
				w.fatal("T1: side %d reveals %d, and has broadcast %d", who, m.Index, s.broadcast)
			}
		case api.MsgCommit:
			if old, twice := s.signed[m.Index]; twice && old != b {
				w.fatal("T5: side %d signs %d in two ways", who, m.Index)
			} else if twice {
				w.seen["signed again"]++
			}
			s.signed[m.Index] = b
		case api.MsgError:
			w.fatal("T5: side %d fails with %d", who, m.Index)
		}
	}
	if strings.HasPrefix(command, "deliver ") && strings.HasPrefix(lines[0], "ok ") {
		w.takes(s, who)
	}
}

func (w *watch) broadcasts(s *side, line string) {
	w.t.Helper()
	index := numberAt(line, 1)
	if index <= s.revealed || s.broadcast >= 0 && s.broadcast != index || index != numberAt(s.up, 2) {
		w.fatal("T1: %d is broadcast, %d was, %d was revealed, and the state was %q", index, s.broadcast, s.revealed, s.up)
	}
	s.broadcast = index
	w.seen["broadcast "+strconv.FormatInt(min(index, 2), 10)]++
}

func (w *watch) takes(s *side, who int) {
	w.t.Helper()
	if len(w.pipes[who]) == 0 {
		w.fatal("nothing was under way to side %d", who)
	}
	m, _ := w.messageOf(w.pipes[who][0])
	if m.Kind == api.MsgRevoke {
		s.heard = max(s.heard, m.Index)
	}
}

// hello: what a side says first behind a join (T7).
func (w *watch) hello(who int, line string) {
	w.t.Helper()
	m, _ := w.messageOf(line)
	s := w.sides[who]
	if m.Kind != api.MsgHello || m.Index != numberAt(s.up, 2)+1 || m.Next != numberAt(s.up, 4) || m.Next <= s.heard {
		w.fatal("T7: side %d says %+v, was told %d, and its state is %q", who, m, s.heard, s.up)
	}
	if m.Next > 0 && m.Secret != secretOf(1-who, m.Next-1) {
		w.fatal("T7: side %d doesn't know the secret %d any more", who, m.Next-1)
	}
	w.seen["hello "+strconv.FormatInt(min(m.Next, 2), 10)]++
}

// asked: a question that was put between the script's own commands.
func (w *watch) asked(question string, lines []string, moved bool) {
	w.t.Helper()
	words := strings.Split(question, " ")
	if len(words) < 2 {
		return
	}
	who, _ := strconv.Atoi(words[1])
	s := &w.sides[who]
	switch words[0] {
	case "pipe":
		w.pipes[who] = lines[1:]
		if moved && len(lines) > 1 {
			w.hello(1-who, lines[1])
		}
	case "state":
		s.state = lines[0]
	case "mark":
		s.mark = numberAt(lines[0], 1)
	case "ledger":
		s.ledger = strings.Join(lines, "\n")
		w.sumsUp(s, lines)
	}
}

// T3: both balances and the open amounts are the capacity, and none is below 0.
func (w *watch) sumsUp(s *side, lines []string) {
	w.t.Helper()
	if strings.HasPrefix(s.state, "ok down") {
		return
	}
	ours, peers := numberAt(lines[0], 1), numberAt(lines[0], 2)
	all := ours + peers
	for _, line := range lines[1:] {
		all += numberAt(line, 2)
	}
	if all != w.capacity || ours < 0 || peers < 0 {
		w.fatal("T3: of %d there are %d: %q", w.capacity, all, lines)
	}
}

// T2, T4: what has become of the states behind one of the script's own commands.
func (w *watch) behind(command, first string, was [2]side) {
	w.t.Helper()
	who, acts := actor(command)
	for i := range w.sides {
		s := &w.sides[i]
		if strings.HasPrefix(s.state, "ok up") {
			w.goesOn(i, was[i], acts && who == i)
			s.up = s.state
		}
	}
	refused := strings.HasPrefix(first, "no ") || strings.HasPrefix(first, "err ") && !strings.HasPrefix(first, "err 9 ") && !strings.HasPrefix(command, "deliver ")
	if !refused {
		return
	}
	if strings.HasPrefix(first, "err ") && !strings.HasSuffix(first, " 0") {
		w.fatal("T4: %q is told", first)
	}
	for i, s := range w.sides {
		if s.state != was[i].state || s.ledger != was[i].ledger || s.mark != was[i].mark {
			w.fatal("T4: behind %q the states are %q, and were %q", first, s.state, was[i].state)
		}
	}
	w.seen["refused: "+strings.Join(strings.Split(first, " ")[:2], " ")]++
}

// goesOn: no number of a side goes down, but of the peer's updates; and only its own command makes more of it than one batch. Behind a crash that is one batch at most.
func (w *watch) goesOn(i int, was side, own bool) {
	w.t.Helper()
	s := w.sides[i]
	if s.mark < numberAt(s.state, 2)-2 || s.mark >= numberAt(s.state, 2) && numberAt(s.state, 2) > 0 {
		w.fatal("T2: side %d has the mark %d and is %q", i, s.mark, s.state)
	}
	if was.up == "" {
		return
	}
	grown := int64(0)
	for _, word := range []int{2, 3, 4, 11} {
		n := numberAt(s.state, word) - numberAt(was.up, word)
		if n < 0 {
			w.fatal("T2: side %d is %q, and was %q", i, s.state, was.up)
		}
		grown += n
	}
	if closed := numberAt(was.up, 14); closed >= 0 && numberAt(s.state, 14) != closed {
		w.fatal("T2: side %d is %q, and was %q", i, s.state, was.up)
	}
	if strings.HasPrefix(was.state, "ok down") && grown <= 1 {
		w.seen["a crash and "+strconv.FormatInt(grown, 10)]++
	}
	if grown > 1 || grown > 0 && !own {
		w.fatal("T2: side %d is %q, and was %q", i, s.state, was.up)
	}
}

// watches plays a script that is watched, and holds what it tells against the promises.
func (w *watch) watches(commands []string) {
	w.t.Helper()
	all, own := watched(commands)
	told := parts(w.t, all, mustPlay(w.t, textOf(all...)))
	plain := parts(w.t, commands, mustPlay(w.t, textOf(commands...)))
	was := w.sides
	command := ""
	next := 0
	for i, lines := range told {
		if next < len(own) && own[next] == i {
			// The questions between change nothing.
			if textOf(lines...) != textOf(plain[next]...) {
				w.t.Fatalf("P26.1: %q tells %q where it is watched, else %q", commands[next], lines, plain[next])
			}
			was, command, w.at = w.sides, all[i], fmt.Sprint(commands[max(0, next-5):next+1])
			w.sends(command, lines)
			next++
			continue
		}
		w.asked(all[i], lines, command == "join" && strings.HasPrefix(told[own[next-1]][0], "ok "))
		if all[i] == "joined" && (next == len(own) || i+1 == own[next] || strings.HasPrefix(all[i+1], "pipe ")) {
			w.behind(command, told[own[next-1]][0], was)
		}
	}
}

// lively is one command more, by chance, of a script in which much goes to and fro; no quiet, which does more than it tells.
func (m *model) lively() {
	side := m.Intn(2)
	if len(m.pair.Pipe(side)) == 0 {
		side = 1 - side
	}
	x := m.Intn(100)
	switch {
	case m.isDown(side) && x < 80:
		m.crash(side)
	case !m.pair.Joined() && x < 70:
		m.move("join", pair.Move{Kind: pair.Join})
	case len(m.pair.Pipe(side)) > 0 && x < 62:
		m.deliver(side)
	case x < 72:
		m.offer(m.Intn(2))
	case x < 79:
		m.remove(m.Intn(2))
	case x < 90:
		m.plain(m.Intn(2))
	case x < 94:
		m.trouble(m.Intn(2))
	case x < 96:
		m.crash(m.Intn(2))
	case x < 97:
		m.move("cut", pair.Move{Kind: pair.Cut})
	case x < 98:
		m.move(fmt.Sprintf("lose %d", side), pair.Move{Kind: pair.Lose, Side: side})
	case x < 99:
		m.deliver(m.Intn(2))
	case m.Intn(2) == 0:
		m.step(side, "close", node.Step{Kind: node.Close})
	}
}

// calm has both sides be up, with disks that refuse nothing, and then be quiet; false: one is dead, or its disk is full.
func (m *model) calm() bool {
	for who := range 2 {
		n := m.pair.Node(who)
		for i := 0; i < 3 && !n.Up(); i++ {
			m.stepOf(who, "crash 0")
		}
		m.stepOf(who, "arm 0")
		m.stepOf(who, "fall 0")
		m.stepOf(who, "checkpoint")
		if _, dead := n.Dead(); dead || !n.Up() || m.told[len(m.told)-1][0] != "ok 0" {
			return false
		}
	}
	m.quiet(1000000)
	return true
}

// stepOf: a step by its words.
func (m *model) stepOf(who int, words string) {
	line := fmt.Sprintf("step %d %s", who, words)
	l, e := script.Parse(line)
	if e != api.OK {
		panic(line)
	}
	m.move(line, l[0].Move)
}

// mirrored: behind a quiet that came to its end both sides hold the same, nothing is under way, and each mark is one below its commitment's index (T6).
func mirrored(t *testing.T, commands []string) {
	t.Helper()
	questions := []string{"pipe 0", "pipe 1", "state 0", "state 1", "mark 0", "mark 1", "ledger 0", "ledger 1"}
	all := append(commands[:len(commands):len(commands)], questions...)
	told := parts(t, all, mustPlay(t, textOf(all...)))
	quiet := told[len(commands)-1][0]
	l := told[len(commands):]
	a, b := strings.Split(l[2][0], " "), strings.Split(l[3][0], " ")
	same := strings.HasSuffix(quiet, " yes") && l[0][0] == "ok 0" && l[1][0] == "ok 0" && a[1] == "up" && b[1] == "up" &&
		a[2] == b[3] && a[3] == b[2] && a[3] == a[4] && b[3] == b[4] && a[12] == b[11] && a[11] == b[12] &&
		numberAt(l[4][0], 1) == numberAt(l[2][0], 2)-1 && numberAt(l[5][0], 1) == numberAt(l[3][0], 2)-1
	// At, Signed and Held are all that there is.
	for word := 5; word < 11; word++ {
		same = same && a[word] == a[11+(word-5)%2] && b[word] == b[11+(word-5)%2]
	}
	if !same || turned(l[6]) != strings.Join(l[7], "\n") {
		t.Fatalf("T6: behind %q the two tell %q", commands, l)
	}
}

// turned is a ledger's lines as the other side tells them.
func turned(lines []string) string {
	head := strings.Split(lines[0], " ")
	head[1], head[2] = head[2], head[1]
	var mine, peers []string
	for _, line := range lines[1:] {
		if rest, is := strings.CutPrefix(line, "mine "); is {
			peers = append(peers, "peers "+rest)
		} else {
			mine = append(mine, "mine "+strings.TrimPrefix(line, "peers "))
		}
	}
	return strings.Join(append(append([]string{strings.Join(head, " ")}, mine...), peers...), "\n")
}

// T1 to T7 over scripts by chance, by what they tell.
func TestPromisesOverWholeScripts(t *testing.T) {
	t.Parallel()
	seen := map[string]int{}
	for seed := range int64(300) {
		r := rand.New(rand.NewSource(5000 + seed))
		world := theWorld()
		world.Disk, world.Segment = 1<<20, []int{4096, 65536}[r.Intn(2)]
		m := newModel(t, r, world, map[string]int{})
		for range []int{15, 60, 100, 100}[r.Intn(4)] {
			m.lively()
		}
		closes := r.Intn(2) == 0
		if closes {
			m.step(0, "close", node.Step{Kind: node.Close})
			m.step(1, "close", node.Step{Kind: node.Close})
		}
		newWatch(t, world.Capacity, seen).watches(m.commands)
		if m.calm() {
			mirrored(t, m.commands)
			seen["quiet"]++
		}
		if t.Failed() {
			t.Fatalf("in the script of seed %d", seed)
		}
	}
	for _, want := range []string{"signed again", "broadcast 0", "broadcast 1", "broadcast 2", "hello 0", "hello 1", "hello 2", "a crash and 0", "a crash and 1", "quiet", "refused: no 1", "refused: no 5", "refused: no 8", "refused: err 8", "refused: err 40", "refused: err 120", "refused: err 130", "refused: err 220"} {
		if seen[want] < 5 {
			t.Errorf("the scripts had %q %d times: %v", want, seen[want], seen)
		}
	}
}
