package pair

import (
	"fmt"
	"math/rand"
	"slices"
	"strings"
	"testing"

	"escrow/api"
	"escrow/dance"
	"escrow/disk"
	"escrow/frame"
	"escrow/node"
	"escrow/record"
	"escrow/update"
)

// model is the chapter's words done one by one, on two nodes of its own.
type model struct {
	n      [2]*node.Node
	pipe   [2][]string
	joined bool
}

func newModel(t *testing.T, w World) *model {
	t.Helper()
	m := &model{}
	for side := range 2 {
		n, e := node.New(w.Disk, wantConfig(w, side))
		if e != api.OK {
			t.Fatalf("P24.1: node.New: %d", e)
		}
		m.n[side] = n
	}
	return m
}

func (m *model) cut() {
	for _, n := range m.n {
		if n.Connected() {
			n.Do(node.Step{Kind: 7})
		}
	}
	m.joined, m.pipe = false, [2][]string{}
}

func (m *model) dead(side int) bool {
	_, dead := m.n[side].Dead()
	return dead
}

// do is a move; and what is so behind it.
func (m *model) do(v Move) (node.Told, api.Errno) {
	told, e := m.move(v)
	if m.joined && (!m.n[0].Connected() || !m.n[1].Connected() || m.dead(0) || m.dead(1)) {
		m.cut()
	}
	return told, e
}

func (m *model) move(v Move) (node.Told, api.Errno) {
	if v.Side < 0 || v.Side > 1 {
		return node.Told{}, 1
	}
	other := 1 - v.Side
	switch v.Kind {
	case 1:
		if v.Step.Kind >= 6 && v.Step.Kind <= 8 {
			return node.Told{}, 1
		}
		told := m.n[v.Side].Do(v.Step)
		if m.joined {
			m.pipe[other] = append(m.pipe[other], told.Out...)
		}
		return told, 0
	case 2:
		if m.joined || !m.n[0].Up() || !m.n[1].Up() || m.dead(0) || m.dead(1) {
			return node.Told{}, 8
		}
		m.joined = true
		m.pipe[1] = m.n[0].Do(node.Step{Kind: 6}).Out
		m.pipe[0] = m.n[1].Do(node.Step{Kind: 6}).Out
		return node.Told{}, 0
	case 3:
		if !m.joined {
			return node.Told{}, 8
		}
		m.cut()
		return node.Told{}, 0
	case 4:
		if len(m.pipe[v.Side]) == 0 {
			return node.Told{}, 5
		}
		first := m.pipe[v.Side][0]
		m.pipe[v.Side] = m.pipe[v.Side][1:]
		told := m.n[v.Side].Do(node.Step{Kind: 8, Bytes: first})
		m.pipe[other] = append(m.pipe[other], told.Out...)
		return told, 0
	case 5:
		if len(m.pipe[v.Side]) == 0 {
			return node.Told{}, 5
		}
		m.cut()
		return node.Told{}, 0
	}
	return node.Told{}, 1
}

func (m *model) quiet(most int) (int, bool) {
	if !m.joined {
		if _, e := m.do(Move{Kind: 2}); e != 0 {
			return 0, false
		}
	}
	for made := 0; ; {
		side := 0
		if len(m.pipe[0]) == 0 {
			side = 1
		}
		if len(m.pipe[side]) > 0 {
			if made >= most {
				return made, false
			}
			m.do(Move{Kind: 4, Side: side})
			made++
			continue
		}
		told, _ := m.do(Move{Kind: 1, Side: 0, Step: node.Step{Kind: 4}})
		if told.Err != 0 {
			told, _ = m.do(Move{Kind: 1, Side: 1, Step: node.Step{Kind: 4}})
		}
		if told.Err != 0 {
			return made, true
		}
	}
}

func (m *model) whole() string {
	var b strings.Builder
	for side := range 2 {
		nodeOf(&b, m.n[side])
		fmt.Fprintf(&b, "%x\n", m.pipe[side])
	}
	fmt.Fprintln(&b, m.joined)
	return b.String()
}

// player makes moves by chance of a pair and of the model.
type player struct {
	*rand.Rand
	p    *Pair
	m    *model
	said []string
	seen map[string]int
}

func pick[T any](r *rand.Rand, of ...T) T { return of[r.Intn(len(of))] }

// did makes a move of both; false: they don't tell the same.
func (r *player) did(v Move) bool {
	was := r.m.joined
	got, e := r.p.Do(v)
	want, f := r.m.do(v)
	r.said = append(r.said, fmt.Sprintf("move %d %d, step %d %d %d %d, %d fates: %s, %d, the model %s, %d", v.Kind, v.Side, v.Step.Kind, v.Step.Amount, v.Step.ID, v.Step.N, len(v.Step.Fates), shownTold(got), e, shownTold(want), f))
	what := fmt.Sprint(v.Kind, " no ", int(f))
	if f == api.OK {
		what = fmt.Sprint(v.Kind, " ", int(want.Err))
	}
	r.seen[what]++
	if was && !r.m.joined {
		r.seen[what+" cuts"]++
	}
	return e == f && sameTold(got, want) && r.alike()
}

// alike: do the two tell the same, with all that stands on their disks?
func (r *player) alike() bool {
	for side := range 2 {
		if !sameNode(r.p.Node(side), r.m.n[side]) || !slices.Equal(r.p.Pipe(side), r.m.pipe[side]) {
			return false
		}
	}
	return r.p.Joined() == r.m.joined
}

func sameNode(a, b *node.Node) bool {
	code, dead := a.Dead()
	same, alive := b.Dead()
	return sameState(a.State(), b.State()) && a.Mark() == b.Mark() && code == same && dead == alive &&
		a.Up() == b.Up() && a.Connected() == b.Connected() && a.Greeted() == b.Greeted() && disksOf(a) == disksOf(b)
}

// quieted has Quiet of both.
func (r *player) quieted(most int) bool {
	n, ok := r.p.Quiet(most)
	k, end := r.m.quiet(most)
	r.said = append(r.said, fmt.Sprintf("quiet %d: %d, %v, the model %d, %v", most, n, ok, k, end))
	r.seen[fmt.Sprint("quiet ", min(k, 3), " ", end, " ", r.m.joined)]++
	return n == k && ok == end && r.alike()
}

// fates are some by chance: all lost, all kept, some of both, and now and then bytes of others.
func (r *player) fates() []api.Fate {
	var fates []api.Fate
	all := r.Intn(5)
	payload, _ := record.Write(api.Record{Kind: api.RecFailed, Code: 7})
	for _, file := range []string{"check", "check.tmp", "log.0", "log.1", "log.2", "mark", "mark.tmp"} {
		for n := range 20 {
			kind := []int{0, 1, r.Intn(2), r.Intn(2), r.Intn(3)}[all]
			text, _ := frame.Frame(int64(n), payload)
			fates = append(fates, api.Fate{File: file, Sector: n, Kind: kind, Bytes: text})
		}
	}
	return fates
}

// removable is the ID of an add of the peer's, most often of one that may be removed.
func removable(r *rand.Rand, s api.State) int64 {
	var open []int64
	for _, u := range s.Peers[:min(dance.Fixed(s).Peers, len(s.Peers))] {
		if _, gone := update.Removal(s.Ours, u.ID); u.Kind == api.Add && !gone {
			open = append(open, u.ID)
		}
	}
	if len(open) > 0 && r.Intn(5) > 0 {
		return pick(r, open...)
	}
	return r.Int63n(int64(len(s.Peers)) + 2)
}

// adds is how many of the updates are adds: the next one's ID.
func adds(l []api.Update) int64 {
	n := int64(0)
	for _, u := range l {
		if u.Kind == api.Add {
			n++
		}
	}
	return n
}

// proposal is a step of a side that says something of its own.
func (r *player) proposal(side int) Move {
	s := r.m.n[side].State()
	id := removable(r.Rand, s)
	switch r.Intn(12) {
	case 0, 1, 2:
		return offer(side, pick[int64](r.Rand, 1, 2, 5, 40, 0, 900), sum(preimage(side, adds(s.Ours))))
	case 3, 4:
		return settle(side, id)
	case 5:
		return refuse(side, id, strings.Repeat("n", pick(r.Rand, 0, 2, 64, 65)))
	}
	return kindOf(side, node.Sign)
}

// odd is a move that most pairs refuse.
func (r *player) odd(side int) Move {
	v := Move{Kind: r.Intn(9) - 1, Side: pick(r.Rand, side, side, -1, 2), Step: node.Step{Kind: r.Intn(17) - 1, Amount: 1, N: int64(r.Intn(4)), Bytes: "x"}}
	if v.Step.Kind == node.Close && r.Intn(10) > 0 {
		v.Step.Kind = node.Take
	}
	return v
}

// disturbed is what the world does to a side's disk.
func (r *player) disturbed(side int) bool {
	n := int64(r.Intn(7))
	switch r.Intn(50) {
	case 0, 1, 2:
		return r.did(armed(side, n))
	case 3, 4, 5:
		return r.did(falls(side, n))
	case 6, 7:
		return r.did(stepOf(side, node.Step{Kind: node.Crash, N: pick(r.Rand, 0, 0, n), Fates: r.fates()}))
	case 8:
		if r.Intn(2) == 0 {
			return r.spoilt(side)
		}
	case 9:
		if r.Intn(20) == 0 {
			return r.did(kindOf(side, node.Close))
		}
	}
	return true
}

// spoilt has others take away what a side's disk has, or some of it, and then the power.
func (r *player) spoilt(side int) bool {
	all, file := r.Intn(2) == 0, pick(r.Rand, "log.0", "mark", "check")
	r.said = append(r.said, fmt.Sprintf("others remove %s of %d, or all: %v", file, side, all))
	for _, d := range []*disk.Disk{r.p.Node(side).Disk(), r.m.n[side].Disk()} {
		for _, name := range d.List() {
			if all || name == file {
				d.Remove(name)
			}
		}
	}
	return r.did(kindOf(side, node.Crash))
}

// over: one of the two is dead, and not much more comes of them.
func (r *player) over() bool { return (r.m.dead(0) || r.m.dead(1)) && r.Intn(30) == 0 }

// turn is one move by chance.
func (r *player) turn() bool {
	side := r.Intn(2)
	up := r.m.n[side].Up()
	switch x := r.Intn(60); {
	case x < 3:
		return r.did(r.odd(side))
	case x == 3:
		return r.quieted(pick(r.Rand, 0, 1, 2, 3, 5, 100, 100, -1))
	case x == 4:
		return r.did(cuts)
	case x == 5:
		return r.did(loses(side))
	case x == 6:
		return r.did(joins)
	case x == 7:
		return r.did(kindOf(side, node.Checkpoint))
	case !up && x < 40:
		return r.did(stepOf(side, node.Step{Kind: pick(r.Rand, node.Crash, node.Crash, node.Open), Fates: r.fates(), N: int64(max(0, r.Intn(9)-6))}))
	case !r.m.joined && x < 30:
		return r.did(joins)
	case x < 40:
		return r.did(delivers(side))
	case up:
		return r.did(r.proposal(side)) && r.disturbed(side)
	}
	return r.did(delivers(side))
}

// P24.1: every move and every Quiet answers as said, in every order, whatever the disks do, and what is under way is as said.
func TestAgainstModel(t *testing.T) {
	t.Parallel()
	seen := map[string]int{}
	for seed := range int64(200) {
		r := &player{Rand: rand.New(rand.NewSource(seed)), seen: seen}
		w := world()
		w.Disk, w.Segment = pick(r.Rand, 1500, 4000, 1<<16, 1<<20), pick(r.Rand, 300, 1000, 4096)
		r.p, r.m = begunIn(t, w), newModel(t, w)
		for range 200 {
			if r.over() {
				break
			}
			if !r.turn() {
				t.Fatalf("P24.1: seed %d: not as the model answers:\n%s\n%q\n%q", seed, strings.Join(r.said, "\n"), whole(r.p), r.m.whole())
			}
		}
	}
	for _, want := range []string{
		"1 0", "1 1", "1 8", "1 9", "1 40", "1 41", "1 80", "1 120", "1 130", "1 220", "1 no 1", "1 0 cuts", "1 9 cuts",
		"2 0", "2 no 8", "2 no 1", "3 0", "3 no 8", "3 no 1", "3 0 cuts", "4 0", "4 9", "4 40", "4 41", "4 no 5", "4 no 1", "4 9 cuts", "4 40 cuts", "4 41 cuts", "4 90 cuts", "4 180 cuts",
		"5 0", "5 0 cuts", "5 no 5", "5 no 1", "-1 no 1", "0 no 1", "6 no 1", "7 no 1",
		"quiet 0 false false", "quiet 0 false true", "quiet 0 true true", "quiet 1 false true", "quiet 2 true true", "quiet 3 true true", "quiet 3 false true", "quiet 3 true false",
	} {
		if seen[want] < 3 {
			t.Errorf("the play had %q %d times", want, seen[want])
		}
	}
	if t.Failed() {
		var all []string
		for k, v := range seen {
			all = append(all, fmt.Sprintf("%s: %d", k, v))
		}
		slices.Sort(all)
		t.Logf("%s", strings.Join(all, "\n"))
	}
}
