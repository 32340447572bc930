package node

import (
	"fmt"
	"math/rand"
	"slices"
	"testing"

	"escrow/api"
	"escrow/dance"
	"escrow/disk"
)

// moment is one step of side 1, and what it told and left on a disk that refuses nothing.
type moment struct {
	Step
	want          Told
	before, after api.State
}

// tape is the steps of side 1 of two nodes that talk, in their order.
type tape struct {
	t       *testing.T
	a, b    *Node
	moments []moment
}

// say is a step of side 1; side 0 takes what it sends, and so on.
func (p *tape) say(s Step) []string {
	p.t.Helper()
	before := p.b.State()
	told := p.b.Do(s)
	p.moments = append(p.moments, moment{s, told, before, p.b.State()})
	return told.Out
}

// tell is a step of side 0; side 1 takes what it sends, and so on.
func (p *tape) tell(s Step) {
	p.t.Helper()
	told := p.a.Do(s)
	if told.Err != api.OK {
		p.t.Fatalf("P23.1: side 0: step %d tells %v", s.Kind, told)
	}
	p.over(told.Out)
}

// over has side 1 take these, and side 0 what is said to them.
func (p *tape) over(out []string) {
	p.t.Helper()
	for _, x := range out {
		for _, y := range p.say(taking(x)) {
			p.tell(taking(y))
		}
	}
}

// both is a step of side 1 whose messages go over.
func (p *tape) both(s Step) {
	p.t.Helper()
	for _, x := range p.say(s) {
		p.tell(taking(x))
	}
}

// greet connects the two; both sides' answers go over.
func (p *tape) greet() {
	p.t.Helper()
	hello := p.say(step(Connect))[0]
	mine := only(p.t, p.a, step(Connect))
	back := p.say(taking(mine))
	p.tell(taking(hello))
	for _, x := range back {
		p.tell(taking(x))
	}
}

// recorded is a tape with every kind of step, which ends with these.
func recorded(t *testing.T, end ...Step) []moment {
	t.Helper()
	p := &tape{t: t, a: begun(t, 0), b: begun(t, 1)}
	p.say(offer(5, none))
	p.greet()
	p.tell(offer(50, sum(preimage(0, 0))))
	p.tell(offer(60, sum(preimage(0, 1))))
	p.both(offer(10, sum(preimage(1, 1))))
	p.tell(step(Sign))
	p.both(step(Sign))
	p.say(step(Checkpoint))
	p.both(Step{Kind: Settle, ID: 0, Hash: preimage(0, 0)})
	p.both(Step{Kind: Refuse, ID: 1, Note: "no"})
	p.both(step(Sign))
	p.tell(step(Sign))
	p.tell(offer(5, none))
	p.a.Do(step(Disconnect))
	p.say(step(Disconnect))
	p.say(offer(6, none))
	p.greet()
	p.say(step(Checkpoint))
	p.tell(offer(7, none))
	p.tell(step(Sign))
	p.both(step(Sign))
	p.tell(offer(8, none))
	for _, s := range end {
		p.say(s)
	}
	return p.moments
}

// tapes: one ends with a closing, the other with a failure, which closes too.
func tapes(t *testing.T) [][]moment {
	t.Helper()
	return [][]moment{
		recorded(t, step(Close), step(Checkpoint), step(Close)),
		recorded(t, taking("garbage"), step(Checkpoint), step(Close)),
	}
}

// fallen plays a tape on a node till the power goes: in which step; the length of the tape, if it doesn't go.
func fallen(t *testing.T, n *Node, l []moment) int {
	t.Helper()
	for i, x := range l {
		told := n.Do(x.Step)
		if n.Disk().Off() {
			if !sameTold(told, Told{Err: api.ErrOff}) {
				t.Fatalf("P23.1: step %d tells %v, and the power is gone", x.Kind, told)
			}
			isDown(t, "P23.1: the power is gone", n)
			return i
		}
		if !sameTold(told, x.want) {
			t.Fatalf("P23.1: step %d tells %v, want %+v", x.Kind, told, x.want)
		}
		tells(t, "P23.1", n, x.after)
	}
	return len(l)
}

// sector is one of a file's.
type sector struct {
	file   string
	number int
}

// underWay is the sectors that a fate may do something to, be the disk off or on.
func underWay(d *disk.Disk) []sector {
	still := d.Copy()
	still.On()
	var found []sector
	for _, file := range append(still.List(), "check.tmp", "mark.tmp") {
		var probes []api.Fate
		for n := range 64 {
			probes = append(probes, api.Fate{File: file, Sector: n, Kind: api.FateReplace, Bytes: "?"})
		}
		c := d.Copy()
		c.Crash(probes)
		c.On()
		text, _ := c.Read(file, 0, api.MaxFile)
		safe, _ := still.Read(file, 0, api.MaxFile)
		for n := range 64 {
			at := api.Sector * n
			if at < len(text) && text[at] == '?' && !(at < len(safe) && safe[at] == '?') && !slices.Contains(found, sector{file, n}) {
				found = append(found, sector{file, n})
			}
		}
	}
	return found
}

// ways is all ways in which these sectors are lost or kept; of many, some of them.
func ways(r *rand.Rand, l []sector) [][]api.Fate {
	var all [][]api.Fate
	way := func(kept func(i int) bool) {
		var fates []api.Fate
		for i, s := range l {
			kind := api.FateLost
			if kept(i) {
				kind = api.FateKept
			}
			fates = append(fates, api.Fate{File: s.file, Sector: s.number, Kind: kind})
		}
		all = append(all, fates)
	}
	if len(l) <= 3 {
		for bits := range 1 << len(l) {
			way(func(i int) bool { return bits>>i&1 == 1 })
		}
		return all
	}
	way(func(i int) bool { return false })
	one := r.Intn(len(l))
	way(func(i int) bool { return i == one })
	way(func(i int) bool { return i != one })
	way(func(i int) bool { return r.Intn(2) == 0 })
	way(func(i int) bool { return true })
	return all
}

// copied is a node that is down, on a copy of another's disk.
func copied(n *Node) *Node {
	return &Node{config: n.config, disk: n.disk.Copy()}
}

// reopened: a Crash of a copy, or what follows on it, tells one of these states, and the mark that goes with it.
func reopened(t *testing.T, what string, n *Node, fates []api.Fate, may ...api.State) *Node {
	t.Helper()
	c := copied(n)
	is(t, what, c, Step{Kind: Crash, Fates: fates}, Told{})
	linked(t, what, c, true, false, false)
	got := c.State()
	if !slices.ContainsFunc(may, func(s api.State) bool { return sameState(got, dance.Cut(s)) }) {
		t.Fatalf("%s: of %d states none is told: %s", what, len(may), shown(got))
	}
	if c.Mark() != got.Local-1 {
		t.Fatalf("%s: the mark is %d of %s", what, c.Mark(), shown(got))
	}
	return c
}

// again: the power goes at each Write and Sync of the opening too; the last opening tells the same.
func again(t *testing.T, what string, r *rand.Rand, n *Node, fates []api.Fate, want api.State) {
	t.Helper()
	for at := int64(1); ; at++ {
		c := copied(n)
		told := c.Do(Step{Kind: Crash, Fates: fates, N: at})
		if told.Err == api.OK {
			tells(t, "P23.4: "+what, c, want)
			return
		}
		if !sameTold(told, Told{Err: api.ErrOff}) {
			t.Fatalf("P23.4: %s: Crash at %d tells %v", what, at, told)
		}
		isDown(t, "P23.4: "+what, c)
		for _, fates := range ways(r, underWay(c.Disk())) {
			reopened(t, fmt.Sprintf("P23.4: %s, in the opening at %d", what, at), c, fates, want)
		}
		c.Disk().On()
		is(t, "P23.4: "+what, c, step(Open), Told{})
		tells(t, "P23.4: "+what, c, want)
	}
}

// broadcasts: Close tells the commitment that counts, above all that was revealed up to a step.
func broadcasts(t *testing.T, what string, n *Node, l []moment) {
	t.Helper()
	revealed := int64(-1)
	for _, x := range l {
		for _, m := range messagesOf(t, x.want.Out) {
			if m.Kind == api.MsgRevoke {
				revealed = max(revealed, m.Index)
			}
		}
	}
	if told := n.Do(step(Close)); told.Err != api.OK || told.Index <= revealed || told.Index != n.State().Local || told.Text == "" {
		t.Fatalf("P23.2: %s: Close tells %v, and %d was revealed", what, told, revealed)
	}
}

// P23.2 to P23.4: the power goes at every Write and Sync of a tape, and again in the opening behind it, with the ways that the sectors under way may go.
func TestPowerAtEach(t *testing.T) {
	t.Parallel()
	r := rand.New(rand.NewSource(231))
	both := 0
	for k, l := range tapes(t) {
		for at := int64(1); ; at++ {
			n := begun(t, 1)
			is(t, "P23.1", n, Step{Kind: Fall, N: at}, Told{})
			i := fallen(t, n, l)
			if i == len(l) {
				if at < 30 {
					t.Errorf("tape %d has %d Writes and Syncs", k, at)
				}
				break
			}
			told := map[int]int{}
			for _, fates := range ways(r, underWay(n.Disk())) {
				what := fmt.Sprintf("tape %d, the power gone at %d, in step %d", k, at, l[i].Kind)
				c := reopened(t, "P23.3: "+what, n, fates, l[i].before, l[i].after)
				told[len(c.State().Ours)+len(c.State().Peers)]++
				again(t, what, r, n, fates, c.State())
				sends(t, "P23.4: "+what, c, step(Crash))
				broadcasts(t, what, c, l[:i])
			}
			if len(told) > 1 {
				both++
			}
		}
	}
	if both < 5 {
		t.Errorf("P23.3: the batch under way was there or not %d times", both)
	}
}

// P23.3: a crash between any two steps: all is there that was told, whatever the fates.
func TestCrashBetweenSteps(t *testing.T) {
	t.Parallel()
	r := rand.New(rand.NewSource(232))
	for _, l := range tapes(t) {
		n := begun(t, 1)
		for i, x := range l {
			is(t, "P23.1", n, x.Step, x.want)
			for _, fates := range ways(r, underWay(n.Disk())) {
				what := fmt.Sprintf("P23.3: a crash behind step number %d, %d", i, x.Kind)
				c := reopened(t, what, n, fates, x.after)
				broadcasts(t, what, c, l[:i+1])
			}
		}
	}
}
