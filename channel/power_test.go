package channel

import (
	"fmt"
	"math/rand"
	"slices"
	"testing"

	"escrow/api"
	"escrow/dance"
	"escrow/disk"
)

// moment is one call of side 1, and what it answered and left on a disk that refuses nothing.
type moment struct {
	call
	want   answer
	before api.State
	after  api.State
}

// heard: it is an update of the peer's, which is in memory alone.
func (x moment) heard() bool {
	return x.kind == "Take" && x.m.Kind <= api.MsgFail && x.want.e == api.OK
}

// forgets: behind it nothing is uncovered.
func (x moment) forgets() bool {
	return x.kind == "Cut" || x.kind == "Take" && x.m.Kind == api.MsgCommit
}

// tape is the calls of side 1 of two that talk, in their order.
type tape struct {
	*duo
	moments []moment
}

// b makes a call of side 1, and has side 0 take what it sends, and so on.
func (p *tape) b(x call) {
	p.t.Helper()
	before := p.c[1].State()
	a := x.of(p.c[1])
	p.moments = append(p.moments, moment{x, a, before, p.c[1].State()})
	if x.kind == "Hello" {
		return
	}
	for _, m := range a.out {
		p.a(p.c[0].Take(m))
	}
}

// a has side 1 take what side 0 sends.
func (p *tape) a(l []api.Message, e api.Errno) {
	p.t.Helper()
	is(p.t, "P22.1: side 0", e, api.OK)
	for _, m := range l {
		p.b(call{kind: "Take", m: m})
	}
}

// recorded is a tape with every kind of call, which ends with these.
func recorded(t *testing.T, end ...call) []moment {
	t.Helper()
	p := &tape{duo: two(t)}
	a := p.c[0]
	p.a(a.Offer(50, sum(preimage(0, 0))))
	p.a(a.Offer(60, sum(preimage(0, 1))))
	p.b(call{kind: "Offer", n: 10, h: sum(preimage(1, 0))})
	p.a(a.Sign())
	p.b(call{kind: "Sign"})
	p.b(call{kind: "Checkpoint"})
	p.b(call{kind: "Settle", n: 0, h: preimage(0, 0)})
	p.b(call{kind: "Refuse", n: 1, m: api.Message{Note: "no"}})
	p.b(call{kind: "Sign"})
	p.a(a.Sign())
	p.a(a.Offer(5, none))
	p.b(call{kind: "Hello"})
	a.Cut()
	p.b(call{kind: "Cut"})
	hello := p.c[1].Hello()
	p.b(call{kind: "Answer", m: a.Hello()})
	p.a(a.Answer(hello))
	p.b(call{kind: "Checkpoint"})
	p.a(a.Offer(7, none))
	p.a(a.Sign())
	p.a(a.Offer(8, none))
	for _, x := range end {
		p.b(x)
	}
	return p.moments
}

// tapes: one ends with a closing, the other with a failure, which closes too.
func tapes(t *testing.T) [][]moment {
	t.Helper()
	broken := call{kind: "Take", m: api.Message{Kind: api.MsgCommit, Index: 4}}
	return [][]moment{
		recorded(t, call{kind: "Close"}, call{kind: "Close"}, call{kind: "Checkpoint"}),
		recorded(t, broken, call{kind: "Sign"}, call{kind: "Checkpoint"}, call{kind: "Close"}),
	}
}

// does: the call answers as it did, and leaves the same state.
func (x moment) does(t *testing.T, what string, c *Channel) {
	t.Helper()
	if got := x.of(c); !got.same(x.want) {
		t.Fatalf("%s: %v tells %+v, want %+v", what, x.call, got, x.want)
	}
	tells(t, what, c, x.after)
}

// sector is one of a file's.
type sector struct {
	file   string
	number int
}

// underWay is the sectors that a fate may do something to, be the disk off or on.
func underWay(d *disk.Disk) []sector {
	on := d.Copy()
	on.On()
	var found []sector
	for _, file := range append(on.List(), "check.tmp", "mark.tmp") {
		var probes []api.Fate
		for n := range 64 {
			probes = append(probes, api.Fate{File: file, Sector: n, Kind: api.FateReplace, Bytes: "?"})
		}
		c := d.Copy()
		crash(c, probes...)
		text, _ := c.Read(file, 0, api.MaxFile)
		safe, _ := on.Read(file, 0, api.MaxFile)
		for n := range 64 {
			if at := 64 * n; at < len(text) && text[at] == '?' && !(at < len(safe) && safe[at] == '?') {
				if s := (sector{file, n}); !slices.Contains(found, s) {
					found = append(found, s)
				}
			}
		}
	}
	return found
}

// ways is all ways in which so many sectors are lost or kept; of many, some of them: all lost and all kept at the ends.
func ways(r *rand.Rand, l []sector) [][]api.Fate {
	var all [][]api.Fate
	way := func(kept func(i int) bool) {
		var fates []api.Fate
		for i, s := range l {
			kind := api.FateLost
			if kept(i) {
				kind = api.FateKept
			}
			fates = append(fates, api.Fate{File: s.file, Sector: s.number, Kind: kind})
		}
		all = append(all, fates)
	}
	if len(l) <= 4 {
		for bits := range 1 << len(l) {
			way(func(i int) bool { return bits>>i&1 == 1 })
		}
		return all
	}
	way(func(i int) bool { return false })
	for range 3 {
		one := r.Intn(len(l))
		way(func(i int) bool { return i == one })
		way(func(i int) bool { return i != one })
		way(func(i int) bool { return r.Intn(2) == 0 })
	}
	way(func(i int) bool { return true })
	return all
}

// anew: Open tells one of these states, and the mark that goes with it; which.
func anew(t *testing.T, what string, d *disk.Disk, may []api.State) (*Channel, int) {
	t.Helper()
	c := opens(t, what, d, 1)
	got := c.State()
	i := slices.IndexFunc(may, func(want api.State) bool { return sameState(got, want) })
	if i < 0 {
		t.Fatalf("%s: of %d states Open tells none: %s", what, len(may), shown(got))
	}
	marks(t, what, c, got.Local-1)
	if _, n := durable(t, what, d, 1); n != got.Local-1 {
		t.Fatalf("%s: the durable mark is %d of %s", what, n, shown(got))
	}
	return c, i
}

// again: Open tells the same again, wherever the power goes in it, and whatever the disk refuses.
func again(t *testing.T, what string, r *rand.Rand, d *disk.Disk, may []api.State) {
	t.Helper()
	once := d.Copy()
	c, _ := anew(t, "P22.2: "+what, once, may)
	same := []api.State{c.State()}
	crash(once)
	anew(t, "P22.2: again: "+what, once, same)
	for n := 1; ; n++ {
		off := d.Copy()
		off.Fall(n)
		if c, e := Open(off, config(1)); e == api.OK {
			return
		} else if c != nil || e != api.ErrOff {
			t.Fatalf("P22.1: %s: Open, with the power gone at %d: %v, %d", what, n, c, e)
		}
		for _, fates := range ways(r, underWay(off)) {
			back := off.Copy()
			crash(back, fates...)
			anew(t, fmt.Sprintf("P22.2: %s, and in Open at %d", what, n), back, same)
		}
		refused := d.Copy()
		refused.Arm(n, disk.Any)
		fails(t, "P22.1: "+what, refused, config(1), api.ErrDisk)
		anew(t, "P22.3: "+what, refused, same)
	}
}

// fallen plays a tape till the power goes at the n-th Write or Sync: at which call, and what may be told then; the length of the tape, if it doesn't go.
func fallen(t *testing.T, d *disk.Disk, l []moment, n int) (int, []api.State) {
	t.Helper()
	d.Fall(n)
	c, e := Open(d, config(1))
	if e == api.ErrOff {
		return 0, []api.State{start(t, 1)}
	}
	is(t, "P22.1: Open", e, api.OK)
	for i, x := range l {
		got := x.of(c)
		if !d.Off() {
			if !got.same(x.want) {
				t.Fatalf("P22.1: %v tells %+v, want %+v", x.call, got, x.want)
			}
			tells(t, "P22.1", c, x.after)
			continue
		}
		// A failure is answered whether it is durable or not.
		want := answer{e: x.want.e}
		if want.e == api.OK {
			want.e = api.ErrOff
		}
		if !got.same(want) {
			t.Fatalf("P22.3: %v tells %+v, with the power gone", x.call, got)
		}
		before, after := dance.Cut(x.before), dance.Cut(x.after)
		if c.State().Local > x.before.Local {
			return i, []api.State{after}
		}
		return i, []api.State{before, after}
	}
	return len(l), nil
}

// goOn plays the rest of a tape, when the peer has said again what wasn't covered; a dead channel isn't told that any more.
func goOn(t *testing.T, what string, c *Channel, l []moment, from int) {
	t.Helper()
	if _, dead := c.Dead(); dead {
		for _, x := range l[from:] {
			x.after = dance.Cut(x.after)
			x.does(t, what, c)
		}
		return
	}
	for i, x := range l[:from] {
		lost := !slices.ContainsFunc(l[i:from], moment.forgets)
		if x.heard() && lost {
			sends(t, what)(c.Take(x.m))
		}
	}
	for _, x := range l[from:] {
		x.does(t, what, c)
	}
}

// lacking is the hello of a peer that hasn't got the last revocation of side 1, and all else.
func lacking(s api.State) api.Message {
	hello := api.Message{Kind: api.MsgHello, Index: s.Remote + 1, Next: s.Local - 1}
	if hello.Next > 0 {
		hello.Secret = secretOf(1, hello.Next-1)
	}
	return hello
}

// saysAgain: whatever was revealed or not, a hello of a peer that lacks the revocation is answered with it.
func saysAgain(t *testing.T, what string, d *disk.Disk) {
	t.Helper()
	copied := d.Copy()
	c := opens(t, what, copied, 1)
	s := c.State()
	if _, dead := c.Dead(); dead || s.Local == 0 {
		return
	}
	l, e := c.Answer(lacking(s))
	if e != api.OK || !slices.Contains(l, dance.Reveal(config(1), s.Local-1)) {
		t.Fatalf("%s: Answer tells %+v, %d", what, l, e)
	}
	if index, _, _, e := c.Close(); index != s.Local || e != api.OK {
		t.Fatalf("P22.4: %s: Close tells %d, %d", what, index, e)
	}
}

// P22.2, P22.4: the power goes at every Write and Sync of a tape, and again in the Open behind it, with the ways that the sectors under way may go; then the tape goes on, to the same end.
func TestPowerAtEach(t *testing.T) {
	t.Parallel()
	r := rand.New(rand.NewSource(222))
	for k, l := range tapes(t) {
		for n := 1; ; n++ {
			d := made(t, 1<<20)
			at, may := fallen(t, d, l, n)
			if at == len(l) {
				break
			}
			for _, fates := range ways(r, underWay(d)) {
				what := fmt.Sprintf("tape %d, the power gone at %d, in call %d, %v", k, n, at, l[at].call)
				back := d.Copy()
				crash(back, fates...)
				again(t, what, r, back, may)
				saysAgain(t, "P22.4: "+what, back)
				c, i := anew(t, "P22.2: "+what, back, may)
				done := sameState(may[i], dance.Cut(l[at].after)) && !sameState(dance.Cut(l[at].before), dance.Cut(l[at].after))
				from := at
				if done {
					from++
				}
				goOn(t, "P22.2: then: "+what, c, l, from)
				crash(back)
				anew(t, "P22.2: in the end: "+what, back, []api.State{dance.Cut(l[len(l)-1].after)})
			}
		}
	}
}

// P22.3: the disk refuses each Write and Sync of a tape in turn; nothing is changed by it but as said, and the same call is OK then.
func TestRefusedAtEach(t *testing.T) {
	t.Parallel()
	for k, l := range tapes(t) {
		for _, what := range []int{disk.Any, disk.Writes, disk.Syncs} {
			for n := 1; refusedAt(t, fmt.Sprintf("tape %d, refused at %d of %d", k, n, what), l, n, what); n++ {
			}
		}
	}
}

// refusedAt plays a tape of which one Write or Sync is refused; false: there are fewer.
func refusedAt(t *testing.T, said string, l []moment, n, what int) bool {
	t.Helper()
	d := made(t, 1<<20)
	c := opens(t, said, d, 1)
	d.Arm(n, what)
	refused := false
	for i, x := range l {
		got := x.of(c)
		switch {
		case got.same(x.want):
			tells(t, said, c, x.after)
		case got.same(answer{e: api.ErrDisk}):
			refused = true
			behindRefusal(t, said, d, c, x)
		default:
			t.Fatalf("P22.3: %s: %v tells %+v, want %+v", said, x.call, got, x.want)
		}
		// A failure that is refused is answered and told as another, till the channel is opened anew.
		if s, _ := durable(t, said, d, 1); s.Failed != x.after.Failed {
			c = opens(t, said, d, 1)
			tells(t, said, c, dance.Cut(x.before))
			goOn(t, said, c, l, i)
			refused = true
			break
		}
	}
	crash(d)
	anew(t, "P22.2: "+said, d, []api.State{dance.Cut(l[len(l)-1].after)})
	return refused
}

// behindRefusal holds what a refused call left, and makes it once more; the revocation of a commitment that is there goes behind the next hello.
func behindRefusal(t *testing.T, said string, d *disk.Disk, c *Channel, x moment) {
	t.Helper()
	if c.State().Local > x.before.Local {
		tells(t, said, c, x.after)
		marks(t, said, c, x.before.Local-1)
		c.Cut()
		l, e := c.Answer(lacking(c.State()))
		if e != api.OK || !slices.Contains(l, x.want.out[0]) {
			t.Fatalf("P22.4: %s: Answer tells %+v, %d", said, l, e)
		}
		marks(t, said, c, x.before.Local)
		tells(t, said, c, x.after)
		return
	}
	tells(t, "P22.3: "+said, c, x.before)
	marks(t, "P22.3: "+said, c, x.before.Local-1)
	for _, lost := range []bool{false, true} {
		back := d.Copy()
		if lost {
			crash(back)
		}
		anew(t, "P22.3: "+said, back, []api.State{dance.Cut(x.before)})
	}
	x.does(t, "P22.3: "+said+": once more", c)
}
