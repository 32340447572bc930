package channel

import (
	"encoding/binary"
	"fmt"
	"testing"

	"escrow/api"
	"escrow/dance"
	"escrow/disk"
	"escrow/seal"
)

// textOf is the text of a side's commitment in which nothing is open, laid by hand.
func textOf(side int, index, ours, peers int64) string {
	b := binary.BigEndian.AppendUint64([]byte{byte(side)}, uint64(index))
	point := sum(secretOf(side, index))
	b = append(b, point[:]...)
	b = binary.BigEndian.AppendUint64(b, uint64(ours))
	b = binary.BigEndian.AppendUint64(b, uint64(peers))
	return string(append(b, 0, 0))
}

// closes: Close is OK, and tells these.
func closes(t *testing.T, what string, c *Channel, index int64, text string, sig api.Hash) {
	t.Helper()
	if i, s, h, e := c.Close(); i != index || s != text || h != sig || e != api.OK {
		t.Fatalf("%s: Close tells %d, %x, %x, %d, want %d, %x, %x", what, i, s, h, e, index, text, sig)
	}
}

func TestClose(t *testing.T) {
	const what = "P22.1: Close"
	p := two(t)
	p.offer(0, 600)
	for side := range 2 {
		d := p.d[side].Copy()
		c := opens(t, what, d, side)
		want := c.State()
		want.Closed = 0
		text := textOf(side, 0, want.BaseOurs, want.BasePeers)
		closes(t, what, c, 0, text, none)
		tells(t, what, c, want)
		hasFailed(t, what, c, 0)
		unasked(t, what, d, func() {
			d.Arm(1, disk.Any)
			closes(t, what+": again", c, 0, text, none)
		})
		d.Arm(0, disk.Any)
		crash(d)
		c = opens(t, what, d, side)
		tells(t, "P22.2: "+what, c, want)
		closes(t, "P22.2: "+what, c, 0, text, none)
	}
	p.fix(0)
	l, e := p.c[1].Settle(0, preimage(0, 0))
	p.pass(1, l, e)
	p.fix(1)
	for side := range 2 {
		c, s := p.c[side], p.c[side].State()
		text := textOf(side, 2, []int64{100, 900}[side], []int64{900, 100}[side])
		if s.Local != 2 || !seal.Right(config(1-side).Key, text, s.Sig) {
			t.Fatalf("%s: what the peer signed isn't the text of %s", what, shown(s))
		}
		closes(t, what, c, 2, text, s.Sig)
		closes(t, what, c, 2, text, s.Sig)
		s.Closed = 2
		tells(t, what, c, s)
		marks(t, what, c, 1)
		crash(p.d[side])
		c = opens(t, what, p.d[side], side)
		tells(t, "P22.2: "+what, c, s)
		closes(t, "P22.2: "+what, c, 2, text, s.Sig)
	}
}

// What was heard and isn't covered is in no text.
func TestCloseWithUncovered(t *testing.T) {
	p := two(t)
	p.offer(0, 600)
	p.one(p.c[0].Sign())
	closes(t, "P22.1: Close", p.c[1], 0, textOf(1, 0, 300, 700), none)
	closes(t, "P22.1: Close", p.c[0], 0, textOf(0, 0, 700, 300), none)
}

// A closed channel is dead to all but looks, Cut, Checkpoint and Close.
func TestClosedIsDead(t *testing.T) {
	const what = "P22.1: closed"
	p := two(t)
	p.offer(0, 10)
	p.offer(0, 10)
	p.fix(0)
	p.offer(0, 10)
	hello := p.c[0].Hello()
	m := p.one(p.c[0].Sign())
	b := p.c[1]
	own := b.Hello()
	if _, _, _, e := b.Close(); e != api.OK {
		t.Fatalf("%s: Close tells %d", what, e)
	}
	want := b.State()
	unasked(t, what, p.d[1], func() {
		refuses(t, what, api.ErrDead)(b.Offer(1, none))
		refuses(t, what, api.ErrDead)(b.Offer(-1, none))
		refuses(t, what, api.ErrDead)(b.Settle(0, preimage(0, 0)))
		refuses(t, what, api.ErrDead)(b.Settle(9, none))
		refuses(t, what, api.ErrDead)(b.Refuse(1, ""))
		refuses(t, what, api.ErrDead)(b.Sign())
		refuses(t, what, api.ErrDead)(b.Take(m))
		for kind := range 9 {
			refuses(t, what, api.ErrDead)(b.Take(api.Message{Kind: kind, Index: 5}))
			refuses(t, what, api.ErrDead)(b.Answer(api.Message{Kind: kind, Index: 5}))
		}
		refuses(t, what, api.ErrDead)(b.Answer(hello))
	})
	tells(t, what, b, want)
	hasFailed(t, what, b, 0)
	if b.Hello() != own {
		t.Errorf("%s: Hello tells %+v", what, b.Hello())
	}
	is(t, what+": Checkpoint", b.Checkpoint(), api.OK)
	tells(t, what, b, want)
	b.Cut()
	tells(t, what, b, dance.Cut(want))
	tells(t, what, opens(t, what, p.d[1], 1), dance.Cut(want))
}

// The disk refuses the record: nothing is told, and nothing is closed.
func TestCloseRefused(t *testing.T) {
	const what = "P22.3: Close, refused"
	p := two(t)
	p.offer(0, 10)
	p.fix(0)
	for n := 1; n <= 2; n++ {
		before := p.c[0].State()
		p.d[0].Arm(n, disk.Any)
		untold(t, what, p.c[0], api.ErrDisk)
		tells(t, what, p.c[0], before)
		lives(t, what, p.c[0])
	}
	sends(t, what, api.Message{Kind: api.MsgAdd, ID: 1, Amount: 5})(p.c[0].Offer(5, none))
	if index, _, _, e := p.c[0].Close(); index != 1 || e != api.OK {
		t.Errorf("%s: then it tells %d, %d", what, index, e)
	}
	for _, kind := range []int{api.FateLost, api.FateKept} {
		d := p.d[1].Copy()
		b := opens(t, what, d, 1)
		last, _ := d.Size("log.0")
		d.Fall(2)
		untold(t, what, b, api.ErrOff)
		lives(t, what, b)
		crash(d, api.Fate{File: "log.0", Sector: last / api.Sector, Kind: kind})
		b = opens(t, what, d, 1)
		if _, dead := b.Dead(); dead != (kind == api.FateKept) {
			t.Errorf("%s: the power is gone: behind it the state is %s", what, shown(b.State()))
		}
	}
}

// By the mark and what the state says: lost ahead of all else, then closed already, then the gate.
func TestCloseByTheGate(t *testing.T) {
	for value := int64(-1); value <= 5; value++ {
		for _, failed := range []int{0, 5, 110, 180} {
			for _, closed := range []int64{-1, 2, 3} {
				what := fmt.Sprintf("P22.4: Close at 3, failed with %d, closed at %d, with the mark %d", failed, closed, value)
				s := at(t, 3)
				s.Failed, s.Closed = failed, closed
				c := opens(t, what, laid(t, s, value), 1)
				text := textOf(1, 3, 300, 700)
				switch {
				case failed == 180 || failed == 0 && value != 1 && value != 2:
					untold(t, what, c, api.ErrLost)
				case closed == 3:
					closes(t, what, c, 3, text, s.Sig)
				case closed == 2 || value >= 3:
					untold(t, what, c, api.ErrGate)
					tells(t, what, c, s)
				default:
					closes(t, what, c, 3, text, s.Sig)
					s.Closed = 3
					tells(t, what, c, s)
				}
			}
		}
	}
}
