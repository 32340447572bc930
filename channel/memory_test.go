package channel

import (
	"slices"
	"sync"
	"testing"
	"unsafe"

	"escrow/api"
)

// loose is a text whose bytes can be written over.
func loose(text string) (string, []byte) {
	b := []byte(text)
	return unsafe.String(unsafe.SliceData(b), len(b)), b
}

// shares tells whether two lists have memory in common, their spare room with them.
func shares[E any](a, b []E) bool {
	for i := range a[:cap(a)] {
		for j := range b[:cap(b)] {
			if &a[:cap(a)][i] == &b[:cap(b)][j] {
				return true
			}
		}
	}
	return false
}

func sharesAny(a, b api.State) bool {
	return shares(a.Ours, b.Ours) || shares(a.Ours, b.Peers) || shares(a.Peers, b.Ours) || shares(a.Peers, b.Peers) || shares(a.Shelf, b.Shelf)
}

// spoil writes over the lists of a state, and over the room behind them.
func spoil(s api.State) {
	for _, l := range [][]api.Update{s.Ours, s.Peers} {
		for i := range l[:cap(l)] {
			l[:cap(l)][i] = api.Update{Kind: 9, Note: "spoilt"}
		}
	}
	for i := range s.Shelf[:cap(s.Shelf)] {
		s.Shelf[:cap(s.Shelf)][i] = api.Slot{Index: -9}
	}
}

// grown is two sides whose states have all lists, with updates that are heard and not covered.
func grown(t *testing.T) *duo {
	t.Helper()
	p := two(t)
	for range 3 {
		p.offer(0, 10)
	}
	p.fix(0)
	p.offer(1, 20)
	p.fix(1)
	p.offer(0, 30)
	p.offer(1, 40)
	return p
}

// What State answers is new memory each time, and the channel goes on without it.
func TestStateIsNewMemory(t *testing.T) {
	p := grown(t)
	for side, c := range p.c {
		want := grown(t).c[side].State()
		one, other := c.State(), c.State()
		if sharesAny(one, other) || shares(one.Ours, one.Peers) || shares(one.Peers, c.heard) || sharesAny(one, c.Store.State()) {
			t.Errorf("P22.6: what State answers shares memory")
		}
		spoil(one)
		tells(t, "P22.6: an answer is written over", c, want)
		_ = append(other.Peers, api.Update{Kind: 9})
		_ = append(other.Ours, api.Update{Kind: 9})
		tells(t, "P22.6: an answer grows", c, want)
		if !sameState(other, want) {
			t.Errorf("P22.6: another answer changed: %s", shown(other))
		}
	}
	before := p.c[1].State()
	want := grown(t).c[1].State()
	p.offer(0, 50)
	p.fix(0)
	if !sameState(before, want) {
		t.Errorf("P22.6: an answer changed when the channel went on: %s", shown(before))
	}
	spoil(before)
	q := grown(t)
	q.offer(0, 50)
	q.fix(0)
	tells(t, "P22.6", p.c[1], q.c[1].State())
	tells(t, "P22.6: opened anew", opens(t, "P22.6", p.d[1], 1), q.c[1].State())
}

// What is heard grows behind one state without changing another that was told.
func TestHeardIsNewMemory(t *testing.T) {
	p := two(t)
	var told []api.State
	for i := range 20 {
		p.offer(0, 1)
		told = append(told, p.c[1].State())
		if i%2 == 0 {
			spoil(p.c[1].State())
		}
	}
	for i, s := range told {
		if len(s.Peers) != i+1 {
			t.Fatalf("P22.6: the state behind %d updates has %d", i+1, len(s.Peers))
		}
		for id, u := range s.Peers {
			if u.Kind != api.Add || u.ID != int64(id) {
				t.Fatalf("P22.6: the state behind %d updates has %+v", i+1, u)
			}
		}
	}
	p.c[1].Cut()
	if len(told[19].Peers) != 20 || told[19].Peers[19].ID != 19 {
		t.Errorf("P22.6: Cut changed a state that was told")
	}
}

// What is handed in isn't kept, and isn't in what is answered.
func TestNotesAreNotKept(t *testing.T) {
	p := grown(t)
	a, b := p.c[0], p.c[1]
	mine, mineBytes := loose("a note of side 1")
	l, e := b.Refuse(1, mine)
	is(t, "P22.6: Refuse", e, api.OK)
	theirs, theirsBytes := loose("a note of side 1")
	m := l[0]
	m.Note = theirs
	sends(t, "P22.6")(a.Take(m))
	clear(mineBytes)
	clear(theirsBytes)
	want := api.Update{Kind: api.Fail, ID: 1, Note: "a note of side 1"}
	if l[0].Note != want.Note {
		t.Errorf("P22.6: what Refuse answers has the note %q", l[0].Note)
	}
	if s := b.State(); s.Ours[len(s.Ours)-1] != want {
		t.Errorf("P22.6: what was refused is %+v", s.Ours[len(s.Ours)-1])
	}
	if s := a.State(); s.Peers[len(s.Peers)-1] != want {
		t.Errorf("P22.6: what was heard is %+v", s.Peers[len(s.Peers)-1])
	}
	p.sign(1)
	if s := opens(t, "P22.6", p.d[0], 0).State(); s.Peers[len(s.Peers)-1] != want {
		t.Errorf("P22.6: what is durable is %+v", s.Peers[len(s.Peers)-1])
	}
}

// What is to be sent is new memory each time.
func TestMessagesAreNewMemory(t *testing.T) {
	p := grown(t)
	hello := p.c[1].Hello()
	one, e := p.c[0].Answer(hello)
	is(t, "P22.6: Answer", e, api.OK)
	want := slices.Clone(one)
	other, _ := p.c[0].Answer(hello)
	if len(want) == 0 || shares(one, other) {
		t.Errorf("P22.6: two answers share memory: %+v", one)
	}
	clear(one[:cap(one)])
	sends(t, "P22.6: an answer is written over", want...)(p.c[0].Answer(hello))
	l, _ := p.c[0].Offer(1, none)
	clear(l[:cap(l)])
	l, _ = p.c[0].Sign()
	m := l[0]
	clear(l[:cap(l)])
	p.c[1].Cut()
	l, e = p.c[0].Answer(hello)
	if e != api.OK || l[len(l)-1] != m {
		t.Errorf("P22.6: what was sent is written over, and then it is %+v", l[len(l)-1])
	}
}

// Two channels have nothing to do with one another; the same calls give the same answers, beside one another too (R4).
func TestTheSameAgain(t *testing.T) {
	want := grown(t)
	disks := [2]string{whole(want.d[0]), whole(want.d[1])}
	var w sync.WaitGroup
	for range 8 {
		w.Go(func() {
			for range 10 {
				p := grown(t)
				for side, c := range p.c {
					if !sameState(c.State(), want.c[side].State()) || whole(p.d[side]) != disks[side] || c.Hello() != want.c[side].Hello() {
						t.Errorf("R4: side %d tells otherwise", side)
					}
				}
			}
		})
	}
	w.Wait()
}
