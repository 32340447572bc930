package store

import (
	"slices"
	"strings"
	"sync"
	"testing"
	"unsafe"

	"escrow/api"
)

// loose is a text whose bytes can be written over.
func loose(text string) (string, []byte) {
	b := []byte(text)
	return unsafe.String(unsafe.SliceData(b), len(b)), b
}

// shares tells whether two lists have memory in common, their spare room with them.
func shares[E any](a, b []E) bool {
	for i := range a[:cap(a)] {
		for j := range b[:cap(b)] {
			if &a[:cap(a)][i] == &b[:cap(b)][j] {
				return true
			}
		}
	}
	return false
}

func sharesAny(a, b api.State) bool {
	return shares(a.Ours, b.Ours) || shares(a.Ours, b.Peers) || shares(a.Peers, b.Ours) || shares(a.Peers, b.Peers) || shares(a.Shelf, b.Shelf)
}

// spoil writes over the lists of a state, and over the room behind them.
func spoil(s api.State) {
	for _, l := range [][]api.Update{s.Ours, s.Peers} {
		for i := range l[:cap(l)] {
			l[:cap(l)][i] = api.Update{Kind: 9, Note: "spoilt"}
		}
	}
	for i := range s.Shelf[:cap(s.Shelf)] {
		s.Shelf[:cap(s.Shelf)][i] = api.Slot{Index: -9}
	}
}

// roomy is a list with room behind it, in which something stands.
func roomy[E any](l []E, behind ...E) []E { return slices.Concat(l, behind)[:len(l)] }

// grown is a store whose state has all lists.
func grown(t *testing.T) *Store {
	t.Helper()
	s := opens(t, "P21.6", made(t, 100000), start(t))
	does(t, "P21.6", s, add(0), add(1), signed(1, 2, 0), revoked(0), came(1, 0, 3), ours(failOf(2, "note")))
	return s
}

// What is handed to Do is left, the room behind its lists too, and nothing of it is kept.
func TestDoKeepsNothing(t *testing.T) {
	s := grown(t)
	note, noteBytes := loose("a note of mine")
	other, otherBytes := loose("a note of the peer")
	x := came(2, 3, 2)
	x.Updates = roomy(append(x.Updates, failOf(1, other)), api.Update{Kind: 8})
	l := roomy([]api.Record{ours(failOf(1, note)), x, failed(7)}, api.Record{Kind: 8}, failed(1))
	was, wasUpdates := slices.Clone(l[:cap(l)]), slices.Clone(x.Updates[:cap(x.Updates)])
	want := then(t, s.State(), ours(failOf(1, "a note of mine")), api.Record{Kind: api.RecCame, Index: 2, Sig: x.Sig, Updates: append(came(2, 3, 2).Updates, failOf(1, "a note of the peer"))}, failed(7))
	is(t, "P21.6: Do", s.Do(l), api.OK)
	for i, r := range l[:cap(l)] {
		if r.Kind != was[i].Kind || r.Update != was[i].Update || r.Index != was[i].Index || r.Sig != was[i].Sig || r.Code != was[i].Code || unsafe.SliceData(r.Updates) != unsafe.SliceData(was[i].Updates) {
			t.Errorf("P21.6: Do changed record %d", i)
		}
	}
	if !slices.Equal(x.Updates[:cap(x.Updates)], wasUpdates) {
		t.Errorf("P21.6: Do changed a record's updates")
	}
	refuses(t, "P21.6", s, api.ErrRecord, l...)
	clear(noteBytes)
	clear(otherBytes)
	clear(x.Updates[:cap(x.Updates)])
	clear(l[:cap(l)])
	tells(t, "P21.6: what was handed in is written over", s, want)
	does(t, "P21.6", s, failed(8))
	is(t, "P21.6: Checkpoint", s.Checkpoint(), api.OK)
	tells(t, "P21.6", s, want)
	opens(t, "P21.6", s.disk, want)
}

// What State answers is new memory each time.
func TestStateIsNewMemory(t *testing.T) {
	s := grown(t)
	want := grown(t).State()
	one, other := s.State(), s.State()
	if sharesAny(one, other) || shares(one.Ours, one.Peers) || sharesAny(one, s.state) {
		t.Errorf("P21.6: what State answers shares memory")
	}
	spoil(one)
	tells(t, "P21.6: an answer is written over", s, want)
	if !sameState(other, want) {
		t.Errorf("P21.6: another answer changed: %s", shown(other))
	}
	_ = append(other.Ours, addOf(9, 9))
	_ = append(other.Peers, addOf(9, 9))
	does(t, "P21.6", s, add(2))
	does(t, "P21.6", s, came(2, 3, 1))
	if !sameState(other, want) {
		t.Errorf("P21.6: an answer changed when the store went on: %s", shown(other))
	}
	spoil(other)
	want = then(t, want, add(2), came(2, 3, 1))
	tells(t, "P21.6", s, want)
	is(t, "P21.6: Checkpoint", s.Checkpoint(), api.OK)
	opens(t, "P21.6", s.disk, want)
}

// Of an opened store too: with a checkpoint, with batches, and with neither.
func TestOpenedStateIsNewMemory(t *testing.T) {
	s := grown(t)
	want := s.State()
	look := func(what string) {
		t.Helper()
		x := opens(t, what, s.disk, want)
		y := opens(t, what, s.disk, want)
		if sharesAny(x.State(), y.State()) || sharesAny(x.state, y.state) {
			t.Errorf("%s: two stores share memory", what)
		}
		spoil(x.State())
		tells(t, what, x, want)
	}
	look("P21.6: batches")
	is(t, "P21.6: Checkpoint", s.Checkpoint(), api.OK)
	look("P21.6: a checkpoint")
	does(t, "P21.6", s, failed(3))
	want = s.State()
	look("P21.6: both")
	spoil(opens(t, "P21.6: neither", made(t, 1000), start(t)).State())
}

// What Write is handed is left, and nothing of it is kept.
func TestWriteLeavesTheState(t *testing.T) {
	s := full()
	s.Ours, s.Peers = roomy(s.Ours, api.Update{Kind: 9}), roomy(s.Peers, addOf(1, 1))
	s.Shelf = roomy(s.Shelf, api.Slot{Index: -1})
	ours, peers, slots := slices.Clone(s.Ours[:cap(s.Ours)]), slices.Clone(s.Peers[:cap(s.Peers)]), slices.Clone(s.Shelf[:cap(s.Shelf)])
	want, _ := modelWrite(3, full())
	got, e := Write(3, s)
	is(t, "Write", e, api.OK)
	odd := s
	odd.Closed = -2
	unwritable(t, 3, odd)
	if !slices.Equal(s.Ours[:cap(s.Ours)], ours) || !slices.Equal(s.Peers[:cap(s.Peers)], peers) || !slices.Equal(s.Shelf[:cap(s.Shelf)], slots) {
		t.Errorf("P21.6: Write changed what it was handed")
	}
	spoil(s)
	if got != want {
		t.Errorf("P21.6: what Write told changed")
	}
}

// What Read answers lies in no other answer, and not in the text.
func TestReadIsNewMemory(t *testing.T) {
	b, _ := Write(3, full())
	text, bytes := loose(b)
	n, one, e := Read(text)
	_, other, _ := Read(text)
	if n != 3 || e != api.OK || sharesAny(one, other) || shares(one.Ours, one.Peers) {
		t.Fatalf("P21.6: Read = %d, %s, %d", n, shown(one), e)
	}
	at := strings.Index(text, "no")
	if unsafe.StringData(one.Ours[1].Note) == unsafe.StringData(text[at:]) {
		t.Errorf("P21.6: a note lies in what was read")
	}
	spoil(other)
	clear(bytes)
	if !sameState(one, full()) {
		t.Errorf("P21.6: what Read told changed: %s", shown(one))
	}
}

// R4: the same calls on new objects give the same answers, beside one another too.
func TestTheSameAgain(t *testing.T) {
	want := grown(t)
	log, _ := want.disk.Read("log.0", 0, api.MaxFile)
	saved, _ := Write(3, full())
	var w sync.WaitGroup
	for range 8 {
		w.Go(func() {
			for range 20 {
				s := grown(t)
				tells(t, "R4", s, want.State())
				holds(t, "R4", s.disk, "log.0", log)
				if b, e := Write(3, full()); b != saved || e != api.OK {
					t.Errorf("R4: Write tells otherwise")
				}
			}
		})
	}
	w.Wait()
}
