package record

import (
	"math/rand"
	"slices"
	"strings"
	"sync"
	"testing"
	"unsafe"

	"escrow/api"
)

// roomy is a state whose lists have room behind them, in which something stands.
func roomy(s api.State) api.State {
	odd := []api.Update{add(7, 7), fail(0, "x"), fulfill(1), {Kind: -9, Note: "behind"}}
	slots := append(slices.Clone(s.Shelf), api.Slot{Index: 3, Full: true}, api.Slot{Index: -1})
	s.Ours, s.Peers, s.Shelf = roomyList(s.Ours, odd), roomyList(s.Peers, odd), slots[:len(s.Shelf)]
	return s
}

func roomyList(l, behind []api.Update) []api.Update {
	return slices.Concat(l, behind)[:len(l)]
}

// whole is a state with the room behind its lists in them.
func whole(s api.State) api.State {
	s.Ours, s.Peers, s.Shelf = s.Ours[:cap(s.Ours)], s.Peers[:cap(s.Peers)], s.Shelf[:cap(s.Shelf)]
	return s
}

// takes is a record of each kind with a state that takes it.
func takes() ([]api.State, []api.Record) {
	s := strange()
	waits := s
	waits.Remote = 51
	return []api.State{s, s, s, s, waits, s, s}, []api.Record{
		{Kind: 1, Update: fulfill(2)},
		{Kind: 2, Index: 51, Counts: counts(2, 3)},
		{Kind: 3, Index: 41, Updates: []api.Update{fail(0, "z"), add(3, 5)}, Sig: full(99)},
		{Kind: 3, Index: 41, Sig: full(99)},
		{Kind: 4, Index: 50, Secret: full(4), Point: full(3)},
		{Kind: 5, Code: 5},
		{Kind: 6, Index: 40},
	}
}

// Taken or refused, what was handed in is as it was, the room behind its lists too.
func TestHandedInIsLeft(t *testing.T) {
	r := rand.New(rand.NewSource(176))
	taken, refused := 0, 0
	check := func(s api.State, x api.Record) {
		s = roomy(s)
		x.Updates = roomyList(x.Updates, []api.Update{fail(1, "behind"), {Kind: 7}})
		state, list := copyOf(whole(s)), slices.Clone(x.Updates[:cap(x.Updates)])
		if _, e := Apply(s, x); e == api.OK {
			taken++
		} else {
			refused++
		}
		Write(x)
		if !sameState(whole(s), state) || !slices.Equal(x.Updates[:cap(x.Updates)], list) {
			t.Fatalf("P17.1, R3: Apply changed what it was handed: %+v, %+v", s, x)
		}
	}
	states, records := takes()
	for i := range states {
		check(states[i], records[i])
	}
	if taken != len(states) {
		t.Errorf("P17.1: of %d records %d were taken", len(states), taken)
	}
	for range 5000 {
		s := stateByChance(r)
		check(s, recordFor(r, s))
	}
	if taken < 1000 || refused < 500 {
		t.Errorf("P17.1: %d were taken, %d not", taken, refused)
	}
}

// shares tells whether two lists have memory in common, their spare room with them.
func shares[E any](a, b []E) bool {
	for i := range a[:cap(a)] {
		for j := range b[:cap(b)] {
			if &a[:cap(a)][i] == &b[:cap(b)][j] {
				return true
			}
		}
	}
	return false
}

// All lists of what is answered are new: the state's, the record's, and one another's.
func TestAnswersAreNewMemory(t *testing.T) {
	states, records := takes()
	for i, s := range states {
		s, x := roomy(s), records[i]
		x.Updates = roomyList(x.Updates, []api.Update{fail(1, "behind")})
		one, other := apply(t, s, x), apply(t, s, x)
		for _, list := range [][]api.Update{s.Ours, s.Peers, x.Updates, other.Ours, other.Peers} {
			if shares(one.Ours, list) || shares(one.Peers, list) {
				t.Errorf("P17.1, R3: a list that kind %d answers shares memory", x.Kind)
			}
		}
		if shares(one.Ours, one.Peers) || shares(one.Shelf, s.Shelf) || shares(one.Shelf, other.Shelf) {
			t.Errorf("P17.1, R3: a list that kind %d answers shares memory", x.Kind)
		}
		// Written over, neither shows anywhere else.
		want := copyOf(other)
		clear(one.Ours[:cap(one.Ours)])
		clear(one.Peers[:cap(one.Peers)])
		clear(one.Shelf[:cap(one.Shelf)])
		clear(x.Updates)
		if !sameState(other, want) {
			t.Errorf("P17.1, R3: two answers of kind %d share memory", x.Kind)
		}
	}
}

// Where the state's lists, and the record's, are one array, those of the answer are not.
func TestOneArrayAsAllLists(t *testing.T) {
	both := append(adds(3), add(3, 9))
	states, records := takes()
	for i, s := range states {
		s.Ours, s.Peers, s.At.Peers = both[:3], both[:3], 3
		x := records[i]
		switch x.Kind {
		case 1:
			x.Update = add(3, 9)
		case 3:
			x.Updates = both[3:]
		}
		was := slices.Clone(both)
		got := apply(t, s, x)
		if shares(got.Ours, got.Peers) || shares(got.Ours, both) || shares(got.Peers, both) || !slices.Equal(both, was) {
			t.Errorf("P17.1, R3: the lists of kind %d share memory", x.Kind)
		}
	}
}

// Lists of no length but with room are not handed on either.
func TestEmptyListsWithRoom(t *testing.T) {
	room := adds(4)
	s := api.State{Ours: room[:0], Peers: room[:0], Shelf: make([]api.Slot, 0, 4)}
	got := apply(t, s, api.Record{Kind: 5, Code: 1})
	if cap(got.Ours) > 0 && shares(got.Ours, room) || cap(got.Peers) > 0 && shares(got.Peers, room) || shares(got.Shelf, s.Shelf) {
		t.Errorf("P17.1, R3: an empty list shares memory")
	}
	for _, r := range []api.Record{{Kind: 1, Update: add(0, 7)}, {Kind: 3, Index: 1, Updates: []api.Update{add(0, 7)}}} {
		apply(t, s, r)
		if room[0] != add(0, 1) {
			t.Fatalf("P17.1, R3: kind %d was laid into the room of what was handed in", r.Kind)
		}
	}
}

// What Read answers is its own: no list is another answer's, and no note lies in the text.
func TestReadAnswersNewMemory(t *testing.T) {
	r := api.Record{Kind: 3, Index: 1, Updates: []api.Update{fail(0, "note"), add(0, 1)}}
	b, _ := Write(r)
	one, _, _ := Read(b)
	other, _, _ := Read(b)
	if shares(one.Updates, other.Updates) {
		t.Errorf("P17.1, R3: two answers of Read share a list")
	}
	at := strings.Index(b, "note")
	if unsafe.StringData(one.Updates[0].Note) == unsafe.StringData(b[at:]) {
		t.Errorf("P17.1, R3: a note lies in what was read")
	}
	clear(one.Updates)
	checkRead(t, b, r, len(b))
}

// Nothing is kept: what was asked before, refused or not, and what is written over since, shows nowhere.
func TestAskedAgain(t *testing.T) {
	r := rand.New(rand.NewSource(177))
	states, records := takes()
	for range 20 {
		for i, s := range states {
			x := records[i]
			want, _ := modelApply(s, x)
			s, list := copyOf(s), slices.Clone(x.Updates)
			x.Updates = list
			got := apply(t, s, x)
			clear(s.Ours)
			clear(s.Peers)
			clear(s.Shelf)
			clear(list)
			if !sameState(got, want) {
				t.Errorf("P17.1, R3: an answer of kind %d changed with what was handed in", x.Kind)
			}
			odd := stateByChance(r)
			checkLikeModel(t, odd, recordFor(r, odd))
			checkUnwritten(t, api.Record{Kind: x.Kind, Index: -1})
			checkTaken(t, states[i], records[i], want)
		}
	}
}

func TestAskedBesideOneAnother(t *testing.T) {
	states, records := takes()
	var w sync.WaitGroup
	for lane := range 8 {
		w.Go(func() {
			r := rand.New(rand.NewSource(int64(lane)))
			for range 300 {
				i := r.Intn(len(states))
				checkLikeModel(t, states[i], records[i])
				b, _ := Write(records[i])
				checkRead(t, b, records[i], len(b))
				s := stateByChance(r)
				checkLikeModel(t, s, recordFor(r, s))
			}
		})
	}
	w.Wait()
}
