package commit

import (
	"math/rand"
	"slices"
	"strings"
	"sync"
	"testing"

	"escrow/api"
)

// spare is a ledger with room behind its list, in which something stands.
func spare(l api.Ledger) api.Ledger {
	room := append(slices.Clone(l.Open), open(true, 7, 7), open(false, -3, 0), open(true, 1, 1), open(false, 0, 2), open(true, 0, 0))
	l.Open = room[:len(l.Open)]
	return l
}

func TestLedgersAreLeftAsTheyWere(t *testing.T) {
	r := rand.New(rand.NewSource(146))
	for k := range 10000 {
		l := spare([]api.Ledger{soundByChance(r), bentByChance(r), oddByChance(r)}[k%3])
		was := slices.Clone(l.Open[:cap(l.Open)])
		Text(k%2, 5, full(7), l)
		Text(2, 5, full(7), l)
		Turn(l)
		Turn(Turn(l))
		if !slices.Equal(l.Open[:cap(l.Open)], was) {
			t.Fatalf("P14.4, R3: Text or Turn changed the list of %v", l)
		}
		checkTextLikeModel(t, commitment{k % 2, 5, full(7), l})
		checkTurn(t, l, modelTurn(l))
	}
}

// What is answered is the caller's: a change of it, in its spare room too, is seen by no argument and by no other answer.
func TestAnswersAreNewMemory(t *testing.T) {
	for _, l := range []api.Ledger{ledgerOf(10, 20, open(true, 3, 9), open(false, 1, 4)), ledgerOf(1, 2, both(3, 0)...), ledgerOf(1, 2, both(0, 3)...), ledgerOf(1, 2, both(5, 6)...), ledgerOf(3, 4)} {
		l = spare(l)
		was := slices.Clone(l.Open[:cap(l.Open)])
		want := modelTurn(l)
		first, second := Turn(l), Turn(l)
		back := Turn(first)
		clear(first.Open[:cap(first.Open)])
		if !same(second, want) || !same(back, l) || !slices.Equal(l.Open[:cap(l.Open)], was) {
			t.Errorf("P14.4, R3: an answer of Turn shares memory: %v, %v, %v", l, second, back)
		}
		c := commitment{1, 5, full(7), l}
		b := laid(c)
		_, _, _, one, _ := Read(b)
		_, _, _, other, _ := Read(b)
		clear(one.Open[:cap(one.Open)])
		if !same(other, l) {
			t.Errorf("P14.4, R3: two answers of Read share memory: %v", other)
		}
		checkRead(t, b, c, api.OK)
	}
}

// What is handed in is not kept: written over behind the call, it changes no answer.
func TestNothingIsKept(t *testing.T) {
	l := ledgerOf(10, 20, open(true, 3, 9), open(false, 1, 4))
	was := ledgerOf(10, 20, open(true, 3, 9), open(false, 1, 4))
	for range 3 {
		text, _ := Text(1, 5, full(7), l)
		turned := Turn(l)
		l.Open[0], l.Open[1] = open(true, 8, 1), open(true, 8, 1)
		if text != laid(commitment{1, 5, full(7), was}) || !same(turned, modelTurn(was)) {
			t.Errorf("P14.4, R3: an answer changed with the ledger that was handed in: %x, %v", text, turned)
		}
		checkSound(t, l, false, "alike IDs")
		checkTurn(t, l, ledgerOf(20, 10, open(false, 8, 1), open(false, 8, 1)))
		l.Open[0], l.Open[1] = was.Open[0], was.Open[1]
		checkSound(t, l, true, "as it was")
	}
}

// A text that is made of bytes which change later is one of its own.
func TestTextIsNotKept(t *testing.T) {
	c := commitment{1, 5, full(7), ledgerOf(10, 20, open(true, 3, 9))}
	b := []byte(laid(c))
	s := string(b)
	_, _, _, l, _ := Read(s)
	clear(b)
	if !same(l, c.l) || s != laid(c) {
		t.Errorf("P14.4: what was read changed: %v", l)
	}
}

// Refused calls change nothing that a later call could tell.
func TestAskedAgain(t *testing.T) {
	c := commitment{1, 5, full(7), ledgerOf(10, 20, both(2, 2)...)}
	for range 4 {
		checkText(t, c, laid(c), api.OK)
		checkText(t, commitment{2, 5, full(7), c.l}, "", api.ErrArg)
		checkText(t, commitment{1, 5, full(7), ledgerOf(-1, 0)}, "", api.ErrForm)
		checkNone(t, laid(c)[1:])
		checkRead(t, laid(c), c, api.OK)
		checkTurn(t, c.l, modelTurn(c.l))
	}
}

func TestAskedBesideOneAnother(t *testing.T) {
	c := commitment{1, 5, full(7), spare(ledgerOf(10, 20, both(30, 20)...))}
	want := laid(c)
	var wg sync.WaitGroup
	for range 8 {
		wg.Go(func() {
			for range 200 {
				checkText(t, c, want, api.OK)
				checkRead(t, want, c, api.OK)
				checkTurn(t, c.l, modelTurn(c.l))
			}
		})
	}
	wg.Wait()
}

// Long ledgers and texts are answered soon.
func TestLong(t *testing.T) {
	const n = 1 << 20
	l := ledgerOf(1, 2)
	for i := range n {
		l.Open = append(l.Open, open(i%2 == 1, int64(n-i), int64(i)))
	}
	checkText(t, commitment{l: l}, "", api.ErrForm)
	checkTurn(t, l, modelTurn(l))
	for _, s := range []string{"\x00", "\x01", "\xff", laid(commitment{}), laid(commitment{1, 5, full(7), ledgerOf(1, 2, both(483, 483)...)})} {
		checkNone(t, strings.Repeat(s, 1+10*n/len(s)))
	}
	// A number that promises far more than stands there.
	checkNone(t, numbered(laid(commitment{}), 65535))
	checkNone(t, numbered(laid(commitment{l: ledgerOf(0, 0, many(true, 2000)...)}), 65535))
}
