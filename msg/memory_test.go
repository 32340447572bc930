package msg

import (
	"math/rand"
	"sync"
	"testing"

	"escrow/api"
)

// checkAll makes every call on a message, right or wrong.
func checkAll(t *testing.T, m api.Message) {
	t.Helper()
	if checkWriteLikeModel(t, m) {
		b, _ := modelWrite(m)
		checkRead(t, b, m)
		checkNone(t, b[1:])
	}
	if u, ok := Update(m); ok && Of(u) != (api.Message{Kind: m.Kind, ID: m.ID, Amount: m.Amount, Hash: m.Hash, Note: m.Note}) {
		t.Errorf("P16.3: Of(Update(%+v)) tells %+v", shown(m), Of(u))
	}
}

// Nothing is kept: what was asked before, refused or not, shows nowhere.
func TestAskedAgain(t *testing.T) {
	r := rand.New(rand.NewSource(162))
	for range 5 {
		for _, m := range plain() {
			b, _ := modelWrite(m)
			checkWrite(t, m, b)
			checkNone(t, b[:len(b)-1])
			checkUnwritten(t, api.Message{Kind: m.Kind, Index: -1})
			checkAll(t, byChance(r))
			checkRead(t, b, m)
		}
	}
}

// A text that was made of bytes which change later is one of its own.
func TestTextIsNotKept(t *testing.T) {
	for _, m := range plain() {
		want, _ := modelWrite(m)
		b := []byte(want)
		s := string(b)
		got, _ := Read(s)
		clear(b)
		if got != m || s != want {
			t.Errorf("P16.1, R3: what was read changed: %+v", got)
		}
	}
}

func TestAskedBesideOneAnother(t *testing.T) {
	var w sync.WaitGroup
	for lane := range 8 {
		w.Go(func() {
			r := rand.New(rand.NewSource(int64(lane)))
			for range 1000 {
				checkAll(t, byChance(r))
			}
		})
	}
	w.Wait()
}
