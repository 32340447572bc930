package shelf

import (
	"math"
	"math/rand"
	"slices"
	"sync"
	"testing"

	"escrow/api"
)

var root = api.Hash{1, 2, 3}

func s(n int64) api.Hash { return secretOf(root, n) }

// inOrder is the shelf behind the secrets of a seed from 0 on.
func inOrder(t *testing.T, root api.Hash, count int64) []api.Slot {
	t.Helper()
	var l []api.Slot
	for n := range count {
		g := gotPut(Put(l, n, secretOf(root, n)))
		if g.errno != api.OK {
			t.Fatalf("P10.3: Put of %d in order tells %d", n, g.errno)
		}
		l = g.list
	}
	return l
}

func TestExampleInOrder(t *testing.T) {
	var l []api.Slot
	want := make([]api.Slot, 49)
	for n, place := range []int{0, 1, 0, 2} {
		g := gotPut(Put(l, int64(n), s(int64(n))))
		want[place] = api.Slot{Index: int64(n), Secret: s(int64(n)), Full: true}
		if g.errno != api.OK || !slices.Equal(g.list, want) {
			t.Fatalf("P10.1: Put of %d tells %v, want %v", n, g, want)
		}
		l = g.list
	}
	for n := range int64(4) {
		if g := gotRead(Get(l, n)); g != (read{s(n), api.OK}) {
			t.Errorf("P10.1: Get of %d tells %v", n, g)
		}
	}
	if g := gotRead(Get(l, 4)); g != (read{api.Hash{}, api.ErrNone}) {
		t.Errorf("P10.1: Get of 4 tells %v", g)
	}
}

func TestExamplesOfErrors(t *testing.T) {
	behind := inOrder(t, root, 1)
	seven := []api.Slot{slotOf(root, 7)}
	for i, x := range []struct {
		l      []api.Slot
		n      int64
		secret api.Hash
		want   api.Errno
	}{
		{behind, 1, s(2), api.ErrSecret},
		{behind, 1, spoilt(s(1)), api.ErrSecret},
		{behind, 1, s(1), api.OK},
		{nil, 1, s(2), api.OK},
		{nil, 1, api.Hash{}, api.OK},
		{nil, -1, s(1), api.ErrIndex},
		{make([]api.Slot, 50), -1, s(1), api.ErrArg},
		{make([]api.Slot, 50), 0, s(0), api.ErrArg},
		{make([]api.Slot, 50), 281474976710656, s(0), api.ErrArg},
		{seven, 1, s(1), api.ErrSecret},
	} {
		g := gotPut(Put(x.l, x.n, x.secret))
		if g.errno != x.want || len(g.list) != map[bool]int{true: 49}[x.want == api.OK] {
			t.Errorf("P10.1: row %d tells %d slots, %d, want %d", i, len(g.list), g.errno, x.want)
		}
	}
	if g := gotRead(Get(nil, 281474976710656)); g != (read{api.Hash{}, api.ErrIndex}) {
		t.Errorf("P10.1: Get(none, 2^48) tells %v", g)
	}
}

// fulls is a list of full slots of one seed, each in the place of its number's level, or one that is not full.
func fulls(length int, full bool) []api.Slot {
	l := make([]api.Slot, length)
	for j := range l {
		n := int64(1)<<min(j, 48) - 1
		l[j] = slotOf(root, n)
		l[j].Full = full
	}
	return l
}

func TestLengthsAndNumbers(t *testing.T) {
	lists := [][]api.Slot{nil, {}}
	for _, length := range []int{1, 2, 47, 48, 49, 50, 51, 200} {
		mixed := fulls(length, true)
		for j := 0; j < length; j += 2 {
			mixed[j].Full = false
		}
		lists = append(lists, fulls(length, true), fulls(length, false), make([]api.Slot, length), mixed)
	}
	told := map[api.Errno]int{}
	for _, l := range lists {
		for _, n := range edges() {
			for _, secret := range []api.Hash{{}, root, s(n), spoilt(s(n))} {
				told[checkPut(t, l, n, secret).errno]++
			}
			told[checkGet(t, l, n).errno]++
		}
	}
	if len(told) != 5 {
		t.Errorf("P10.1: the rows are to have all answers, not %v", told)
	}
}

func TestWhichErrorComesFirst(t *testing.T) {
	// In each list place 0 doesn't agree with anything.
	bad := func(length int) []api.Slot {
		l := fulls(length, true)
		l[0].Index = -1
		return l
	}
	for _, n := range edges() {
		for _, length := range []int{50, 51} {
			if g := gotPut(Put(bad(length), n, s(n))); g.errno != api.ErrArg || len(g.list) != 0 {
				t.Errorf("P10.1: Put(%d slots, %d) tells %v, want ErrArg", length, n, g)
			}
			if g := gotRead(Get(bad(length), n)); g != (read{api.Hash{}, api.ErrArg}) {
				t.Errorf("P10.1: Get(%d slots, %d) tells %v, want ErrArg", length, n, g)
			}
		}
		want := api.ErrIndex
		if inBounds(n) && n%2 == 1 {
			want = api.ErrSecret
		} else if inBounds(n) {
			want = api.OK // nothing is below level 0
		}
		for _, length := range []int{1, 2, 48, 49} {
			if g := gotPut(Put(bad(length), n, s(n))); g.errno != want || len(g.list) != 0 && want != api.OK {
				t.Errorf("P10.1: Put(%d slots, %d) tells %v, want %d", length, n, g, want)
			}
		}
		if g := gotRead(Get(bad(49)[:1], n)); g.secret != (api.Hash{}) || (g.errno == api.ErrIndex) == inBounds(n) {
			t.Errorf("P10.1: Get(1 slot, %d) tells %v", n, g)
		}
	}
}

// A number without a place is nobody's, also if a secret is told for it.
func TestSlotsWithNumbersWithoutAPlace(t *testing.T) {
	for _, index := range []int64{math.MinInt64, -1, 1 << 48, math.MaxInt64} {
		for j := range 49 {
			l := make([]api.Slot, j+1)
			l[j] = api.Slot{Index: index, Full: true} // the zero hash, which stands beside an error too
			if j < 48 {
				above := int64(1)<<(j+1) - 1 // of the level j + 1
				if g := gotPut(Put(l, above, s(above))); g.errno != api.ErrSecret || len(g.list) != 0 {
					t.Errorf("P10.1: Put of %d with %d in place %d tells %v, want ErrSecret", above, index, j, g)
				}
				l[j].Full = false
				if g := checkPut(t, l, above, s(above)); g.errno != api.OK || g.list[j] != (api.Slot{}) {
					t.Errorf("P10.1: Put of %d with place %d empty tells %v", above, j, g)
				}
				l[j].Full = true
			}
			own := int64(1)<<j - 1 // of the level j
			if g := checkPut(t, l, own, s(own)); g.errno != api.OK || g.list[j] != slotOf(root, own) {
				t.Errorf("P10.1: Put of %d over %d in its place tells %v", own, index, g)
			}
			for _, n := range []int64{0, 1, 1<<47 - 1, last} {
				if g := gotRead(Get(l, n)); g != (read{api.Hash{}, api.ErrNone}) {
					t.Errorf("P10.1: Get of %d with %d in place %d alone tells %v", n, index, j, g)
				}
			}
		}
	}
}

func TestASlotOutsideItsPlaceSpeaksToo(t *testing.T) {
	l := make([]api.Slot, 49)
	l[48] = slotOf(root, 3)
	l[0] = slotOf(root, 5)
	for n, want := range map[int64]read{0: {s(0), api.OK}, 3: {s(3), api.OK}, 4: {s(4), api.OK}, 5: {s(5), api.OK}, 6: {api.Hash{}, api.ErrNone}} {
		if g := checkGet(t, l, n); g != want {
			t.Errorf("P10.1: Get of %d tells %v, want %v", n, g, want)
		}
	}
	// 5 hangs on 7, and on 5: place 0 agrees whatever its number's level is.
	if g := checkPut(t, l, 7, s(7)); g.errno != api.OK || g.list[0] != slotOf(root, 5) || g.list[3] != slotOf(root, 7) || g.list[48] != slotOf(root, 3) {
		t.Errorf("P10.1: Put of 7 tells %v", g)
	}
	if g := checkPut(t, l, 5, s(5)); g.errno != api.OK || g.list[0] != g.list[1] {
		t.Errorf("P10.1: Put of 5 beside 5 tells %v", g)
	}
	if g := checkPut(t, l, 5, spoilt(s(5))); g.errno != api.ErrSecret {
		t.Errorf("P10.1: Put of 5 beside another 5 tells %v", g)
	}
	if g := checkPut(t, l, 3, s(3)); g.errno != api.ErrSecret {
		t.Errorf("P10.1: Put of 3 above 5 tells %v", g)
	}
}

func TestPlacesAtAndAboveTheLevelAreNotAsked(t *testing.T) {
	r := rand.New(rand.NewSource(101))
	for level := range 49 {
		for j := range 49 {
			n := withLevel(r, level)
			l := make([]api.Slot, 49)
			l[j] = holding(n, spoilt(s(n)))
			g := checkPut(t, l, n, s(n))
			if want := j < level; (g.errno == api.ErrSecret) != want {
				t.Errorf("P10.1: Put at level %d with another secret in place %d tells %d", level, j, g.errno)
			}
			if j > level && g.list[j] != l[j] {
				t.Errorf("P10.1: Put at level %d has changed place %d", level, j)
			}
			if j == level && g.list[j] != slotOf(root, n) {
				t.Errorf("P10.1: Put at level %d leaves what stood there", level)
			}
		}
	}
}

func TestWhatIsNotFullIsZero(t *testing.T) {
	l := []api.Slot{notFull(slotOf(root, 0)), notFull(slotOf(root, 7)), notFull(holding(-1, root)), slotOf(root, 7), notFull(slotOf(root, 15))}
	g := checkPut(t, l, 1, s(1))
	want := make([]api.Slot, 49)
	want[1], want[3] = slotOf(root, 1), slotOf(root, 7)
	if !g.same(put{want, api.OK}) {
		t.Errorf("P10.1: Put of 1 tells %v, want %v", g, want)
	}
	if g := checkGet(t, l[:3], 0); g.errno != api.ErrNone {
		t.Errorf("P10.1: Get of 0 out of slots that aren't full tells %v", g)
	}
	if g := checkGet(t, l, 15); g.errno != api.ErrNone {
		t.Errorf("P10.1: Get of 15 out of a slot that isn't full tells %v", g)
	}
}

func TestTheFirstPlaceCounts(t *testing.T) {
	r := rand.New(rand.NewSource(102))
	for range 2000 {
		n := anyNumber(r) & last
		l := make([]api.Slot, 49)
		var want read
		want.errno = api.ErrNone
		for j := range l {
			if r.Intn(8) > 0 {
				continue
			}
			// A number on which n hangs, of any level.
			low := r.Intn(49)
			from := n | (1<<low - 1)
			l[j] = holding(from, hashByChance(r))
			if want.errno != api.OK {
				want = derived(l[j].Secret, from, n)
			}
		}
		if g := checkGet(t, l, n); g != want {
			t.Fatalf("P10.1: Get of %d tells %v, want %v of %v", n, g, want, l)
		}
	}
}

func TestMemory(t *testing.T) {
	room := make([]api.Slot, 100)
	for j := range room {
		room[j] = slotOf(root, int64(1)<<min(j, 48)-1)
	}
	for _, length := range []int{0, 1, 2, 48, 49} {
		l := room[:length]
		first := checkPut(t, l, 6, s(6))
		second := checkPut(t, l, 6, s(6))
		third := checkPut(t, first.list, last, s(last))
		kept := slices.Clone(first.list)
		clear(second.list[:cap(second.list)])
		clear(third.list[:cap(third.list)])
		if !slices.Equal(kept, first.list) {
			t.Fatalf("P10.1: the answers of several Puts of %d slots share memory", length)
		}
		for j := range l {
			l[j].Secret = spoilt(l[j].Secret)
		}
		if !slices.Equal(kept, first.list) {
			t.Fatalf("P10.1: the answer to %d slots shares memory with them", length)
		}
		for j := range l {
			l[j].Secret = spoilt(l[j].Secret)
		}
		clear(first.list[:cap(first.list)])
		if g := checkPut(t, l, 6, s(6)); !slices.Equal(kept, g.list) {
			t.Fatalf("P10.1: Put of %d slots hangs on what came of an earlier answer", length)
		}
		if g := checkGet(t, l, 0); (g.errno == api.OK) != (length > 0) {
			t.Fatalf("P10.1: Get out of %d slots tells %v: spare room is none of the list", length, g)
		}
	}
}

func TestInOrder(t *testing.T) {
	r := rand.New(rand.NewSource(103))
	for range 3 {
		root := hashByChance(r)
		var l []api.Slot
		var secrets []api.Hash
		for n := range int64(330) {
			secrets = append(secrets, secretOf(root, n))
			before := slices.Clone(l)
			g := checkPut(t, l, n, secrets[n])
			if g.errno != api.OK {
				t.Fatalf("P10.3: Put of %d in order tells %d", n, g.errno)
			}
			if !slices.Equal(l, before) {
				t.Fatalf("P10.1: Put of %d has changed the answer ahead", n)
			}
			l = g.list
			for m, secret := range secrets {
				if g := gotRead(Get(l, int64(m))); g != (read{secret, api.OK}) {
					t.Fatalf("P10.2: behind %d, Get of %d tells %v", n, m, g)
				}
			}
			for _, m := range []int64{n + 1, n + 2, n + 3, n + 4, n | 63 + 1, 2*n + 1, 511, 512, 1<<47 - 1, last - 1, last} {
				if g := gotRead(Get(l, m)); m > n && g != (read{api.Hash{}, api.ErrNone}) {
					t.Fatalf("P10.2: behind %d, Get of %d tells %v, want ErrNone", n, m, g)
				}
			}
		}
	}
}

func TestInOrderForLong(t *testing.T) {
	const count = 20000
	l := inOrder(t, root, count)
	for n := range int64(count) {
		if g := gotRead(Get(l, n)); g != (read{s(n), api.OK}) {
			t.Fatalf("P10.2: behind %d, Get of %d tells %v", count-1, n, g)
		}
	}
	for n := int64(count); n < count+2000; n++ {
		if g := gotRead(Get(l, n)); g != (read{api.Hash{}, api.ErrNone}) {
			t.Fatalf("P10.2: behind %d, Get of %d tells %v, want ErrNone", count-1, n, g)
		}
	}
}

// wood is secrets that are taken in order, though each of the trees that the numbers up to count make has a root of its own.
func wood(r *rand.Rand, count int64) []api.Hash {
	var l []api.Hash
	for first := int64(0); first < count; {
		size := int64(1)
		for first%(size*2) == 0 && first+size*2 <= count {
			size *= 2
		}
		top := hashByChance(r)
		for n := first; n < first+size; n++ {
			l = append(l, derived(top, first+size-1, n).secret)
		}
		first += size
	}
	return l
}

func TestInOrderOfSeveralTrees(t *testing.T) {
	r := rand.New(rand.NewSource(104))
	for count := int64(1); count < 140; count++ {
		var l []api.Slot
		secrets := wood(r, count)
		for n, secret := range secrets {
			g := checkPut(t, l, int64(n), secret)
			if g.errno != api.OK {
				t.Fatalf("P10.2: of %d, Put of %d tells %d", count, n, g.errno)
			}
			l = g.list
			for m := range int64(count) + 10 {
				want := read{api.Hash{}, api.ErrNone}
				if m <= int64(n) {
					want = read{secrets[m], api.OK}
				}
				if g := gotRead(Get(l, m)); g != want {
					t.Fatalf("P10.2: of %d, behind %d, Get of %d tells %v, want %v", count, n, m, g, want)
				}
			}
		}
	}
}

func TestOneSpoiltSecret(t *testing.T) {
	r := rand.New(rand.NewSource(105))
	root := hashByChance(r)
	var l []api.Slot
	for n := range int64(300) {
		wrong := spoilt(secretOf(root, n))
		if n%3 == 0 {
			wrong = hashByChance(r)
		}
		g := checkPut(t, l, n, wrong)
		if n%2 == 1 {
			if g.errno != api.ErrSecret || len(g.list) != 0 {
				t.Fatalf("P10.1: Put of a spoilt %d tells %v, want ErrSecret", n, g)
			}
		} else {
			// Nothing is below it, so it is taken; the next one doesn't yield it.
			if g.errno != api.OK {
				t.Fatalf("P10.1: Put of a spoilt %d tells %d", n, g.errno)
			}
			if h := checkGet(t, g.list, n); h != (read{wrong, api.OK}) {
				t.Fatalf("P10.2: behind a spoilt %d, Get tells %v", n, h)
			}
			if next := checkPut(t, g.list, n+1, secretOf(root, n+1)); next.errno != api.ErrSecret {
				t.Fatalf("P10.1: Put of %d behind a spoilt one tells %d, want ErrSecret", n+1, next.errno)
			}
		}
		l = gotPut(Put(l, n, secretOf(root, n))).list
	}
	for n := range int64(300) {
		if g := checkGet(t, l, n); g != (read{secretOf(root, n), api.OK}) {
			t.Fatalf("P10.2: Get of %d tells %v", n, g)
		}
	}
}

// checkOnePlace holds a Put that was taken to P10.4's words.
func checkOnePlace(t *testing.T, r *rand.Rand, l []api.Slot, n int64, g put) {
	t.Helper()
	level := levelOf(n)
	old := fullSlots(l)
	if len(g.list) != 49 {
		t.Fatalf("P10.4: Put of %d tells %d slots", n, len(g.list))
	}
	for j, slot := range g.list {
		if j != level && slot != old[j] {
			t.Fatalf("P10.4: Put of %d, of the level %d, has changed place %d", n, level, j)
		}
		if j >= level || !slot.Full {
			continue
		}
		for range 4 {
			m := hanging(r, slot.Index)
			was, is := derived(slot.Secret, slot.Index, m), derived(g.list[level].Secret, n, m)
			if was != is || is.errno != api.OK {
				t.Fatalf("P10.4: place %d yields %v of %d, and the new %d %v", j, was, m, n, is)
			}
		}
	}
	if g.list[level].Index != n {
		t.Fatalf("P10.4: Put of %d isn't in the place %d", n, level)
	}
}

func TestOnePlaceAlone(t *testing.T) {
	r := rand.New(rand.NewSource(106))
	below := 0
	for i := range 980 {
		n, secret := withLevel(r, i%49), hashByChance(r)
		l := agreeing(r, n, secret)
		g := checkPut(t, l, n, secret)
		if g.errno != api.OK {
			t.Fatalf("P10.1: Put of %d on a shelf that agrees tells %d", n, g.errno)
		}
		checkOnePlace(t, r, l, n, g)
		for j, slot := range l {
			if j >= levelOf(n) || !slot.Full {
				continue
			}
			below++
			// What stood below is spoilt, so that it agrees no more.
			other := slices.Clone(l)
			switch r.Intn(3) {
			case 0:
				other[j].Secret = spoilt(slot.Secret)
			case 1:
				other[j].Index = n + 1
			case 2:
				other[j].Index = n - 1<<levelOf(n)
			}
			if g := checkPut(t, other, n, secret); g.errno != api.ErrSecret {
				t.Fatalf("P10.1: Put of %d on a shelf that doesn't agree in place %d tells %d", n, j, g.errno)
			}
		}
	}
	if below < 2000 {
		t.Errorf("P10.4: only %d slots stood below", below)
	}
}

func TestShelvesByChance(t *testing.T) {
	r := rand.New(rand.NewSource(107))
	told := map[api.Errno]int{}
	for i := range 3000 {
		root := api.Hash{byte(i % 5)}
		l := anyShelf(r, root)
		n := anyNumber(r)
		secret := secretOf(root, n)
		if r.Intn(5) == 0 {
			secret = hashByChance(r)
		}
		g := checkPut(t, l, n, secret)
		told[g.errno]++
		if g.errno == api.OK {
			checkOnePlace(t, r, l, n, g)
		}
		told[checkGet(t, l, n).errno]++
		for _, slot := range l[:min(len(l), 5)] {
			checkGet(t, l, slot.Index)
			checkGet(t, l, slot.Index-1)
		}
	}
	for _, e := range []api.Errno{api.OK, api.ErrArg, api.ErrIndex, api.ErrSecret, api.ErrNone} {
		if told[e] < 150 {
			t.Errorf("P10.1: the calls by chance tell %d only %d times", e, told[e])
		}
	}
}

func TestAnswersHangOnArgumentsAlone(t *testing.T) {
	shared := fulls(49, true)
	var w sync.WaitGroup
	for lane := range 8 {
		w.Go(func() {
			r := rand.New(rand.NewSource(int64(lane)))
			for range 300 {
				n := anyNumber(r)
				l := shared
				if r.Intn(2) == 0 {
					l = anyShelf(r, root)
				}
				if g, want := gotPut(Put(l, n, s(n))), saidPut(l, n, s(n)); !g.same(want) {
					t.Errorf("P10.1: among others, Put of %d tells %v, want %v", n, g, want)
				}
				if g, want := gotRead(Get(l, n)), saidGet(l, n); g != want {
					t.Errorf("P10.1: among others, Get of %d tells %v, want %v", n, g, want)
				}
			}
		})
	}
	w.Wait()
}
