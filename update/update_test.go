package update

import (
	"math"
	"math/rand"
	"slices"
	"strings"
	"sync"
	"testing"

	"escrow/api"
)

func short(s string) string { return s[:min(len(s), 80)] }

func add(id int64, p api.Hash) api.Update {
	return api.Update{Kind: api.Add, ID: id, Amount: 1, Hash: sumOf(p)}
}
func fulfill(id int64, p api.Hash) api.Update {
	return api.Update{Kind: api.Fulfill, ID: id, Hash: p}
}
func fail(id int64) api.Update          { return api.Update{Kind: api.Fail, ID: id} }
func list(u ...api.Update) []api.Update { return u }

func checkValid(t *testing.T, u api.Update, want bool) {
	t.Helper()
	if got := Valid(u); got != want {
		t.Errorf("P12.1: Valid(%d, ID %d, %d, %x, %q) tells %v, want %v", u.Kind, u.ID, u.Amount, u.Hash, short(u.Note), got, want)
	}
}

func checkWrite(t *testing.T, u api.Update, want string, errno api.Errno) {
	t.Helper()
	if got, e := Write(u); got != want || e != errno {
		t.Errorf("P12.1: Write(%d, ID %d, %d, %x, %q) tells %x, %d, want %x, %d", u.Kind, u.ID, u.Amount, u.Hash, short(u.Note), short(got), e, short(want), errno)
	}
}

func checkRead(t *testing.T, b string, want api.Update, n int, errno api.Errno) {
	t.Helper()
	if got, m, e := Read(b); got != want || m != n || e != errno {
		t.Errorf("P12.1, P12.2: Read(%x) tells %v, %d, %d, want %v, %d, %d", short(b), got, m, e, want, n, errno)
	}
}

// checkLikeModel holds Read against the model.
func checkLikeModel(t *testing.T, b string) {
	t.Helper()
	u, n, e := modelRead(b)
	checkRead(t, b, u, n, e)
}

func checkNext(t *testing.T, mine, others []api.Update, u api.Update, want api.Errno, why string) {
	t.Helper()
	if got := Next(mine, others, u); got != want {
		t.Errorf("P12.1: Next(%d updates, %d others, %v) tells %d, want %d: %s", len(mine), len(others), u, got, want, why)
	}
}

func TestExamplesOfBytes(t *testing.T) {
	h := sumOf(full(9))
	digits := string(h[:])
	checkWrite(t, api.Update{Kind: 1, ID: 1, Amount: 258, Hash: h}, "\x01\x00\x01\x00\x00\x00\x00\x00\x00\x01\x02"+digits, api.OK)
	checkWrite(t, api.Update{Kind: 2, Hash: h}, "\x02\x00\x00"+digits, api.OK)
	checkWrite(t, api.Update{Kind: 3, ID: 5, Note: "no"}, "\x03\x00\x05\x00\x02no", api.OK)
	for _, u := range []api.Update{{Kind: 1}, {Kind: 1, Amount: 1<<60 + 1}, {Kind: 1, Amount: 1, ID: -1}, {Kind: 1, Amount: 1, ID: 2048}, {Kind: 1, Amount: 1, Note: "n"}, {Kind: 2, Amount: 1}, {Kind: 3, Hash: h}, {Kind: 3, Note: strings.Repeat("n", 65)}, {}, {Kind: 4}} {
		checkValid(t, u, false)
		checkWrite(t, u, "", api.ErrUpdate)
	}
	checkRead(t, "", api.Update{}, 0, api.ErrShort)
	checkRead(t, "\x04", api.Update{}, 0, api.ErrUpdate)
	checkRead(t, "\x04\x00\x00\x00\x00", api.Update{}, 0, api.ErrUpdate)
	checkRead(t, "\x03\x00\x05\x00\x41", api.Update{}, 0, api.ErrUpdate)
	checkRead(t, "\x03\x00\x05\x00\x02n", api.Update{}, 0, api.ErrShort)
	checkRead(t, "\x03\x08\x00\x00\x00", api.Update{}, 0, api.ErrUpdate)
	checkRead(t, "\x03\x00\x05\x00\x00\xff", api.Update{Kind: 3, ID: 5}, 5, api.OK)
}

func TestExamplesOfNext(t *testing.T) {
	p, q := full(1), full(2)
	checkNext(t, nil, nil, add(0, p), api.OK, "the first")
	checkNext(t, nil, nil, add(1, p), api.ErrUpdate, "no Add 0 yet")
	checkNext(t, list(add(0, p)), nil, add(1, p), api.OK, "the second")
	checkNext(t, nil, list(add(0, p)), fulfill(0, p), api.OK, "the preimage")
	checkNext(t, nil, list(add(0, p)), fulfill(0, q), api.ErrUpdate, "another preimage")
	checkNext(t, nil, list(add(0, p)), fulfill(1, p), api.ErrUpdate, "no such Add")
	checkNext(t, list(fail(0)), list(add(0, p)), fail(0), api.ErrUpdate, "twice")
	checkNext(t, list(fail(0)), list(add(0, p)), add(0, p), api.OK, "no Add yet")
}

func TestValidAndWriteOfEveryUpdate(t *testing.T) {
	right := 0
	every(func(u api.Update) {
		if !modelValid(u) {
			if b, e := Write(u); b != "" || e != api.ErrUpdate || Valid(u) {
				checkValid(t, u, false)
				checkWrite(t, u, "", api.ErrUpdate)
			}
			return
		}
		right++
		checkValid(t, u, true)
		checkWrite(t, u, laid(u), api.OK)
	})
	// Six IDs: Adds with five amounts and six hashes, Fulfills with six hashes, Fails with thirteen notes.
	if right != 6*(5*6+6+13) {
		t.Errorf("P12.1: %d updates are valid", right)
	}
}

// Each ID of each kind; lengths are those that the chapter names.
func TestWriteOfEveryID(t *testing.T) {
	for id := range int64(2048) {
		for _, x := range []struct {
			u api.Update
			n int
		}{{add(id, full(4)), 43}, {fulfill(id, full(4)), 35}, {fail(id), 5}, {api.Update{Kind: 3, ID: id, Note: strings.Repeat("n", 64)}, 69}} {
			b, e := Write(x.u)
			if len(b) != x.n || e != api.OK {
				t.Errorf("P12.1: Write(%v) tells %d bytes, %d", x.u, len(b), e)
			}
			checkRead(t, b, x.u, x.n, api.OK)
		}
	}
	for _, id := range []int64{-1, 2048, 65536, 1<<32 + 1} {
		for _, u := range list(add(id, full(4)), fulfill(id, full(4)), fail(id)) {
			checkWrite(t, u, "", api.ErrUpdate)
		}
	}
}

func TestThereAndBack(t *testing.T) {
	behind := []string{"", "\x00", "\xff", "zz", "\x01", strings.Repeat("\x03", 100)}
	for _, u := range valid() {
		b, e := Write(u)
		if e != api.OK {
			t.Fatalf("P12.2: Write(%v) tells %d", u, e)
		}
		for _, s := range append(behind, b) {
			checkRead(t, b+s, u, len(b), api.OK)
		}
		for k := range len(b) {
			checkRead(t, b[:k], api.Update{}, 0, api.ErrShort)
		}
	}
}

// Every byte turned to every other: what is read is what the model says, and is told again by Write.
func TestEachByteTurned(t *testing.T) {
	for _, u := range []api.Update{{Kind: 1, ID: 1, Amount: 258, Hash: full(3)}, {Kind: 1, ID: 2047, Amount: 1 << 60}, {Kind: 2, ID: 7, Hash: full(3)}, {Kind: 3, ID: 5, Note: "no"}, {Kind: 3}, {Kind: 3, ID: 2047, Note: strings.Repeat("\xff", 64)}} {
		whole := laid(u)
		for at := range len(whole) {
			for to := range 256 {
				b := []byte(whole + "behind it")
				b[at] = byte(to)
				checkReadOf(t, string(b))
				checkReadOf(t, string(b[:len(whole)]))
				checkReadOf(t, string(b[:at+1]))
			}
		}
	}
}

// checkReadOf holds Read against the model, and what it reads against P12.2.
func checkReadOf(t *testing.T, b string) {
	t.Helper()
	checkLikeModel(t, b)
	u, n, e := Read(b)
	if e != api.OK {
		return
	}
	checkValid(t, u, true)
	if again, e := Write(u); e != api.OK || n > len(b) || again != b[:n] {
		t.Errorf("P12.2: Read(%x) tells %v, %d, of which Write tells %x, %d", b, u, n, again, e)
	}
}

func TestReadOfLongNotes(t *testing.T) {
	for length := range 65536 {
		b := "\x03\x00\x05" + string([]byte{byte(length >> 8), byte(length)})
		want := api.ErrShort
		if length > 64 {
			want = api.ErrUpdate
		}
		if length > 0 {
			checkRead(t, b, api.Update{}, 0, want)
		}
	}
	long := strings.Repeat("n", 65536)
	for _, length := range []int{65, 66, 255, 256, 320, 65535} {
		b := "\x03\x00\x05" + string([]byte{byte(length >> 8), byte(length)})
		for _, there := range []int{0, 1, 64, 65, length - 1, length, length + 1} {
			checkRead(t, b+long[:there], api.Update{}, 0, api.ErrUpdate)
		}
		checkRead(t, b[:4], api.Update{}, 0, api.ErrShort)
	}
	checkRead(t, "\x03\x00\x05\xff", api.Update{}, 0, api.ErrShort)
}

// Which error goes ahead: a kind that is none ahead of what is missing; what is missing ahead of a wrong ID or amount; a long note ahead of neither.
func TestReadOrderOfErrors(t *testing.T) {
	rest := strings.Repeat("\xff", 100)
	for k := range 256 {
		if k >= 1 && k <= 3 {
			checkRead(t, string([]byte{byte(k)}), api.Update{}, 0, api.ErrShort)
			continue
		}
		for n := range len(rest) {
			checkRead(t, string([]byte{byte(k)})+rest[:n], api.Update{}, 0, api.ErrUpdate)
		}
	}
	for _, whole := range []string{"\x01\x08\x00" + rest[:40], "\x01\x00\x00" + strings.Repeat("\x00", 40), "\x02\xff\xff" + rest[:32], "\x03\x08\x00\x00\x40" + rest[:64]} {
		for n := range len(whole) {
			checkRead(t, whole[:n], api.Update{}, 0, api.ErrShort)
		}
		checkRead(t, whole, api.Update{}, 0, api.ErrUpdate)
		checkRead(t, whole+"behind", api.Update{}, 0, api.ErrUpdate)
	}
	checkRead(t, "\x03\x08\x00\x00\x41", api.Update{}, 0, api.ErrUpdate)
}

func TestReadOfEveryIDAndAmount(t *testing.T) {
	for id := range 65536 {
		two := string([]byte{byte(id >> 8), byte(id)})
		for _, b := range []string{"\x01" + two + "\x00\x00\x00\x00\x00\x00\x00\x01" + strings.Repeat("h", 32), "\x02" + two + strings.Repeat("p", 32), "\x03" + two + "\x00\x01n"} {
			want := api.OK
			if id > 2047 {
				want = api.ErrUpdate
			}
			if u, n, e := Read(b); e != want || e == api.OK && (u.ID != int64(id) || n != len(b)) {
				t.Errorf("P12.1: Read(%x) tells %v, %d, %d, want ID %d, %d", b, u, n, e, id, want)
			}
		}
	}
	for _, a := range amounts() {
		checkLikeModel(t, laid(api.Update{Kind: 1, ID: 3, Amount: a, Hash: full(1)}))
	}
}

func TestReadByChance(t *testing.T) {
	r := rand.New(rand.NewSource(121))
	for range 30000 {
		b := make([]byte, r.Intn(90))
		r.Read(b)
		for i := range b {
			if i < 11 && r.Intn(3) > 0 {
				b[i] = byte(r.Intn(4))
			}
		}
		checkReadOf(t, string(b))
	}
}

func checkFind(t *testing.T, l []api.Update, id int64) {
	t.Helper()
	want, is := modelFirst(l, id, 1)
	if u, ok := Find(l, id); u != want || ok != is {
		t.Errorf("P12.1: Find(%v, %d) tells %v, %v, want %v, %v", l, id, u, ok, want, is)
	}
	want, is = modelFirst(l, id, 2, 3)
	if u, ok := Removal(l, id); u != want || ok != is {
		t.Errorf("P12.1: Removal(%v, %d) tells %v, %v, want %v, %v", l, id, u, ok, want, is)
	}
}

func TestFindAndRemoval(t *testing.T) {
	a, b := api.Update{Kind: 1, ID: 3, Amount: 1}, api.Update{Kind: 1, ID: 3, Amount: 2}
	f, g := api.Update{Kind: 3, ID: 3, Note: "f"}, api.Update{Kind: 2, ID: 3, Hash: full(1)}
	for _, x := range []struct {
		l            []api.Update
		add, removal api.Update
	}{
		{nil, api.Update{}, api.Update{}},
		{list(a), a, api.Update{}},
		{list(f), api.Update{}, f},
		{list(g), api.Update{}, g},
		{list(a, b, f, g), a, f},
		{list(g, f, b, a), b, g},
		{list(api.Update{ID: 3}, api.Update{Kind: 4, ID: 3}, api.Update{Kind: 257, ID: 3}, api.Update{Kind: -1, ID: 3}), api.Update{}, api.Update{}},
	} {
		if u, ok := Find(x.l, 3); u != x.add || ok != (x.add.Kind > 0) {
			t.Errorf("P12.1: Find(%v, 3) tells %v, %v", x.l, u, ok)
		}
		if u, ok := Removal(x.l, 3); u != x.removal || ok != (x.removal.Kind > 0) {
			t.Errorf("P12.1: Removal(%v, 3) tells %v, %v", x.l, u, ok)
		}
		for _, id := range []int64{math.MinInt64, -3, -1, 0, 2, 4, 259, 1<<32 + 3, math.MaxInt64} {
			if u, ok := Find(x.l, id); u != (api.Update{}) || ok {
				t.Errorf("P12.1: Find(%v, %d) tells %v, %v", x.l, id, u, ok)
			}
			if u, ok := Removal(x.l, id); u != (api.Update{}) || ok {
				t.Errorf("P12.1: Removal(%v, %d) tells %v, %v", x.l, id, u, ok)
			}
		}
	}
}

// What stands in a list need not be valid: IDs that no update may have are found like others.
func TestFindOfAnyID(t *testing.T) {
	var l []api.Update
	for _, id := range ids() {
		for _, k := range kinds() {
			l = append(l, api.Update{Kind: k, ID: id, Amount: -1, Note: strings.Repeat("n", 70)}, api.Update{Kind: k, ID: id})
		}
	}
	for _, id := range append(ids(), 2, -2, math.MaxInt64-1) {
		checkFind(t, l, id)
		checkFind(t, nil, id)
		checkFind(t, []api.Update{}, id)
	}
	r := rand.New(rand.NewSource(122))
	for range 3000 {
		l := listByChance(r, 12, 4)
		for id := range int64(6) {
			checkFind(t, l, id-1)
		}
	}
}

func TestNextOfFullLists(t *testing.T) {
	p := full(1)
	others := list(add(0, p))
	for _, n := range []int{2047, 2048, 2049, 5000} {
		zero, adds, fails := make([]api.Update, n), make([]api.Update, n), make([]api.Update, n)
		for i := range n {
			adds[i], fails[i] = add(int64(i), p), fail(int64(i+1))
		}
		for _, mine := range [][]api.Update{zero, adds, fails} {
			for _, u := range list(add(0, p), add(2047, p), fulfill(0, p), fail(0), fail(1), api.Update{}, api.Update{Kind: 3, Amount: 1}) {
				checkNext(t, mine, others, u, modelNext(mine, others, u), "a list that is full or one below")
			}
		}
		if n > 2047 {
			checkNext(t, zero, nil, api.Update{}, api.ErrFull, "full goes ahead of not valid")
			checkNext(t, adds, others, fulfill(0, p), api.ErrFull, "full")
		}
	}
	checkNext(t, make([]api.Update, 2047), nil, add(0, p), api.OK, "room for one, and no Add yet")
}

// The last update that a list has room for is the Add with the last ID.
func TestNextFillsAList(t *testing.T) {
	var mine []api.Update
	for id := range int64(2048) {
		checkNext(t, mine, nil, add(id+1, full(1)), api.ErrUpdate, "one too far")
		checkNext(t, mine, nil, add(id-1, full(1)), api.ErrUpdate, "the last again")
		checkNext(t, mine, nil, add(id, full(1)), api.OK, "the next")
		mine = append(mine, add(id, full(1)))
	}
	checkNext(t, mine, nil, add(2048, full(1)), api.ErrFull, "no room")
	checkNext(t, mine, nil, add(0, full(1)), api.ErrFull, "no room")
}

func TestNextOfAdds(t *testing.T) {
	p := full(1)
	odd := list(add(9, p), api.Update{Kind: 1, ID: -5}, api.Update{Kind: 1, Note: "n", Amount: -1}, fail(0), fulfill(1, p), api.Update{}, api.Update{Kind: 4}, api.Update{Kind: 257})
	for id := range int64(12) {
		want := api.ErrUpdate
		if id == 3 {
			want = api.OK
		}
		checkNext(t, odd, nil, add(id-1, p), modelNext(odd, nil, add(id-1, p)), "Adds are counted, valid or not")
		checkNext(t, odd, list(add(0, p), add(1, p)), add(id, p), want, "Adds of others don't count")
	}
	for _, wrong := range list(api.Update{Kind: 1}, api.Update{Kind: 1, Amount: 1, Note: "n"}, api.Update{Kind: 1, Amount: -1}, api.Update{Kind: 1, Amount: 1<<60 + 1}, api.Update{Kind: 257, Amount: 1}) {
		checkNext(t, nil, nil, wrong, api.ErrUpdate, "not valid")
	}
	checkNext(t, nil, list(add(0, p)), add(0, p), api.OK, "both sides have their own IDs")
}

func TestNextOfRemovals(t *testing.T) {
	p, q := full(1), full(2)
	both := list(add(0, p), add(1, q))
	for _, x := range []struct {
		mine, others []api.Update
		u            api.Update
		want         api.Errno
	}{
		{nil, nil, fail(0), api.ErrUpdate},
		{nil, nil, fulfill(0, p), api.ErrUpdate},
		{both, nil, fail(0), api.ErrUpdate},
		{both, nil, fulfill(0, p), api.ErrUpdate},
		{nil, list(fail(0), fulfill(0, p), api.Update{Hash: sumOf(p)}, api.Update{Kind: 257, Hash: sumOf(p)}), fail(0), api.ErrUpdate},
		{both, both, fail(0), api.OK},
		{nil, both, fulfill(0, p), api.OK},
		{nil, both, fulfill(1, q), api.OK},
		{nil, both, fulfill(0, q), api.ErrUpdate},
		{nil, both, fulfill(1, p), api.ErrUpdate},
		{nil, both, fulfill(0, sumOf(p)), api.ErrUpdate},
		{nil, both, fulfill(0, api.Hash{}), api.ErrUpdate},
		{nil, both, fail(2), api.ErrUpdate},
		{list(fail(0)), both, fulfill(1, q), api.OK},
		{list(fail(0)), both, fulfill(0, p), api.ErrUpdate},
		{list(fulfill(0, p)), both, fail(0), api.ErrUpdate},
		{list(fulfill(0, p)), both, fulfill(0, p), api.ErrUpdate},
		{list(fulfill(0, q)), both, fulfill(0, p), api.ErrUpdate},
		{list(api.Update{Kind: 3, Amount: 7}), both, fail(0), api.ErrUpdate},
		{list(api.Update{Kind: 4}, api.Update{}, api.Update{Kind: 258}), both, fail(0), api.OK},
		{nil, append(list(fail(0), fulfill(1, q)), both...), fail(0), api.OK},
		{nil, list(add(0, p), add(0, q)), fulfill(0, p), api.OK},
		{nil, list(add(0, p), add(0, q)), fulfill(0, q), api.ErrUpdate},
		{nil, list(api.Update{Kind: 1, Amount: -1, Note: "n", Hash: sumOf(p)}), fulfill(0, p), api.OK},
		{nil, both, api.Update{Kind: 2, Hash: p, Amount: 1}, api.ErrUpdate},
		{nil, both, api.Update{Kind: 3, Hash: p}, api.ErrUpdate},
		{nil, both, api.Update{Kind: 3, Note: strings.Repeat("n", 64)}, api.OK},
		{nil, both, api.Update{Kind: 3, Note: strings.Repeat("n", 65)}, api.ErrUpdate},
		{nil, list(api.Update{Kind: 1, ID: -1, Hash: sumOf(p)}, api.Update{Kind: 1, ID: 2048, Hash: sumOf(p)}), fulfill(-1, p), api.ErrUpdate},
		{nil, list(api.Update{Kind: 1, ID: 2048, Hash: sumOf(p)}), fail(2048), api.ErrUpdate},
		{nil, list(api.Update{Kind: 1, ID: 2047, Hash: sumOf(p)}), fulfill(2047, p), api.OK},
		{nil, list(api.Update{Kind: 1}), fulfill(0, api.Hash{}), api.ErrUpdate},
		{nil, list(add(0, api.Hash{})), fulfill(0, api.Hash{}), api.OK},
	} {
		checkNext(t, x.mine, x.others, x.u, x.want, "a removal")
	}
	for bit := range 256 {
		near := p
		near[bit/8] ^= 1 << (bit % 8)
		checkNext(t, nil, both, fulfill(0, near), api.ErrUpdate, "a preimage with a bit turned")
		near = sumOf(p)
		near[bit/8] ^= 1 << (bit % 8)
		checkNext(t, nil, list(api.Update{Kind: 1, Amount: 1, Hash: near}), fulfill(0, p), api.ErrUpdate, "a hash with a bit turned")
	}
}

func TestNextOfManyOthers(t *testing.T) {
	p := full(1)
	others := make([]api.Update, 100000)
	checkNext(t, nil, others, fail(0), api.ErrUpdate, "no Add among many")
	others[99999] = add(0, p)
	checkNext(t, nil, others, fulfill(0, p), api.OK, "an Add at the end of more than a list may have")
}

func TestNextByChance(t *testing.T) {
	r := rand.New(rand.NewSource(123))
	told := map[api.Errno]int{}
	for range 40000 {
		mine, others, u := listByChance(r, 6, 4), listByChance(r, 6, 4), byChance(r, 4)
		want := modelNext(mine, others, u)
		told[want*10+api.Errno(u.Kind)]++
		checkNext(t, mine, others, u, want, "by chance")
	}
	for _, k := range []api.Errno{1, 2, 3} {
		if told[k] < 100 || told[1200+k] < 100 {
			t.Errorf("P12.1: of kind %d only %d are taken, %d refused", k, told[k], told[1200+k])
		}
	}
}

// grown is two lists that grow by what Next takes, of what is laid before it by chance.
func grown(r *rand.Rand, steps int) [2][]api.Update {
	var l [2][]api.Update
	for range steps {
		side := r.Intn(2)
		others := l[1-side][:r.Intn(len(l[1-side])+1)]
		u := byChance(r, 8)
		switch r.Intn(3) {
		case 0:
			u = add(adds(l[side])+r.Int63n(3)-1, full(byte(r.Intn(3))))
		case 1:
			u.ID = r.Int63n(int64(len(others)) + 1)
		}
		if Next(l[side], others, u) == api.OK {
			l[side] = append(l[side], u)
		}
	}
	return l
}

func TestListsThatGrow(t *testing.T) {
	removed := 0
	for seed := range int64(60) {
		l := grown(rand.New(rand.NewSource(seed)), 600)
		for side := range l {
			removed += checkGrown(t, l[side], l[1-side])
		}
	}
	if removed < 1000 {
		t.Errorf("P12.3: only %d removals in all", removed)
	}
}

// checkGrown holds a list that grew by Next against P12.3, and answers how many removals it has.
func checkGrown(t *testing.T, mine, others []api.Update) int {
	t.Helper()
	next, gone := int64(0), map[int64]bool{}
	for _, u := range mine {
		checkValid(t, u, true)
		if u.Kind == api.Add {
			if u.ID != next {
				t.Errorf("P12.3: the Add behind %d others has the ID %d", next, u.ID)
			}
			next++
			continue
		}
		if gone[u.ID] {
			t.Errorf("P12.3: %d is removed twice", u.ID)
		}
		gone[u.ID] = true
		a, ok := modelFirst(others, u.ID, 1)
		if !ok || u.Kind == api.Fulfill && sumOf(u.Hash) != a.Hash {
			t.Errorf("P12.3: %v removes %v, %v", u, a, ok)
		}
	}
	return len(gone)
}

// spare is a list with room behind it, in which something stands.
func spare(l []api.Update) []api.Update {
	room := append(slices.Clone(l), list(add(77, full(1)), fail(78), api.Update{Kind: -9, Note: "behind"})...)
	return room[:len(l)]
}

func TestListsAreLeftAsTheyWere(t *testing.T) {
	r := rand.New(rand.NewSource(124))
	for range 3000 {
		mine, others, u := spare(listByChance(r, 8, 4)), spare(listByChance(r, 8, 4)), byChance(r, 4)
		mineWas, othersWas := slices.Clone(mine[:cap(mine)]), slices.Clone(others[:cap(others)])
		Next(mine, others, u)
		Find(mine, u.ID)
		Removal(mine, u.ID)
		Find(mine, 77)
		if !slices.Equal(mine[:cap(mine)], mineWas) || !slices.Equal(others[:cap(others)], othersWas) {
			t.Fatalf("P12.1, R3: Next, Find or Removal changed a list of %v, %v at %v", mineWas, othersWas, u)
		}
		if _, ok := Find(mine, 77); ok {
			t.Fatalf("P12.1: Find tells what stands behind the list %v", mine)
		}
		if _, ok := Removal(mine, 78); ok {
			t.Fatalf("P12.1: Removal tells what stands behind the list %v", mine)
		}
		checkNext(t, mine, others, fail(77), api.ErrUpdate, "what stands behind a list is no part of it")
	}
}

// One array as both lists, also parts that lie over one another.
func TestListsThatShareMemory(t *testing.T) {
	p := full(1)
	l := list(add(0, p), fail(0), add(1, p), fulfill(1, p))
	for i := range len(l) + 1 {
		for j := range len(l) + 1 {
			for _, u := range list(add(0, p), add(1, p), add(2, p), fulfill(0, p), fulfill(1, p), fail(0), fail(1), fail(2)) {
				checkNext(t, l[:i], l[:j], u, modelNext(l[:i], l[:j], u), "beginnings of one list")
				checkNext(t, l[i:], l[:j], u, modelNext(l[i:], l[:j], u), "parts of one list")
			}
		}
	}
}

// Nothing is kept: a list that changes between two calls is seen as it is, and what was asked before shows nowhere.
func TestNothingIsKept(t *testing.T) {
	p := full(1)
	others := list(add(0, p))
	checkNext(t, nil, others, fulfill(0, p), api.OK, "ahead of the change")
	others[0] = add(1, p)
	checkNext(t, nil, others, fulfill(0, p), api.ErrUpdate, "behind the change")
	others[0] = add(0, full(2))
	checkNext(t, nil, others, fulfill(0, p), api.ErrUpdate, "another hash")
	others[0] = add(0, p)
	checkNext(t, nil, others, fulfill(0, p), api.OK, "as at first")
	if u, _ := Find(others, 0); u != add(0, p) {
		t.Errorf("P12.1: Find tells %v", u)
	}
	for range 3 {
		checkRead(t, "\x03\x00\x05\x00\x02no", api.Update{Kind: 3, ID: 5, Note: "no"}, 7, api.OK)
		checkRead(t, "\x03\x00\x05\x00\x02n", api.Update{}, 0, api.ErrShort)
		checkWrite(t, fail(5), "\x03\x00\x05\x00\x00", api.OK)
		checkWrite(t, fail(-5), "", api.ErrUpdate)
	}
}

func TestManyAtOnce(t *testing.T) {
	r := rand.New(rand.NewSource(125))
	mine, others := listByChance(r, 30, 6), listByChance(r, 30, 6)
	updates := valid()
	var w sync.WaitGroup
	for lane := range 8 {
		w.Go(func() {
			r := rand.New(rand.NewSource(int64(lane)))
			for range 500 {
				u := byChance(r, 6)
				checkNext(t, mine, others, u, modelNext(mine, others, u), "among others")
				checkFind(t, mine, u.ID)
				u = updates[r.Intn(len(updates))]
				checkWrite(t, u, laid(u), api.OK)
				checkRead(t, laid(u)+"z", u, len(laid(u)), api.OK)
			}
		})
	}
	w.Wait()
}
