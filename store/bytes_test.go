package store

import (
	"fmt"
	"math"
	"math/rand"
	"slices"
	"strings"
	"testing"

	"escrow/api"
	"escrow/check"
)

func short(b string) string { return b[:min(len(b), 120)] }

// writes: Write tells just these bytes, and Read of them what was written.
func writes(t *testing.T, n int64, s api.State, want string) {
	t.Helper()
	if b, e := Write(n, s); b != want || e != api.OK {
		t.Fatalf("P21.1: Write(%d, %s) tells %d bytes, %d: %x, want %d: %x", n, shown(s), len(b), e, short(b), len(want), short(want))
	}
	if m, x, e := Read(want); m != n || !sameState(x, s) || e != api.OK {
		t.Fatalf("P21.4: Read of what Write tells of %d, %s: %d, %s, %d", n, shown(s), m, shown(x), e)
	}
}

func unwritable(t *testing.T, n int64, s api.State) {
	t.Helper()
	if b, e := Write(n, s); b != "" || e != api.ErrStore {
		t.Fatalf("P21.1: Write(%d, %s) tells %d bytes, %d", n, shown(s), len(b), e)
	}
}

// noCheckpoint: Read refuses these bytes.
func noCheckpoint(t *testing.T, b string) {
	t.Helper()
	if n, s, e := Read(b); n != 0 || !sameState(s, api.State{}) || e != api.ErrStore {
		t.Fatalf("P21.1: Read(%x), %d bytes, tells %d, %s, %d", short(b), len(b), n, shown(s), e)
	}
}

// likeModel holds Read against the model, and tells whether there is a checkpoint.
func likeModel(t *testing.T, b string) bool {
	t.Helper()
	n, s, ok := modelRead(b)
	if !ok {
		noCheckpoint(t, b)
		return false
	}
	writes(t, n, s, b)
	return true
}

// each is a number for each byte, so that no two fields look alike.
func each(first byte) api.Hash {
	var h api.Hash
	for i := range h {
		h[i] = first + byte(i)
	}
	return h
}

// full is a state with all fields, no two of the same value.
func full() api.State {
	return api.State{
		Side: 1, Capacity: 0x0102030405060708, BaseOurs: 0x0a0b0c, BasePeers: 0x0d0e,
		Ours:  []api.Update{{Kind: api.Add, ID: 0x0102, Amount: 0x1112, Hash: each(1)}, {Kind: api.Fail, ID: 5, Note: "no"}},
		Peers: []api.Update{{Kind: api.Fulfill, ID: 0x0203, Hash: each(2)}},
		Local: 0x212223242526, Remote: 0x3132, Acked: 0x41,
		At: api.Counts{Ours: 0x0101, Peers: 0x0202}, Signed: api.Counts{Ours: 0x0303, Peers: 0x0404}, Held: api.Counts{Ours: 0x0505, Peers: 0x0606},
		Behind: true, Points: [2]api.Hash{each(50), each(60)}, Sig: each(70),
		Shelf:  []api.Slot{{Full: true, Index: 0x5152, Secret: each(80)}, {}, {Index: 7, Secret: each(90)}},
		Failed: 0x0a0b0c, Closed: 0x6162,
	}
}

// P21.1: every byte stands where the chapter's table says.
func TestLayout(t *testing.T) {
	text := func(h api.Hash) string { return string(h[:]) }
	want := strings.Join([]string{
		"\x00\x00\x00\x00\x00\x00\x07\x08", "\x01",
		"\x01\x02\x03\x04\x05\x06\x07\x08", "\x00\x00\x00\x00\x00\x0a\x0b\x0c", "\x00\x00\x00\x00\x00\x00\x0d\x0e",
		"\x00\x02", "\x01\x01\x02\x00\x00\x00\x00\x00\x00\x11\x12", text(each(1)), "\x03\x00\x05\x00\x02no",
		"\x00\x01", "\x02\x02\x03", text(each(2)),
		"\x00\x00\x21\x22\x23\x24\x25\x26", "\x00\x00\x00\x00\x00\x00\x31\x32", "\x00\x00\x00\x00\x00\x00\x00\x41",
		"\x01\x01\x02\x02\x03\x03\x04\x04\x05\x05\x06\x06", "\x01",
		text(each(50)), text(each(60)), text(each(70)),
		"\x03", "\x01\x00\x00\x00\x00\x00\x00\x51\x52", text(each(80)), strings.Repeat("\x00", 41), "\x00\x00\x00\x00\x00\x00\x00\x00\x07", text(each(90)),
		"\x00\x0a\x0b\x0c", "\x00\x00\x00\x00\x00\x00\x61\x62",
	}, "")
	writes(t, 0x0708, full(), want)
	zeros := strings.Repeat("\x00", 183)
	writes(t, 0, api.State{}, zeros)
	writes(t, 0, api.State{Ours: []api.Update{}, Peers: []api.Update{}, Shelf: []api.Slot{}}, zeros)
	writes(t, 0, api.State{Closed: -1}, zeros[:175]+"\xff\xff\xff\xff\xff\xff\xff\xff")
}

// bounds is one field with its least and its greatest number.
type bounds struct {
	name        string
	set         func(n *int64, s *api.State, to int64)
	least, most int64
}

func allBounds() []bounds {
	count := func(name string, at func(s *api.State) *int) bounds {
		return bounds{name, func(n *int64, s *api.State, to int64) { *at(s) = int(to) }, 0, 2048}
	}
	field := func(name string, least, most int64, at func(s *api.State) *int64) bounds {
		return bounds{name, func(n *int64, s *api.State, to int64) { *at(s) = to }, least, most}
	}
	return []bounds{
		{"n", func(n *int64, s *api.State, to int64) { *n = to }, 0, 1 << 60},
		{"Side", func(n *int64, s *api.State, to int64) { s.Side = int(to) }, 0, 1},
		field("Capacity", 0, maxAmount, func(s *api.State) *int64 { return &s.Capacity }),
		field("BaseOurs", 0, maxAmount, func(s *api.State) *int64 { return &s.BaseOurs }),
		field("BasePeers", 0, maxAmount, func(s *api.State) *int64 { return &s.BasePeers }),
		field("Local", 0, maxIndex, func(s *api.State) *int64 { return &s.Local }),
		field("Remote", 0, maxIndex, func(s *api.State) *int64 { return &s.Remote }),
		field("Acked", 0, maxIndex, func(s *api.State) *int64 { return &s.Acked }),
		count("At.Ours", func(s *api.State) *int { return &s.At.Ours }),
		count("At.Peers", func(s *api.State) *int { return &s.At.Peers }),
		count("Signed.Ours", func(s *api.State) *int { return &s.Signed.Ours }),
		count("Signed.Peers", func(s *api.State) *int { return &s.Signed.Peers }),
		count("Held.Ours", func(s *api.State) *int { return &s.Held.Ours }),
		count("Held.Peers", func(s *api.State) *int { return &s.Held.Peers }),
		field("the first slot's Index", 0, maxIndex, func(s *api.State) *int64 { return &s.Shelf[0].Index }),
		field("an empty slot's Index", 0, maxIndex, func(s *api.State) *int64 { return &s.Shelf[1].Index }),
		{"Failed", func(n *int64, s *api.State, to int64) { s.Failed = int(to) }, 0, 1000000},
		field("Closed", -1, maxIndex, func(s *api.State) *int64 { return &s.Closed }),
	}
}

// P21.1: each number is taken from its least to its greatest, and none beyond: not those either whose bytes are the same in the width that they have.
func TestBoundsOfNumbers(t *testing.T) {
	for _, b := range allBounds() {
		for _, to := range []int64{b.least, b.least + 1, b.most - 1, b.most} {
			n, s := int64(9), full()
			b.set(&n, &s, to)
			want, ok := modelWrite(n, s)
			if !ok {
				t.Fatalf("the model refuses %s %d", b.name, to)
			}
			writes(t, n, s, want)
		}
		for _, to := range []int64{math.MinInt64, -1 << 32, -1 << 16, -256, b.least - 1, b.most + 1, b.most + 256, b.most + 1<<16, b.most + 1<<32, math.MaxInt64} {
			n, s := int64(9), full()
			b.set(&n, &s, to)
			unwritable(t, n, s)
		}
	}
}

// P21.1: the lists have at most their number, of valid updates alone.
func TestBoundsOfLists(t *testing.T) {
	for _, size := range []int{0, 1, 255, 256, 2047, 2048, 2049, 4096, 65536, 65537} {
		l := make([]api.Update, size)
		for i := range l {
			l[i] = failOf(int64(i%2048), "x")
		}
		for _, s := range []api.State{{Ours: l}, {Peers: l}, {Ours: l, Peers: l}} {
			if size > 2048 {
				unwritable(t, 1, s)
				continue
			}
			want, _ := modelWrite(1, s)
			writes(t, 1, s, want)
		}
	}
	for _, size := range []int{0, 1, 48, 49, 50, 255, 256, 257, 305} {
		s := api.State{Shelf: make([]api.Slot, size)}
		if size > 49 {
			unwritable(t, 1, s)
			continue
		}
		want, _ := modelWrite(1, s)
		writes(t, 1, s, want)
	}
}

func TestUpdatesThatAreNotValid(t *testing.T) {
	valid := []api.Update{addOf(1, 1), addOf(2047, maxAmount), {Kind: api.Fulfill}, failOf(0, ""), failOf(9, strings.Repeat("n", 64))}
	odd := []api.Update{
		{}, {Kind: 4}, {Kind: -1}, {Kind: 257, Amount: 1}, addOf(-1, 1), addOf(2048, 1), addOf(65537, 1), addOf(0, 0), addOf(0, -1), addOf(0, maxAmount+1), {Kind: api.Add, Amount: 1, Note: "n"},
		{Kind: api.Fulfill, Amount: 1}, {Kind: api.Fulfill, Note: "n"}, {Kind: api.Fail, Amount: 1}, {Kind: api.Fail, Hash: each(1)}, failOf(0, strings.Repeat("n", 65)), failOf(0, strings.Repeat("n", 65536)),
	}
	want, _ := modelWrite(1, api.State{Ours: valid, Peers: valid})
	writes(t, 1, api.State{Ours: valid, Peers: valid}, want)
	for _, u := range odd {
		for at := range len(valid) + 1 {
			l := slices.Insert(slices.Clone(valid), at, u)
			unwritable(t, 1, api.State{Ours: l})
			unwritable(t, 1, api.State{Peers: l})
		}
	}
}

// P21.4: there and back, of all that can be written.
func TestThereAndBack(t *testing.T) {
	r := rand.New(rand.NewSource(211))
	for range 5000 {
		n, s := writableByChance(r)
		want, ok := modelWrite(n, s)
		if !ok {
			t.Fatalf("the model refuses %d, %s", n, shown(s))
		}
		writes(t, n, s, want)
	}
}

// P21.4: a beginning of a checkpoint is none, nor is one with something behind it.
func TestCutShortAndLonger(t *testing.T) {
	r := rand.New(rand.NewSource(212))
	for range 30 {
		n, s := writableByChance(r)
		b, _ := Write(n, s)
		for end := range len(b) {
			noCheckpoint(t, b[:end])
		}
		for _, more := range []string{"\x00", "\x01", "x", b, strings.Repeat("\x00", 64)} {
			noCheckpoint(t, b+more)
		}
	}
	noCheckpoint(t, "\x00"+strings.Repeat("\x00", 183))
	noCheckpoint(t, strings.Repeat("\xff", 1000))
	noCheckpoint(t, strings.Repeat("\x00", 1<<20))
}

// P21.4: one form. With any byte changed it is another checkpoint, or none.
func TestChangedBytes(t *testing.T) {
	r := rand.New(rand.NewSource(213))
	taken, refused := 0, 0
	look := func(b []byte) {
		if likeModel(t, string(b)) {
			taken++
		} else {
			refused++
		}
	}
	b, _ := Write(0x0708, full())
	for i := range len(b) {
		for to := range 256 {
			odd := []byte(b)
			odd[i] = byte(to)
			look(odd)
		}
	}
	for range 20000 {
		n, s := writableByChance(r)
		b, _ := Write(n, s)
		odd := []byte(b)
		for range 1 + r.Intn(3) {
			switch at := r.Intn(len(odd)); r.Intn(6) {
			case 0:
				odd = slices.Insert(odd, at, byte(r.Intn(3)))
			case 1:
				odd = slices.Delete(odd, at, at+1)
			default:
				odd[at] ^= 1 << r.Intn(8)
			}
		}
		look(odd)
	}
	if taken < 5000 || refused < 5000 {
		t.Errorf("%d were checkpoints, %d weren't", taken, refused)
	}
}

// P21.1: counts of lists that are longer than what stands there, or than may be.
func TestCountsThatLie(t *testing.T) {
	zeros := strings.Repeat("\x00", 183)
	for _, n := range []int{1, 2, 255, 256, 2048, 2049, 65535} {
		two := wide(int64(n), 2)
		for _, rest := range []string{"", "\x01", zeros, strings.Repeat("\x03\x00\x00\x00\x00", 70000)} {
			noCheckpoint(t, zeros[:33]+two+rest)
			noCheckpoint(t, zeros[:35]+two+rest)
		}
	}
	for n := 1; n < 256; n++ {
		slots := zeros[:170] + string([]byte{byte(n)}) + strings.Repeat("\x00", 41*n)
		if got := likeModel(t, slots+"\x00\x00\x00\x00"+zeros[:8]); got != (n <= 49) {
			t.Fatalf("P21.1: Read of %d slots: %v", n, got)
		}
		noCheckpoint(t, slots)
	}
	for n := 2; n < 256; n++ {
		noCheckpoint(t, zeros[:73]+string([]byte{byte(n)})+zeros[74:])
		noCheckpoint(t, zeros[:170]+"\x01"+string([]byte{byte(n)})+strings.Repeat("\x00", 52))
	}
}

// P21.1: the greatest of all can be saved.
func TestTheGreatest(t *testing.T) {
	s := full()
	s.Ours, s.Peers, s.Shelf = nil, nil, make([]api.Slot, 49)
	for i := range 2048 {
		s.Ours = append(s.Ours, failOf(2047-int64(i), strings.Repeat("a", 64)))
		s.Peers = append(s.Peers, failOf(int64(i), fmt.Sprintf("%064d", i)))
	}
	want, _ := modelWrite(1<<60, s)
	writes(t, 1<<60, s, want)
	if len(want) != 183+2*2048*69+49*41 {
		t.Errorf("the greatest has %d bytes", len(want))
	}
	d := made(t, 1<<20)
	is(t, "Save", check.Save(d, "check", want), api.OK)
	fails(t, "P21.1: another side's", d, config(), api.ErrStore)
}
