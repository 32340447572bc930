package commit

import (
	"encoding/binary"
	"math"
	"math/big"
	"math/rand"
	"slices"
	"strings"
	"testing"

	"escrow/api"
	"escrow/hash"
	"escrow/ledger"
	"escrow/update"
)

func brief(s string) string { return s[:min(len(s), 120)] }

// few is a ledger as a message tells it.
func few(l api.Ledger) api.Ledger { return ledgerOf(l.Ours, l.Peers, l.Open[:min(len(l.Open), 6)]...) }

func checkText(t *testing.T, c commitment, want string, errno api.Errno) {
	t.Helper()
	if got, e := c.text(); got != want || e != errno {
		t.Errorf("P14.1: Text(%d, %d, %x, %v with %d open) tells %x, %d, want %x, %d", c.owner, c.index, c.point, few(c.l), len(c.l.Open), brief(got), e, brief(want), errno)
	}
}

// checkTextLikeModel holds Text against the model, and answers what both tell.
func checkTextLikeModel(t *testing.T, c commitment) (string, api.Errno) {
	t.Helper()
	want, errno := modelText(c)
	checkText(t, c, want, errno)
	return want, errno
}

func checkRead(t *testing.T, b string, want commitment, errno api.Errno) {
	t.Helper()
	var got commitment
	var e api.Errno
	got.owner, got.index, got.point, got.l, e = Read(b)
	if !sameCommitment(got, want) || e != errno {
		t.Errorf("P14.1, P14.2: Read(%d bytes, %x) tells %v, %d, want %v, %d", len(b), brief(b), got, e, want, errno)
	}
}

func checkNone(t *testing.T, b string) {
	t.Helper()
	checkRead(t, b, commitment{}, api.ErrForm)
}

func checkReadLikeModel(t *testing.T, b string) api.Errno {
	t.Helper()
	c, e := modelRead(b)
	checkRead(t, b, c, e)
	return e
}

// checkSound holds Text of a ledger, for one owner and index that are right.
func checkSound(t *testing.T, l api.Ledger, want bool, why string) {
	t.Helper()
	c := commitment{1, 5, full(7), l}
	b, e := c.text()
	if want && (e != api.OK || b != laid(c)) {
		t.Errorf("P14.1: Text of %v with %d open tells %d, want its text: %s", few(l), len(l.Open), e, why)
	}
	if !want && (e != api.ErrForm || b != "") {
		t.Errorf("P14.1: Text of %v with %d open tells %x, %d, want ErrForm: %s", few(l), len(l.Open), brief(b), e, why)
	}
	if modelSound(l) != want {
		t.Errorf("P14.1: the model says otherwise of %v: %s", few(l), why)
	}
	if want {
		checkRead(t, laid(c), c, api.OK)
		return
	}
	if len(l.Open) <= 65535 {
		checkNone(t, laid(c))
	}
}

func checkTurn(t *testing.T, l, want api.Ledger) {
	t.Helper()
	if got := Turn(l); !same(got, want) {
		t.Errorf("P14.1, P14.3: Turn(%v with %d open) tells %v with %d, want %v with %d", few(l), len(l.Open), few(got), len(got.Open), few(want), len(want.Open))
	}
}

func exampleText() string {
	return "\x01\x00\x00\x00\x00\x00\x00\x00\x05" + strings.Repeat("\x07", 32) + "\x00\x00\x00\x00\x00\x00\x00\x0a\x00\x00\x00\x00\x00\x00\x00\x14\x00\x00"
}

func exampleWithOpen() string {
	return exampleText()[:57] + "\x00\x01\x01\x00\x00\x00\x00\x00\x00\x00\x03\x00\x00\x00\x00\x00\x00\x00\x09" + strings.Repeat("\x07", 32)
}

func TestExamplesOfText(t *testing.T) {
	h := full(7)
	none, one := commitment{1, 5, h, ledgerOf(10, 20)}, commitment{1, 5, h, ledgerOf(10, 20, open(true, 3, 9))}
	checkText(t, none, exampleText(), api.OK)
	checkText(t, one, exampleWithOpen(), api.OK)
	if len(exampleText()) != 59 || len(exampleWithOpen()) != 108 {
		t.Errorf("P14.1: the examples have %d and %d bytes", len(exampleText()), len(exampleWithOpen()))
	}
	for _, c := range []commitment{{owner: 2}, {index: -1}, {index: 1 << 48}} {
		checkText(t, c, "", api.ErrArg)
	}
	for _, l := range []api.Ledger{ledgerOf(-1, 0), ledgerOf(0, 1<<60+1), ledgerOf(0, 0, open(true, 0, 0)), ledgerOf(0, 0, open(true, -1, 1)), ledgerOf(0, 0, open(false, 0, 1), open(true, 0, 1)), ledgerOf(0, 0, open(true, 3, 1), open(true, 3, 1)), ledgerOf(0, 0, many(true, 484)...)} {
		checkText(t, commitment{l: l}, "", api.ErrForm)
	}
	checkSound(t, ledgerOf(0, 0, open(true, 3, 1), open(false, 0, 1)), true, "example 2")
}

func TestExamplesOfRead(t *testing.T) {
	for _, b := range []string{exampleText(), exampleWithOpen()} {
		want := commitment{1, 5, full(7), ledgerOf(10, 20)}
		if b == exampleWithOpen() {
			want.l.Open = []api.Pending{open(true, 3, 9)}
			checkNone(t, b[:59]+"\x02"+b[60:])
		}
		checkRead(t, b, want, api.OK)
		checkNone(t, b+"\x00")
		checkNone(t, b+"\x01")
		checkNone(t, b[:len(b)-1])
		checkNone(t, "\x02"+b[1:])
	}
	checkNone(t, "")
}

func TestExamplesOfTurn(t *testing.T) {
	l := ledgerOf(10, 20, open(true, 3, 9), open(false, 1, 4))
	checkTurn(t, l, ledgerOf(20, 10, open(true, 1, 4), open(false, 3, 9)))
	checkTurn(t, Turn(l), l)
	checkTurn(t, ledgerOf(1, 2), ledgerOf(2, 1))
	checkTurn(t, api.Ledger{Ours: 1, Peers: 2, Open: []api.Pending{}}, ledgerOf(2, 1))
}

// Every owner with every index, over a ledger that is sound and ones that are not: ErrArg goes ahead of ErrForm.
func TestOwnersAndIndexes(t *testing.T) {
	owners := []int{math.MinInt, -256, -255, -2, -1, 0, 1, 2, 3, 255, 256, 257, 1 << 32, 1<<32 + 1, math.MaxInt}
	unsound := []api.Ledger{ledgerOf(-1, 0), ledgerOf(0, 1<<60+1), ledgerOf(0, 0, open(true, 0, 0)), ledgerOf(0, 0, many(false, 484)...)}
	right := 0
	for _, owner := range owners {
		for _, index := range numbers() {
			c := commitment{owner, index, full(9), ledgerOf(3, 4, open(false, 2, 1))}
			fits := (owner == 0 || owner == 1) && 0 <= index && index <= api.MaxIndex
			want, bad := api.ErrArg, api.ErrArg
			if fits {
				right++
				want, bad = api.OK, api.ErrForm
			}
			if _, e := checkTextLikeModel(t, c); e != want {
				t.Errorf("P14.1: the model tells %d of owner %d, index %d", e, owner, index)
			}
			checkReadLikeModel(t, laid(c))
			for _, l := range unsound {
				checkText(t, commitment{owner, index, full(9), l}, "", bad)
			}
		}
	}
	if right != 2*16 {
		t.Errorf("P14.1: %d owners and indexes are right", right)
	}
}

func TestBalances(t *testing.T) {
	for _, a := range numbers() {
		for _, b := range numbers() {
			fits := 0 <= a && a <= api.MaxAmount && 0 <= b && b <= api.MaxAmount
			checkSound(t, ledgerOf(a, b), fits, "balances")
			checkSound(t, ledgerOf(a, b, open(true, 0, 1<<60), open(false, 0, 1<<60)), fits, "their sum is not asked")
		}
	}
}

// Each number as an ID and as an Amount, of an add of each side, first, in the midst and last.
func TestNumbersOfOpenAdds(t *testing.T) {
	for _, n := range numbers() {
		for i := range 6 {
			l := ledgerOf(1, 2, open(true, 4, 1), open(true, 5, 1), open(true, 6, 1), open(false, 4, 1), open(false, 5, 1), open(false, 6, 1))
			l.Open[i].Amount = n
			checkSound(t, l, 1 <= n && n <= api.MaxAmount, "an amount")
		}
		checkSound(t, ledgerOf(1, 2, open(true, n, 1)), n >= 0, "the ID of one of ours")
		checkSound(t, ledgerOf(1, 2, open(false, n, 1)), n >= 0, "the ID of one of the other side's")
		checkSound(t, ledgerOf(1, 2, open(true, 0, 1), open(true, n, 1)), n > 0, "an ID behind 0")
		checkSound(t, ledgerOf(1, 2, open(false, 0, 1), open(false, n, 1)), n > 0, "an ID behind 0")
		checkSound(t, ledgerOf(1, 2, open(true, math.MaxInt64, 1), open(false, n, 1)), n >= 0, "an ID behind one of ours")
		checkSound(t, ledgerOf(1, 2, open(true, n, 1), open(true, math.MaxInt64, 1)), 0 <= n && n < math.MaxInt64, "an ID ahead of the greatest")
	}
	// Far apart: a difference of them would wrap.
	checkSound(t, ledgerOf(1, 2, open(true, math.MaxInt64, 1), open(true, math.MinInt64, 1)), false, "the ends")
	checkSound(t, ledgerOf(1, 2, open(true, math.MinInt64, 1), open(true, math.MaxInt64, 1)), false, "the ends")
}

func TestOrderOfOpenAdds(t *testing.T) {
	o, p := func(id int64) api.Pending { return open(true, id, 1) }, func(id int64) api.Pending { return open(false, id, 1) }
	for _, x := range []struct {
		l    []api.Pending
		want bool
	}{
		{nil, true}, {[]api.Pending{}, true},
		{[]api.Pending{o(1), o(2), o(9)}, true}, {[]api.Pending{p(1), p(2), p(9)}, true},
		{[]api.Pending{o(1), o(1)}, false}, {[]api.Pending{p(1), p(1)}, false},
		{[]api.Pending{o(2), o(1)}, false}, {[]api.Pending{p(2), p(1)}, false},
		{[]api.Pending{o(1), o(2), o(2)}, false}, {[]api.Pending{p(1), p(2), p(2)}, false},
		{[]api.Pending{o(1), o(3), o(2)}, false}, {[]api.Pending{p(1), p(3), p(2)}, false},
		{[]api.Pending{o(1), p(1)}, true}, {[]api.Pending{o(9), p(0)}, true}, {[]api.Pending{o(0), p(9)}, true},
		{[]api.Pending{p(1), o(1)}, false}, {[]api.Pending{p(0), o(1)}, false}, {[]api.Pending{p(1), o(0)}, false},
		{[]api.Pending{o(0), p(1), o(2)}, false}, {[]api.Pending{o(0), p(0), o(1), p(1)}, false},
		{[]api.Pending{o(0), o(1), p(0), p(1)}, true}, {[]api.Pending{o(5), o(6), p(5), p(6)}, true},
		{[]api.Pending{o(0), p(0), p(0)}, false}, {[]api.Pending{o(0), o(0), p(0)}, false},
	} {
		checkSound(t, ledgerOf(1, 1, x.l...), x.want, "order")
	}
	// Unlike amounts and hashes make two alike IDs no less alike.
	q := api.Pending{Ours: true, ID: 1, Amount: 77, Hash: full(1)}
	checkSound(t, ledgerOf(1, 1, o(1), q), false, "alike IDs")
	checkSound(t, ledgerOf(1, 1, q, o(1)), false, "alike IDs")
	checkSound(t, ledgerOf(1, 1, o(0), q, open(true, 2, 77)), true, "alike amounts and hashes")
}

// Every list of at most five of six adds.
func TestEveryShortList(t *testing.T) {
	six := both(3, 3)
	lists := [][]api.Pending{nil}
	right := 0
	for from := 0; from < len(lists); from++ {
		l := lists[from]
		for _, p := range six {
			if len(l) < 5 {
				lists = append(lists, append(slices.Clone(l), p))
			}
		}
		c := commitment{0, 1, full(1), ledgerOf(5, 6, l...)}
		if _, e := checkTextLikeModel(t, c); e == api.OK {
			right++
		}
		checkReadLikeModel(t, laid(c))
		turned := modelTurn(c.l)
		checkTurn(t, c.l, turned)
	}
	// All but one of the 64 sets of six, each in one order: the whole one is too long here.
	if right != 63 || len(lists) != 1+6+36+216+1296+7776 {
		t.Errorf("P14.1: %d of %d lists are sound", right, len(lists))
	}
}

func TestNumberOfOpenAdds(t *testing.T) {
	for _, a := range []int{0, 1, 2, 255, 256, 482, 483, 484, 485, 966, 967} {
		for _, b := range []int{0, 1, 2, 255, 256, 482, 483, 484, 485, 966, 967} {
			checkSound(t, ledgerOf(1, 1, both(a, b)...), a <= 483 && b <= 483, "how many")
		}
	}
	if b, _ := Text(0, 0, api.Hash{}, ledgerOf(0, 0, both(483, 483)...)); len(b) != 59+966*49 {
		t.Errorf("P14.1: the longest text has %d bytes", len(b))
	}
	// So many that their number, cut to two bytes, would be one that is right.
	for _, n := range []int{65535, 65536, 65537, 65536 + 483, 1 << 20} {
		for _, ours := range []bool{false, true} {
			checkSound(t, ledgerOf(1, 1, many(ours, n)...), false, "far too many")
		}
		checkSound(t, ledgerOf(1, 1, both(n/2, n-n/2)...), false, "far too many")
	}
}

// The point and the hashes may be any.
func TestHashes(t *testing.T) {
	var counted api.Hash
	for i := range counted {
		counted[i] = byte(i + 1)
	}
	all := []api.Hash{{}, full(1), full(127), counted, api.Hash([]byte(strings.Repeat("\xff", 32)))}
	for _, a := range all {
		for _, b := range all {
			p, q := open(true, 1, 2), open(false, 1, 2)
			p.Hash, q.Hash = b, a
			c := commitment{0, 3, a, ledgerOf(1, 2, p, q)}
			checkText(t, c, laid(c), api.OK)
			checkRead(t, laid(c), c, api.OK)
		}
	}
}

// texts is some commitments, short and long, with edges in all fields.
func texts() []commitment {
	r := rand.New(rand.NewSource(141))
	l := []commitment{
		{}, {1, api.MaxIndex, full(7), ledgerOf(1<<60, 1<<60)},
		{1, 5, full(7), ledgerOf(10, 20, open(true, 3, 9))},
		{0, 258, full(8), ledgerOf(0, 1<<60, open(false, math.MaxInt64, 1<<60))},
		{1, 1 << 40, full(1), ledgerOf(1<<60-1, 255, open(true, 0, 1), open(true, 1, 256), open(false, 0, 1<<60), open(false, 1<<40, 65535))},
	}
	for range 5 {
		l = append(l, commitmentByChance(r))
	}
	return l
}

// Every byte turned to every other: what is read is what the model says, and is told again by Text.
func TestEachByteTurned(t *testing.T) {
	for _, c := range texts() {
		b := laid(c)
		for i := range b {
			for v := range 256 {
				s := b[:i] + string([]byte{byte(v)}) + b[i+1:]
				if checkReadLikeModel(t, s) == api.OK {
					checkTextOfRead(t, s)
				}
			}
		}
	}
}

// checkTextOfRead holds the second half of P14.2: Text of what is read is the bytes.
func checkTextOfRead(t *testing.T, b string) {
	t.Helper()
	var c commitment
	var e api.Errno
	if c.owner, c.index, c.point, c.l, e = Read(b); e != api.OK {
		return
	}
	if again, e := c.text(); again != b || e != api.OK {
		t.Errorf("P14.2: Text of Read of %x tells %x, %d", brief(b), brief(again), e)
	}
}

func TestCutShortAndBehind(t *testing.T) {
	for _, c := range append(texts(), commitment{l: ledgerOf(0, 0, both(40, 40)...)}) {
		b := laid(c)
		checkRead(t, b, c, api.OK)
		for k := range len(b) {
			checkNone(t, b[:k])
			checkNone(t, b[:k]+b[k+1:])
			checkNone(t, b[k+1:])
		}
		for _, behind := range []string{"\x00", "\x01", "\xff", strings.Repeat("\x00", 49), strings.Repeat("\x00", 59), laid(commitment{}), b} {
			checkNone(t, b+behind)
			checkNone(t, behind+b)
		}
	}
}

// numbered is a text with another number of open adds in it.
func numbered(b string, n int) string {
	return b[:57] + string(binary.BigEndian.AppendUint16(nil, uint16(n))) + b[59:]
}

// Every number where that of the open adds stands; over the longest text, those around it and some of the others.
func TestNumberThatIsNotThere(t *testing.T) {
	for _, open := range [][]api.Pending{nil, both(1, 0), both(1, 1), both(3, 4), both(483, 483)} {
		c := commitment{1, 5, full(7), ledgerOf(10, 20, open...)}
		b := laid(c)
		for n := range 65536 {
			if n == len(open) {
				checkRead(t, numbered(b, n), c, api.OK)
			} else if len(open) < 10 || max(n-970, 960-n) < 0 || n%251 == 0 || n == 65535 {
				checkNone(t, numbered(b, n))
			}
		}
	}
}

// Adds that stand there and are one too many of a side, or of both, with their number right.
func TestTooManyInAText(t *testing.T) {
	for _, x := range [][2]int{{484, 0}, {0, 484}, {484, 482}, {482, 484}, {484, 484}, {966, 0}, {0, 966}, {1337, 0}} {
		checkNone(t, laid(commitment{1, 5, full(7), ledgerOf(10, 20, both(x[0], x[1])...)}))
	}
}

// The first bit of each number set: what would be below 0 is no text.
func TestFirstBits(t *testing.T) {
	c := commitment{1, 5, full(7), ledgerOf(10, 20, open(true, 3, 9), open(false, 4, 8))}
	b := laid(c)
	for _, place := range []int{1, 41, 49, 57, 60, 68, 109, 117} {
		for bit := range 8 {
			s := []byte(b)
			s[place] ^= 1 << bit
			if bit == 7 {
				checkNone(t, string(s))
			}
			checkReadLikeModel(t, string(s))
		}
	}
	if checkRead(t, b, c, api.OK); b[60:68] != "\x00\x00\x00\x00\x00\x00\x00\x03" || b[117:125] != "\x00\x00\x00\x00\x00\x00\x00\x08" {
		t.Errorf("P14.1: the numbers stand elsewhere")
	}
}

// Every byte that tells whose an add is: 0 and 1 alone are such.
func TestByteOfOurs(t *testing.T) {
	b := laid(commitment{1, 5, full(7), ledgerOf(10, 20, open(true, 3, 9), open(false, 4, 8))})
	for v := range 256 {
		first, second := b[:59]+string([]byte{byte(v)})+b[60:], b[:108]+string([]byte{byte(v)})+b[109:]
		for _, s := range []string{first, second} {
			if e := checkReadLikeModel(t, s); (e == api.OK) != (v < 2) {
				t.Errorf("P14.1: the byte %d tells %d", v, e)
			}
		}
	}
}

func TestTextsByChance(t *testing.T) {
	r := rand.New(rand.NewSource(142))
	sound := 0
	for range 30000 {
		c := commitmentByChance(r)
		switch r.Intn(4) {
		case 0:
			c.l = bentByChance(r)
		case 1:
			c.l = oddByChance(r)
		}
		if _, e := checkTextLikeModel(t, c); e == api.OK {
			sound++
			checkRead(t, laid(c), c, api.OK)
			checkTextOfRead(t, laid(c))
		} else {
			checkNone(t, laid(c))
		}
	}
	if sound < 15000 || sound > 25000 {
		t.Errorf("P14.1: %d of the ledgers were sound", sound)
	}
}

func TestBytesByChance(t *testing.T) {
	r := rand.New(rand.NewSource(143))
	for range 30000 {
		b := []byte(laid(commitmentByChance(r)))
		for range 1 + r.Intn(3) {
			switch i := r.Intn(len(b)); r.Intn(4) {
			case 0:
				b[i] = byte(r.Intn(256))
			case 1:
				b[i] ^= 1 << r.Intn(8)
			case 2:
				b = slices.Insert(b, i, byte(r.Intn(3)))
			case 3:
				b = slices.Delete(b, i, min(len(b), i+1+r.Intn(2)*48))
			}
			if len(b) == 0 {
				break
			}
		}
		checkReadLikeModel(t, string(b))
		checkTextOfRead(t, string(b))
	}
	for n := range 400 {
		noise := make([]byte, n)
		r.Read(noise)
		checkReadLikeModel(t, string(noise))
		checkNone(t, strings.Repeat("\xff", n))
		if n != 59 {
			checkNone(t, strings.Repeat("\x00", n))
		}
	}
	checkRead(t, strings.Repeat("\x00", 59), commitment{}, api.OK)
}

// neighbours is commitments that differ from one in a single field.
func neighbours(c commitment) []commitment {
	var l []commitment
	with := func(change func(d *commitment)) {
		d := c
		d.l.Open = slices.Clone(c.l.Open)
		change(&d)
		l = append(l, d)
	}
	with(func(d *commitment) { d.owner = 1 - d.owner })
	with(func(d *commitment) { d.index ^= 1 })
	with(func(d *commitment) { d.index ^= 1 << 47 })
	for i := range 32 {
		with(func(d *commitment) { d.point[i] ^= 1 })
	}
	with(func(d *commitment) { d.l.Ours ^= 1 })
	with(func(d *commitment) { d.l.Peers ^= 1 })
	with(func(d *commitment) { d.l.Ours, d.l.Peers = d.l.Peers, d.l.Ours })
	for k := range c.l.Open {
		with(func(d *commitment) { d.l.Open[k].Ours = !d.l.Open[k].Ours })
		with(func(d *commitment) { d.l.Open[k].ID += 1 << 52 })
		with(func(d *commitment) { d.l.Open[k].Amount ^= 1 << 20 })
		with(func(d *commitment) { d.l.Open[k].Hash[k%32] ^= 128 })
		with(func(d *commitment) { d.l.Open = slices.Delete(d.l.Open, k, k+1) })
	}
	return l
}

// Two unlike commitments have unlike texts.
func TestUnlikeCommitments(t *testing.T) {
	seen := map[string]commitment{}
	note := func(c commitment) {
		b, e := c.text()
		if e != api.OK {
			return
		}
		if d, ok := seen[b]; ok && !sameCommitment(c, d) {
			t.Errorf("P14.2: %v and %v have one text", c, d)
		}
		seen[b] = c
	}
	for _, c := range texts() {
		note(c)
		for _, d := range neighbours(c) {
			note(d)
		}
	}
	if len(seen) < 400 {
		t.Errorf("P14.2: %d texts were seen", len(seen))
	}
}

// total is all amounts of a ledger together.
func total(l api.Ledger) *big.Int {
	n := new(big.Int).Add(big.NewInt(l.Ours), big.NewInt(l.Peers))
	for _, p := range l.Open {
		n.Add(n, big.NewInt(p.Amount))
	}
	return n
}

// checkTwoSides holds P14.3 of a ledger, and Turn against the model.
func checkTwoSides(t *testing.T, l api.Ledger) {
	t.Helper()
	turned := Turn(l)
	checkTurn(t, l, modelTurn(l))
	if total(turned).Cmp(total(l)) != 0 {
		t.Errorf("P14.3: all amounts of %v are %d, turned %d", few(l), total(l), total(turned))
	}
	first := slices.Equal(append(of(l.Open, true), of(l.Open, false)...), l.Open)
	if again := Turn(turned); first != same(again, l) {
		t.Errorf("P14.3: Turn of Turn of %v is %v", few(l), few(again))
	}
	_, e := Text(0, 0, api.Hash{}, l)
	if _, f := Text(1, 0, api.Hash{}, turned); e == api.OK && f != api.OK {
		t.Errorf("P14.3: %v is sound, turned it is not: %v", few(l), few(turned))
	}
}

func TestTurnByChance(t *testing.T) {
	r := rand.New(rand.NewSource(144))
	for range 20000 {
		checkTwoSides(t, soundByChance(r))
		checkTwoSides(t, bentByChance(r))
		checkTwoSides(t, oddByChance(r))
	}
}

func TestTurnOfEdges(t *testing.T) {
	for _, a := range numbers() {
		for _, b := range numbers() {
			checkTurn(t, ledgerOf(a, b), ledgerOf(b, a))
			checkTurn(t, ledgerOf(a, b, open(true, a, b), open(true, b, a)), ledgerOf(b, a, open(false, a, b), open(false, b, a)))
		}
	}
	for _, x := range [][2]int{{0, 0}, {1, 0}, {0, 1}, {483, 0}, {0, 483}, {483, 483}, {484, 483}, {5000, 7000}} {
		checkTwoSides(t, ledgerOf(1, 2, both(x[0], x[1])...))
	}
	// Both kinds mixed, the same IDs twice: the order within a kind stays, whatever the IDs are.
	mixed := ledgerOf(-1, 0, open(false, 5, 0), open(true, 5, 1), open(false, 4, 2), open(true, 5, 3), open(false, 4, 4), open(true, -1, 5))
	checkTurn(t, mixed, ledgerOf(0, -1, open(true, 5, 0), open(true, 4, 2), open(true, 4, 4), open(false, 5, 1), open(false, 5, 3), open(false, -1, 5)))
	checkTwoSides(t, mixed)
}

// What both sides' updates make, seen from each side: they make the same bytes of it.
func TestBothSidesMakeOneText(t *testing.T) {
	r := rand.New(rand.NewSource(145))
	made := 0
	for range 300 {
		var ours, peers []api.Update
		for range 24 {
			mine, others := &ours, &peers
			if r.Intn(2) == 0 {
				mine, others = others, mine
			}
			u := proposal(r, *mine)
			if update.Next(*mine, *others, u) == api.OK {
				*mine = append(*mine, u)
			}
		}
		c := api.Counts{Ours: r.Intn(len(ours) + 1), Peers: r.Intn(len(peers) + 1)}
		l, e := ledger.Fold(600, 400, ours, peers, c)
		m, f := ledger.Fold(400, 600, peers, ours, api.Counts{Ours: c.Peers, Peers: c.Ours})
		if e != f {
			t.Fatalf("P14.3: the sides fold to %d and %d", e, f)
		}
		if e != api.OK {
			continue
		}
		made++
		checkTurn(t, l, m)
		checkTurn(t, m, l)
		a, e := Text(0, 7, full(3), l)
		b, f := Text(0, 7, full(3), Turn(m))
		if a == "" || a != b || e != api.OK || f != api.OK {
			t.Errorf("P14.3: the sides make %x, %d and %x, %d of one commitment", brief(a), e, brief(b), f)
		}
	}
	if made < 100 {
		t.Errorf("P14.3: %d commitments were made", made)
	}
}

// proposal is an update that a side might propose.
func proposal(r *rand.Rand, mine []api.Update) api.Update {
	switch r.Intn(3) {
	case 0:
		return api.Update{Kind: api.Fulfill, ID: int64(r.Intn(4)), Hash: full(1)}
	case 1:
		return api.Update{Kind: api.Fail, ID: int64(r.Intn(4))}
	}
	id := int64(0)
	for _, u := range mine {
		if u.Kind == api.Add {
			id++
		}
	}
	p := full(1)
	return api.Update{Kind: api.Add, ID: id, Amount: 1 + r.Int63n(90), Hash: hash.Sum(string(p[:]))}
}
