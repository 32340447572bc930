package msg

import (
	"math/rand"
	"slices"
	"strings"
	"testing"

	"escrow/api"
	"escrow/dance"
	"escrow/update"
)

func short(s string) string { return s[:min(len(s), 80)] }

// shown is a message with its note cut short.
func shown(m api.Message) api.Message {
	m.Note = short(m.Note)
	return m
}

func checkWrite(t *testing.T, m api.Message, want string) {
	t.Helper()
	if got, e := Write(m); got != want || e != api.OK {
		t.Errorf("P16.1: Write(%+v) tells %x, %d, want %x", shown(m), short(got), e, want)
	}
}

func checkUnwritten(t *testing.T, m api.Message) {
	t.Helper()
	if got, e := Write(m); got != "" || e != 160 {
		t.Errorf("P16.1: Write(%+v) tells %x, %d, want none, 160", shown(m), short(got), e)
	}
}

func checkRead(t *testing.T, b string, want api.Message) {
	t.Helper()
	if got, e := Read(b); got != want || e != api.OK {
		t.Errorf("P16.1, P16.2: Read(%x) tells %+v, %d, want %+v", short(b), got, e, want)
	}
}

func checkNone(t *testing.T, b string) {
	t.Helper()
	if got, e := Read(b); got != (api.Message{}) || e != 160 {
		t.Errorf("P16.1, P16.2: Read(%x), %d bytes, tells %+v, %d, want none, 160", short(b), len(b), got, e)
	}
}

// checkWriteLikeModel holds Write against the model, and tells whether the message is valid.
func checkWriteLikeModel(t *testing.T, m api.Message) bool {
	t.Helper()
	want, ok := modelWrite(m)
	if ok {
		checkWrite(t, m, want)
	} else {
		checkUnwritten(t, m)
	}
	return ok
}

// checkReadLikeModel holds Read against the model, and what it reads against what Write tells of it; it tells whether there is a message.
func checkReadLikeModel(t *testing.T, b string) bool {
	t.Helper()
	want, ok := modelRead(b)
	if !ok {
		checkNone(t, b)
		return false
	}
	checkRead(t, b, want)
	if again, e := Write(want); again != b || e != api.OK {
		t.Errorf("P16.2: Read(%x) tells %+v, of which Write tells %x, %d", b, want, again, e)
	}
	return true
}

func TestExamplesOfWrite(t *testing.T) {
	h, s := rising(1), rising(100)
	hb, sb, zeros := string(h[:]), string(s[:]), strings.Repeat("\x00", 32)
	for _, x := range []struct {
		m api.Message
		b string
		n int
	}{
		{api.Message{Kind: api.MsgCommit, Index: 258, Hash: h}, "\x04\x00\x00\x00\x00\x00\x00\x01\x02" + hb, 41},
		{api.Message{Kind: api.MsgRevoke, Secret: s, Hash: h}, "\x05" + zeros[:8] + sb + hb, 73},
		{api.Message{Kind: api.MsgHello, Index: 1}, "\x06" + zeros[:7] + "\x01" + zeros[:8] + zeros, 49},
		{api.Message{Kind: api.MsgError, Index: 3}, "\x07\x00\x00\x00\x00\x00\x00\x00\x03", 9},
		{api.Message{Kind: api.MsgFail, ID: 5, Note: "no"}, "\x03\x00\x05\x00\x02no", 7},
		{api.Message{Kind: api.MsgError}, "\x07" + zeros[:8], 9},
	} {
		if len(x.b) != x.n {
			t.Errorf("P16.1: %x has %d bytes", x.b, len(x.b))
		}
		checkWrite(t, x.m, x.b)
		checkRead(t, x.b, x.m)
		checkNone(t, x.b[:x.n-1])
		checkNone(t, x.b+"\x00")
	}
	for _, m := range []api.Message{{Kind: api.MsgFail, ID: 5, Note: "no", Index: 1}, {Kind: api.MsgCommit, Index: -1}, {Kind: api.MsgCommit, Index: 1 << 48}, {Kind: api.MsgError, Note: "x"}, {}} {
		checkUnwritten(t, m)
	}
	checkNone(t, "")
	checkNone(t, "\x08")
}

func TestExamplesOfUpdates(t *testing.T) {
	if u, ok := Update(api.Message{Kind: api.MsgCommit, Index: 258, Hash: full(3)}); u != (api.Update{}) || ok {
		t.Errorf("P16.1: Update of a commitment tells %v, %v", u, ok)
	}
	if u, ok := Update(api.Message{Kind: api.MsgAdd, ID: 9, Index: 7}); u != (api.Update{Kind: api.Add, ID: 9}) || !ok {
		t.Errorf("P16.1: Update of an add tells %v, %v", u, ok)
	}
	if m := Of(api.Update{Kind: 9, Note: "x"}); m != (api.Message{Kind: 9, Note: "x"}) {
		t.Errorf("P16.1: Of tells %v", m)
	}
}

func TestWriteOfEveryMessage(t *testing.T) {
	right := map[int]int{}
	every(func(m api.Message) {
		if checkWriteLikeModel(t, m) {
			right[m.Kind]++
		}
		if t.Failed() {
			t.FailNow()
		}
	})
	for kind := 1; kind <= 7; kind++ {
		if right[kind] < 100 {
			t.Errorf("P16.1: of kind %d %d messages were valid", kind, right[kind])
		}
	}
	if len(right) != 7 {
		t.Errorf("P16.1: %d kinds had valid messages", len(right))
	}
}

// Each field in turn, laid into a valid message: one that the kind doesn't name is refused.
func TestFieldsThatAKindDoesNotName(t *testing.T) {
	for _, m := range plain() {
		named, _ := shape(m.Kind)
		for _, letter := range "dainhst" {
			x := m
			if field, _, _, _ := number(&x, letter); field != nil {
				*field = 1
			} else if field := hashField(&x, letter); field != nil {
				*field = api.Hash{7: 1}
			} else {
				x.Note = "x"
			}
			want := api.ErrMessage
			if strings.ContainsRune(named, letter) {
				want = api.OK
			}
			if b, e := Write(x); e != want || (b == "") != (e != api.OK) {
				t.Errorf("P16.1: Write(%+v) tells %x, %d, want %d", x, b, e, want)
			}
		}
	}
}

func TestThereAndBack(t *testing.T) {
	behind := []string{"\x00", "\xff", "z", "\x07", strings.Repeat("\x00", 32), strings.Repeat("\x04", 200)}
	longest := 0
	for _, m := range valid() {
		b, e := Write(m)
		if e != api.OK {
			t.Fatalf("P16.2: Write(%+v) tells %d", m, e)
		}
		longest = max(longest, len(b))
		checkRead(t, b, m)
		for _, s := range append(behind, b) {
			checkNone(t, b+s)
		}
		for k := range len(b) {
			checkNone(t, b[:k])
		}
		checkNone(t, b[1:])
		checkNone(t, "\x00"+b)
	}
	if longest != 73 {
		t.Errorf("P16.1: the longest message has %d bytes, want 73", longest)
	}
}

// Sorted, a text stands right ahead of one that it begins, if there is such a one: so neighbours are enough.
func TestNoMessageBeginsAnother(t *testing.T) {
	var texts []string
	add := func(m api.Message) {
		b, e := Write(m)
		if e != api.OK {
			t.Fatalf("P16.2: Write(%+v) tells %d", m, e)
		}
		texts = append(texts, b)
	}
	for _, m := range valid() {
		add(m)
	}
	for n := range 65 {
		add(api.Message{Kind: api.MsgFail, ID: 2000, Note: strings.Repeat("\x00", n)})
	}
	slices.Sort(texts)
	for i := 1; i < len(texts); i++ {
		if strings.HasPrefix(texts[i], texts[i-1]) {
			t.Errorf("P16.2: %x begins %x, of another message", texts[i-1], texts[i])
		}
	}
}

// Every byte turned to every other, whole, cut behind it and with a byte more.
func TestEachByteTurned(t *testing.T) {
	bases := append(plain(), api.Message{Kind: 1, ID: 2047, Amount: 1 << 60}, api.Message{Kind: 2}, api.Message{Kind: 3}, api.Message{Kind: 3, ID: 2047, Note: strings.Repeat("\xff", 64)}, api.Message{Kind: 4}, api.Message{Kind: 4, Index: 1<<48 - 1, Hash: full(255)}, api.Message{Kind: 5}, api.Message{Kind: 6}, api.Message{Kind: 6, Index: 1<<48 - 1, Next: 1<<48 - 1, Secret: full(255)}, api.Message{Kind: 7}, api.Message{Kind: 7, Index: 1<<48 - 1})
	read := 0
	for _, m := range bases {
		whole, _ := modelWrite(m)
		for at := range len(whole) {
			for to := range 256 {
				b := []byte(whole + "\x00")
				b[at] = byte(to)
				if checkReadLikeModel(t, string(b[:len(whole)])) {
					read++
				}
				checkReadLikeModel(t, string(b))
				checkReadLikeModel(t, string(b[:at+1]))
			}
		}
	}
	if read < 10000 {
		t.Errorf("P16.2: of the turned texts %d were read", read)
	}
}

// Each first byte with each number of the same bytes behind it: a kind whose fields are all zero is read at its own length alone.
func TestReadOfEachLength(t *testing.T) {
	lengths := map[int]int{2: 35, 3: 5, 4: 41, 5: 73, 6: 49, 7: 9}
	for first := range 256 {
		for n := range 300 {
			b := string([]byte{byte(first)}) + strings.Repeat("\x00", n)
			if got := checkReadLikeModel(t, b); got != (lengths[first] == n+1) {
				t.Errorf("P16.2: of kind %d with %d zeros there is a message: %v", first, n, got)
			}
			for _, fill := range []string{"\x01", "\x7f", "\xff"} {
				checkReadLikeModel(t, b[:1]+strings.Repeat(fill, n))
			}
		}
	}
}

func TestReadOfShortTexts(t *testing.T) {
	for a := range 256 {
		checkNone(t, string([]byte{byte(a)}))
		for b := range 256 {
			checkNone(t, string([]byte{byte(a), byte(b)}))
			checkNone(t, string([]byte{byte(a), byte(b), 0}))
			checkNone(t, string([]byte{3, byte(a), byte(b), 0}))
			checkReadLikeModel(t, string([]byte{3, byte(a), byte(b), 0, 0}))
			checkReadLikeModel(t, string([]byte{3, 0, 0, byte(a), byte(b)}))
		}
	}
}

// Indexes at and beyond their bounds, as bytes: none is cut to fit.
func TestReadOfIndexes(t *testing.T) {
	zeros := strings.Repeat("\x00", 80)
	for _, x := range []struct {
		index string
		right bool
	}{
		{"\x00\x00\x00\x00\x00\x00\x00\x00", true},
		{"\x00\x00\xff\xff\xff\xff\xff\xff", true},
		{"\x00\x00\x80\x00\x00\x00\x00\x00", true},
		{"\x00\x01\x00\x00\x00\x00\x00\x00", false},
		{"\x01\x00\x00\x00\x00\x00\x00\x00", false},
		{"\x7f\xff\xff\xff\xff\xff\xff\xff", false},
		{"\x80\x00\x00\x00\x00\x00\x00\x00", false},
		{"\xff\xff\xff\xff\xff\xff\xff\xff", false},
	} {
		for _, b := range []string{"\x04" + x.index + zeros[:32], "\x05" + x.index + zeros[:64], "\x06" + x.index + zeros[:40], "\x06" + zeros[:8] + x.index + zeros[:32], "\x07" + x.index} {
			if checkReadLikeModel(t, b) != x.right {
				t.Errorf("P16.1: of %x there is a message: %v", b, !x.right)
			}
		}
	}
}

func TestByChance(t *testing.T) {
	r := rand.New(rand.NewSource(161))
	right, wrong := 0, 0
	for range 100000 {
		m := byChance(r)
		if !checkWriteLikeModel(t, m) {
			wrong++
			continue
		}
		right++
		b, _ := modelWrite(m)
		checkRead(t, b, m)
		checkNone(t, b[:r.Intn(len(b))])
		checkNone(t, b+textByChance(r, 1+r.Intn(40)))
	}
	if right < 20000 || wrong < 20000 {
		t.Errorf("P16.1: %d messages were valid, %d not", right, wrong)
	}
	for range 100000 {
		b := []byte(textByChance(r, r.Intn(80)))
		if len(b) > 5 {
			b[0] %= 9
			b[1], b[2] = b[1]%9, b[2]%3
		}
		checkReadLikeModel(t, string(b))
	}
}

// Long texts and notes are refused, and soon.
func TestLongTexts(t *testing.T) {
	long := strings.Repeat("\x07\x00\x00", 10<<20)
	for kind := range byte(9) {
		checkNone(t, string([]byte{kind})+long)
		checkUnwritten(t, api.Message{Kind: int(kind), Amount: int64(kind & 1), Note: long})
	}
}

// What layer 15 makes is written, and what it answers where it can't make one is not.
func TestMessagesOfDance(t *testing.T) {
	c := api.Config{Capacity: 1000, Ours: 700, Seed: full(1), Key: full(2), PeerKey: full(3)}
	s, _ := dance.Start(c)
	for _, m := range []api.Message{dance.Again(c, s), dance.Reveal(c, 0), dance.Reveal(c, api.MaxIndex-2)} {
		b, e := Write(m)
		if e != api.OK {
			t.Errorf("P16.1: Write(%+v) tells %d", m, e)
		}
		checkRead(t, b, m)
	}
	checkUnwritten(t, dance.Reveal(c, -1))
	r, _ := dance.Offer(s, 600, full(4))
	b, _ := Write(Of(r.Update))
	m, _ := Read(b)
	if u, ok := Update(m); u != r.Update || !ok {
		t.Errorf("P16.3: the offer comes as %v, %v", u, ok)
	}
}

// everyUpdate is the updates of all messages of every.
func everyUpdate(do func(u api.Update)) {
	seen := map[api.Update]bool{}
	every(func(m api.Message) {
		u := api.Update{Kind: m.Kind, ID: m.ID, Amount: m.Amount, Hash: m.Hash, Note: m.Note}
		if !seen[u] {
			seen[u] = true
			do(u)
		}
	})
}

func TestUpdateOfEveryMessage(t *testing.T) {
	every(func(m api.Message) {
		want, says := api.Update{}, 1 <= m.Kind && m.Kind <= 3
		if says {
			want = api.Update{Kind: m.Kind, ID: m.ID, Amount: m.Amount, Hash: m.Hash, Note: m.Note}
		}
		if u, ok := Update(m); u != want || ok != says {
			t.Fatalf("P16.1: Update(%+v) tells %v, %v", shown(m), u, ok)
		}
	})
}

func TestOfEveryUpdate(t *testing.T) {
	everyUpdate(func(u api.Update) {
		m := Of(u)
		if m != (api.Message{Kind: u.Kind, ID: u.ID, Amount: u.Amount, Hash: u.Hash, Note: u.Note}) {
			t.Fatalf("P16.1: Of(kind %d, ID %d, %d, %x, %q) tells %+v", u.Kind, u.ID, u.Amount, u.Hash, short(u.Note), shown(m))
		}
		back, ok := Update(m)
		if says := 1 <= u.Kind && u.Kind <= 3; ok != says || says && back != u {
			t.Fatalf("P16.3: Update(Of(kind %d, ID %d, %d, %x, %q)) tells %v, %v", u.Kind, u.ID, u.Amount, u.Hash, short(u.Note), back, ok)
		}
	})
}

// Held against layer 12's own calls: which messages say a valid update, and that its bytes are theirs.
func TestMessagesAreTheirUpdates(t *testing.T) {
	right := 0
	every(func(m api.Message) {
		u, ok := Update(m)
		if !ok {
			return
		}
		want, errno := update.Write(u)
		if errno != api.OK || m.Index != 0 || m.Next != 0 || m.Secret != (api.Hash{}) {
			if b, e := Write(m); b != "" || e != api.ErrMessage {
				t.Fatalf("P16.3: Write(%+v) tells %x, %d", shown(m), b, e)
			}
			return
		}
		right++
		if b, e := Write(m); b != want || e != api.OK {
			t.Fatalf("P16.3: Write(%+v) tells %x, %d, the update is %x", shown(m), b, e, want)
		}
		checkRead(t, want, Of(u))
	})
	if right < 1000 {
		t.Errorf("P16.3: %d messages said a valid update", right)
	}
}
