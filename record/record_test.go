package record

import (
	"math/rand"
	"slices"
	"strings"
	"testing"

	"escrow/api"
)

func short(s string) string { return s[:min(len(s), 80)] }

// shown is a record with its updates cut short.
func shown(r api.Record) api.Record {
	r.Updates = slices.Clone(r.Updates[:min(len(r.Updates), 3)])
	return r
}

func checkWrite(t *testing.T, r api.Record, want string) {
	t.Helper()
	if got, e := Write(r); got != want || e != api.OK {
		t.Errorf("P17.1: Write(%+v) tells %x, %d, want %x", shown(r), short(got), e, short(want))
	}
}

func checkUnwritten(t *testing.T, r api.Record) {
	t.Helper()
	if got, e := Write(r); got != "" || e != 170 {
		t.Errorf("P17.1: Write(%+v), %d updates, tells %x, %d, want none, 170", shown(r), len(r.Updates), short(got), e)
	}
}

func checkRead(t *testing.T, b string, want api.Record, n int) {
	t.Helper()
	if got, size, e := Read(b); !sameRecord(got, want) || size != n || e != api.OK {
		t.Errorf("P17.1, P17.2: Read(%x) tells %+v, %d, %d, want %+v, %d", short(b), shown(got), size, e, shown(want), n)
	}
}

func checkNone(t *testing.T, b string) {
	t.Helper()
	if got, n, e := Read(b); !sameRecord(got, api.Record{}) || n != 0 || e != 170 {
		t.Errorf("P17.1, P17.2: Read(%x), %d bytes, tells %+v, %d, %d, want none, 0, 170", short(b), len(b), shown(got), n, e)
	}
}

// checkWriteLikeModel holds Write against the model, and tells whether the record is valid.
func checkWriteLikeModel(t *testing.T, r api.Record) bool {
	t.Helper()
	want, ok := modelWrite(r)
	if ok {
		checkWrite(t, r, want)
	} else {
		checkUnwritten(t, r)
	}
	return ok
}

// checkReadLikeModel holds Read against the model, and what it reads against what Write tells of it; it tells whether there is a record.
func checkReadLikeModel(t *testing.T, b string) bool {
	t.Helper()
	want, n, ok := modelRead(b)
	if !ok {
		checkNone(t, b)
		return false
	}
	checkRead(t, b, want, n)
	if again, e := Write(want); again != b[:n] || e != api.OK {
		t.Errorf("P17.2: Read(%x) tells %+v, of which Write tells %x, %d", short(b), shown(want), short(again), e)
	}
	return true
}

func TestExamplesOfWrite(t *testing.T) {
	h := rising(1)
	hb, one, zeros := string(h[:]), "\x00\x00\x00\x00\x00\x00\x00\x01", strings.Repeat("\x00", 32)
	for _, x := range []struct {
		r api.Record
		b string
		n int
	}{
		{api.Record{Kind: api.RecOurs, Update: api.Update{Kind: api.Fail, ID: 5, Note: "no"}}, "\x01\x03\x00\x05\x00\x02no", 8},
		{api.Record{Kind: api.RecSigned, Index: 1, Counts: counts(2, 3)}, "\x02" + one + "\x00\x02\x00\x03", 13},
		{api.Record{Kind: api.RecCame, Index: 1, Sig: h}, "\x03" + one + "\x00\x00" + hb, 43},
		{api.Record{Kind: api.RecCame, Index: 1, Updates: []api.Update{fail(5, "no"), {Kind: api.Fulfill, ID: 258}}, Sig: h}, "\x03" + one + "\x00\x02\x03\x00\x05\x00\x02no\x02\x01\x02" + zeros + hb, 85},
		{api.Record{Kind: api.RecRevoked, Index: 1, Secret: h}, "\x04" + one + hb + zeros, 73},
		{api.Record{Kind: api.RecRevoked, Index: 1, Point: h}, "\x04" + one + zeros + hb, 73},
		{api.Record{Kind: api.RecFailed, Code: 258}, "\x05\x01\x02", 3},
		{api.Record{Kind: api.RecClosed}, "\x06" + zeros[:8], 9},
	} {
		if len(x.b) != x.n {
			t.Errorf("P17.1: %x has %d bytes", x.b, len(x.b))
		}
		checkWrite(t, x.r, x.b)
		checkRead(t, x.b, x.r, x.n)
		checkRead(t, x.b+"\x07", x.r, x.n)
		checkNone(t, x.b[:x.n-1])
	}
}

func TestExamplesOfRefusals(t *testing.T) {
	for _, r := range []api.Record{{Kind: api.RecFailed}, {Kind: api.RecFailed, Code: 65536}, {Kind: api.RecSigned, Index: -1}, {Kind: api.RecClosed, Code: 1}, {}} {
		checkUnwritten(t, r)
	}
	checkNone(t, "\x05\x01")
	checkNone(t, "\x07")
	checkRead(t, "\x05\x01\x02\x07", api.Record{Kind: api.RecFailed, Code: 258}, 3)
}

func TestWriteOfEveryRecord(t *testing.T) {
	right, wrong := map[int]int{}, 0
	every(func(r api.Record) {
		if checkWriteLikeModel(t, r) {
			right[r.Kind]++
		} else {
			wrong++
		}
		if t.Failed() {
			t.FailNow()
		}
	})
	for kind := 1; kind <= 6; kind++ {
		if right[kind] < 100 {
			t.Errorf("P17.1: of kind %d %d records were valid", kind, right[kind])
		}
	}
	if len(right) != 6 || wrong < 10000 {
		t.Errorf("P17.1: %d kinds had valid records, %d records were not", len(right), wrong)
	}
}

// Each field in turn, laid into a valid record: one that the kind doesn't name is refused.
func TestFieldsThatAKindDoesNotName(t *testing.T) {
	for _, r := range plain() {
		named, _ := shape(r.Kind)
		for _, letter := range everyLetter {
			for _, x := range fieldLaid(r, letter) {
				want := api.ErrRecord
				if strings.ContainsRune(named, letter) {
					want = api.OK
				}
				if b, e := Write(x); e != want || (b == "") != (e != api.OK) {
					t.Errorf("P17.1: Write(%+v) tells %x, %d, want %d", x, b, e, want)
				}
			}
		}
		r.Updates = append(make([]api.Update, 0, 4), r.Updates...)
		if _, e := Write(r); e != api.OK {
			t.Errorf("P17.1: Write of kind %d with a list of no length tells %d", r.Kind, e)
		}
	}
}

// fieldLaid is a record with a field that isn't zero, by each of its parts.
func fieldLaid(r api.Record, letter rune) []api.Record {
	a, b := r, r
	switch letter {
	case 'u':
		a.Update, b.Update = fail(0, ""), add(1, 1)
	case 'i':
		a.Index, b.Index = 1, 1<<48-1
	case 'c':
		a.Counts, b.Counts = counts(1, 0), counts(0, 1)
	case 'l':
		a.Updates, b.Updates = []api.Update{fail(0, "")}, adds(2)
	case 'g':
		a.Sig, b.Sig = api.Hash{0: 1}, api.Hash{31: 1}
	case 's':
		a.Secret, b.Secret = api.Hash{0: 1}, api.Hash{31: 1}
	case 'p':
		a.Point, b.Point = api.Hash{0: 1}, api.Hash{31: 1}
	case 'e':
		a.Code, b.Code = 1, 65535
	}
	return []api.Record{a, b}
}

// The greatest record, and one update more than there may be, of all sizes.
func TestLongestRecords(t *testing.T) {
	for _, u := range []api.Update{add(2047, 1<<60), fulfill(2047), fail(0, ""), fail(2047, strings.Repeat("n", 64))} {
		one, _ := modelUpdate(u)
		many := repeated(u, 513)
		r := api.Record{Kind: api.RecCame, Index: 5, Updates: many[:512], Sig: rising(1)}
		b, e := Write(r)
		if len(b) != 43+512*len(one) || len(b) > 35371 || e != api.OK {
			t.Errorf("P17.1: 512 updates have %d bytes, %d", len(b), e)
		}
		checkRead(t, b, r, len(b))
		checkRead(t, b+one, r, len(b))
		checkNone(t, b[:len(b)-1])
		r.Updates = many
		checkUnwritten(t, r)
		checkNone(t, b[:9]+"\x02\x01"+b[11:len(b)-32]+one+b[len(b)-32:])
	}
	zeros := strings.Repeat("\x00", 8)
	for _, n := range []int64{513, 514, 1024, 32768, 65535} {
		checkNone(t, "\x03"+zeros+wide(n, 2)+strings.Repeat("\x03\x00\x00\x00\x00", int(n))+strings.Repeat("\x00", 32))
	}
}

func TestThereAndBack(t *testing.T) {
	longest := 0
	for _, r := range valid() {
		b, e := Write(r)
		if e != api.OK {
			t.Fatalf("P17.2: Write(%+v) tells %d", shown(r), e)
		}
		longest = max(longest, len(b))
		for _, s := range []string{"", "\x00", "\xff", "\x05\x00\x01", strings.Repeat("\x03", 200), b} {
			checkRead(t, b+s, r, len(b))
		}
		step := 1 + len(b)/200
		for k := 0; k < len(b); k += step {
			checkNone(t, b[:k])
		}
		checkNone(t, b[:len(b)-1])
		checkNone(t, "\x00"+b)
	}
	if longest != 35371 {
		t.Errorf("P17.1: the longest record has %d bytes, want 35371", longest)
	}
}

// Records that stand one behind the other are read one by one, and there is one way alone to do so.
func TestOneBehindTheOther(t *testing.T) {
	r := rand.New(rand.NewSource(171))
	for range 500 {
		var l []api.Record
		var all strings.Builder
		for range 1 + r.Intn(20) {
			x := validByChance(r)
			b, _ := Write(x)
			l = append(l, x)
			all.WriteString(b)
		}
		b := all.String()
		for _, x := range l {
			got, n, e := Read(b)
			if !sameRecord(got, x) || n < 1 || e != api.OK {
				t.Fatalf("P17.2: Read(%x) tells %+v, %d, %d, want %+v", b, got, n, e, x)
			}
			b = b[n:]
		}
		if b != "" {
			t.Fatalf("P17.2: %x is left", b)
		}
	}
}

// Every byte turned to every other, whole, cut behind it and with a byte more.
func TestEachByteTurned(t *testing.T) {
	bases := append(plain(), api.Record{Kind: 1, Update: fail(2047, strings.Repeat("\xff", 64))}, api.Record{Kind: 1, Update: fulfill(3)}, api.Record{Kind: 2}, api.Record{Kind: 2, Index: 1<<48 - 1, Counts: counts(2048, 2048)}, api.Record{Kind: 3}, api.Record{Kind: 3, Updates: []api.Update{fail(0, ""), fail(0, "")}}, api.Record{Kind: 4}, api.Record{Kind: 5, Code: 1}, api.Record{Kind: 5, Code: 65535}, api.Record{Kind: 6}, api.Record{Kind: 6, Index: 1<<48 - 1})
	read := 0
	for _, r := range bases {
		whole, _ := modelWrite(r)
		for at := range len(whole) {
			for to := range 256 {
				b := []byte(whole + "\x00")
				b[at] = byte(to)
				if checkReadLikeModel(t, string(b[:len(whole)])) {
					read++
				}
				checkReadLikeModel(t, string(b))
				checkReadLikeModel(t, string(b[:at+1]))
			}
		}
	}
	if read < 10000 {
		t.Errorf("P17.2: of the turned texts %d were read", read)
	}
}

// Each first byte with each number of the same bytes behind it: a kind whose fields are all zero is read as soon as it is there.
func TestReadOfEachLength(t *testing.T) {
	lengths := map[int]int{2: 13, 3: 43, 4: 73, 6: 9}
	for first := range 256 {
		for n := range 200 {
			b := string([]byte{byte(first)}) + strings.Repeat("\x00", n)
			if got := checkReadLikeModel(t, b); got != (lengths[first] > 0 && n+1 >= lengths[first]) {
				t.Errorf("P17.2: of kind %d with %d zeros there is a record: %v", first, n, got)
			}
			for _, fill := range []string{"\x01", "\x03", "\x7f", "\xff"} {
				checkReadLikeModel(t, b[:1]+strings.Repeat(fill, n))
			}
		}
	}
	checkNone(t, "")
}

func TestReadOfShortTexts(t *testing.T) {
	for a := range 256 {
		checkNone(t, string([]byte{byte(a)}))
		checkReadLikeModel(t, string([]byte{1, byte(a), 0, 0, 0, 0}))
		for b := range 256 {
			checkNone(t, string([]byte{byte(a), byte(b)}))
			checkReadLikeModel(t, string([]byte{5, byte(a), byte(b)}))
			checkReadLikeModel(t, string([]byte{1, 3, byte(a), byte(b), 0, 0}))
			checkReadLikeModel(t, string([]byte{1, 3, 0, 0, byte(a), byte(b)}))
		}
	}
}

// Numbers at and beyond their bounds, as bytes: none is cut to fit.
func TestReadOfNumbers(t *testing.T) {
	zeros := strings.Repeat("\x00", 80)
	for _, n := range numbers() {
		right := 0 <= n && n < 1<<48
		for _, b := range []string{"\x02" + wide(n, 8) + zeros[:4], "\x03" + wide(n, 8) + zeros[:34], "\x04" + wide(n, 8) + zeros[:64], "\x06" + wide(n, 8)} {
			if checkReadLikeModel(t, b) != right {
				t.Errorf("P17.1: of %x there is a record: %v", b, !right)
			}
		}
	}
	for n := range int64(65536) {
		for _, b := range []string{"\x02" + zeros[:8] + wide(n, 2) + zeros[:2], "\x02" + zeros[:10] + wide(n, 2)} {
			if _, size, e := Read(b); (e == api.OK) != (n <= 2048) || (size == 13) != (n <= 2048) {
				t.Fatalf("P17.1: Read of the count %d tells %d, %d", n, size, e)
			}
		}
		if r, size, e := Read("\x05" + wide(n, 2)); (e == api.OK) != (n > 0) || r.Code != int(n) || size != 0 && size != 3 {
			t.Fatalf("P17.1: Read of the code %d tells %d, %d, %d", n, r.Code, size, e)
		}
	}
}

func TestByChance(t *testing.T) {
	r := rand.New(rand.NewSource(172))
	for range 20000 {
		x := validByChance(r)
		if !checkWriteLikeModel(t, x) {
			t.Fatalf("P17.1: %+v should be valid", x)
		}
		b, _ := modelWrite(x)
		checkRead(t, b+textByChance(r, r.Intn(40)), x, len(b))
		checkNone(t, b[:r.Intn(len(b))])
		cut := []byte(b)
		cut[r.Intn(len(b))] ^= 1 << r.Intn(8)
		checkReadLikeModel(t, string(cut))
	}
	for range 100000 {
		b := []byte(textByChance(r, r.Intn(120)))
		if len(b) > 11 {
			b[0] %= 8
			b[1], b[2] = b[1]%2, b[2]%2
			b[9], b[10], b[11] = b[9]%9, b[10]%4, b[11]%5
		}
		checkReadLikeModel(t, string(b))
	}
}

// A long text behind a record is not gone through, and a long list is refused soon.
func TestLongTexts(t *testing.T) {
	behind := strings.Repeat("\x03\x00\x00\x00\x00", 4<<20)
	for _, r := range append(plain(), api.Record{Kind: 3, Updates: repeated(fail(0, ""), 512)}) {
		b, _ := Write(r)
		all := b + behind
		for range 20 {
			checkRead(t, all, r, len(b))
		}
		r.Updates = make([]api.Update, 1<<20)
		checkUnwritten(t, r)
	}
	checkNone(t, "\x03\x00\x00\x00\x00\x00\x00\x00\x00\xff\xff"+behind)
	checkNone(t, behind[1:])
	checkUnwritten(t, api.Record{Kind: 1, Update: fail(0, behind)})
	checkUnwritten(t, api.Record{Kind: 3, Updates: []api.Update{fail(0, behind)}})
}
