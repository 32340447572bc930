package frame

import (
	"cmp"
	"encoding/binary"
	"hash/crc32"
	"math"
	"math/rand"
	"slices"
	"strings"
	"testing"
	"unsafe"

	"escrow/api"
)

// The tests hold frames against bytes that the library lays and sums, and Next and Scan against a model that goes by the chapter's words.

// laid is a head with any length and a right sum, a payload and any fill: a frame if the length, the number and the fill are right.
func laid(length uint32, n int64, payload, fill string) string {
	b := binary.BigEndian.AppendUint32(nil, length)
	b = binary.BigEndian.AppendUint64(b, uint64(n))
	sum := crc32.Checksum([]byte(string(b)+payload), crc32.MakeTable(crc32.Castagnoli))
	b = binary.BigEndian.AppendUint32(b, sum)
	return string(b) + payload + fill
}

// zerosTo is as few zeros as make a length a multiple of 64.
func zerosTo(n int) string {
	zeros := ""
	for (n+len(zeros))%64 != 0 {
		zeros += "\x00"
	}
	return zeros
}

// right is the frame by the chapter's words, for negative numbers and long payloads too.
func right(n int64, payload string) string {
	return laid(uint32(len(payload)), n, payload, zerosTo(16+len(payload)))
}

// stand is what stands at a place.
type stand struct {
	payload string
	size    int
	what    int
}

func next(b string, at int, n int64) stand {
	payload, size, what := Next(b, at, n)
	return stand{payload, size, what}
}

// stands is the model of Next.
func stands(b string, at int, n int64) stand {
	if at == len(b) {
		return stand{what: End}
	}
	if at < 0 || at > len(b) || n < 0 || len(b)-at < 64 {
		return stand{what: Torn}
	}
	length := int(binary.BigEndian.Uint32([]byte(b[at : at+4])))
	if length > 65536 || length > len(b)-at-16 {
		return stand{what: Torn}
	}
	payload := b[at+16 : at+16+length]
	if whole := right(n, payload); strings.HasPrefix(b[at:], whole) {
		return stand{payload, len(whole), Whole}
	}
	return stand{what: Torn}
}

// told is what Scan answers.
type told struct {
	payloads []string
	end      int
	torn     bool
}

// scanned is the model of Scan.
func scanned(b string, n int64) told {
	var w told
	for {
		s := stands(b, w.end, n)
		if s.what != Whole {
			w.torn = s.what == Torn
			return w
		}
		w.payloads = append(w.payloads, s.payload)
		w.end += s.size
		if n == math.MaxInt64 {
			w.torn = w.end < len(b)
			return w
		}
		n++
	}
}

func made(t *testing.T, n int64, payload string) string {
	t.Helper()
	b, errno := Frame(n, payload)
	if errno != api.OK {
		t.Fatalf("P5.1: Frame(%d, %d bytes) answers %d", n, len(payload), errno)
	}
	return b
}

// row is frames from a number on, one behind the other.
func row(t *testing.T, n int64, payloads ...string) string {
	t.Helper()
	var b strings.Builder
	for i, payload := range payloads {
		b.WriteString(made(t, n+int64(i), payload))
	}
	return b.String()
}

func refused(t *testing.T, n int64, payload string, want api.Errno) {
	t.Helper()
	if b, errno := Frame(n, payload); b != "" || errno != want {
		t.Errorf("P5.1: Frame(%d, %d bytes) = %.40q, %d, want \"\", %d", n, len(payload), b, errno, want)
	}
}

func checkNext(t *testing.T, promise, b string, at int, n int64, want stand) {
	t.Helper()
	if got := next(b, at, n); got != want {
		t.Fatalf("%s: of %d bytes: Next(%d, %d) = %.40q, %d, %d, want %.40q, %d, %d", promise, len(b), at, n, got.payload, got.size, got.what, want.payload, want.size, want.what)
	}
}

func checkScan(t *testing.T, promise, b string, n int64, want told) {
	t.Helper()
	payloads, end, torn := Scan(b, n)
	if !slices.Equal(payloads, want.payloads) || end != want.end || torn != want.torn {
		t.Fatalf("%s: of %d bytes: Scan(%d) = %.200q, %d, %v, want %.200q, %d, %v", promise, len(b), n, payloads, end, torn, want.payloads, want.end, want.torn)
	}
}

func p(n int) string { return strings.Repeat("p", n) }

func zeros(n int) string { return strings.Repeat("\x00", n) }

func randomText(r *rand.Rand, n int) string {
	b := make([]byte, n)
	r.Read(b)
	return string(b)
}

// changed is b with one byte turned by a pattern of bits.
func changed(b string, at int, by byte) string {
	c := []byte(b)
	c[at] ^= by
	return string(c)
}

var numbers = []int64{0, 1, 5, 127, 128, 255, 256, 1<<31 - 1, 1 << 31, 1<<32 - 1, 1 << 32, 1<<60 - 1, 1 << 60, 0x102030405060708, math.MaxInt64 - 1, math.MaxInt64}

var negative = []int64{-1, -2, -256, math.MinInt64, math.MinInt64 + 1}

var sizes = []int{0, 1, 2, 46, 47, 48, 49, 50, 111, 112, 113, 175, 176, 177, 255, 256, 65519, 65520, 65521, 65535, 65536}

func TestExample1(t *testing.T) {
	if b := made(t, 0, ""); len(b) != 64 || b[:12] != zeros(12) || b[12:16] == zeros(4) || b[16:] != zeros(48) {
		t.Errorf("P5.1: Frame(0, \"\") = %q", b)
	}
	if b := made(t, 5, p(48)); len(b) != 64 {
		t.Errorf("P5.1: Frame(5, 48 bytes) has %d bytes", len(b))
	}
	if b := made(t, 5, p(49)); len(b) != 128 {
		t.Errorf("P5.1: Frame(5, 49 bytes) has %d bytes", len(b))
	}
	refused(t, -1, "", api.ErrArg)
}

func TestExample2(t *testing.T) {
	b := row(t, 7, "ab", "")
	checkScan(t, "P5.1", b, 7, told{[]string{"ab", ""}, 128, false})
	checkScan(t, "P5.1", b, 8, told{nil, 0, true})
	checkScan(t, "P5.1", "", 7, told{nil, 0, false})
	checkScan(t, "P5.1", b[:len(b)-1], 7, told{[]string{"ab"}, 64, true})
}

func TestExamples3And4(t *testing.T) {
	b := row(t, 7, "ab", "")
	checkNext(t, "P5.1", b, 0, 7, stand{"ab", 64, Whole})
	checkNext(t, "P5.1", b, 64, 8, stand{"", 64, Whole})
	checkNext(t, "P5.1", b, 128, 9, stand{"", 0, End})
	checkNext(t, "P5.1", b, 129, 9, stand{"", 0, Torn})
	checkNext(t, "P5.1", b, -1, 7, stand{"", 0, Torn})
	checkNext(t, "P5.1", b, 0, 8, stand{"", 0, Torn})
	checkNext(t, "P5.1", zeros(64), 0, 0, stand{"", 0, Torn})
	one := made(t, 7, "ab")
	checkNext(t, "P5.1", one[:63]+"\x01", 0, 7, stand{"", 0, Torn})
}

// P5.1: the words for what stands at a place have the chapter's numbers.
func TestWords(t *testing.T) {
	if End != 0 || Whole != 1 || Torn != 2 {
		t.Errorf("P5.1: End %d, Whole %d, Torn %d", End, Whole, Torn)
	}
}

// P5.1: a frame's bytes, at all edges of numbers and lengths.
func TestFrame(t *testing.T) {
	r := rand.New(rand.NewSource(1))
	for _, n := range numbers {
		for _, size := range sizes {
			for _, payload := range []string{p(size), zeros(size), strings.Repeat("\xff", size), randomText(r, size)} {
				if got, want := made(t, n, payload), right(n, payload); got != want {
					t.Fatalf("P5.1: Frame(%d, %d bytes) = %.80q, want %.80q", n, size, got, want)
				}
			}
		}
	}
	for size := range 1000 {
		payload := randomText(r, size)
		if got, want := made(t, int64(size), payload), right(int64(size), payload); got != want || len(got)%64 != 0 || len(got)-size-16 > 63 {
			t.Fatalf("P5.1: Frame(%d, %d bytes) = %.80q, want %.80q", size, size, got, want)
		}
	}
}

// P5.1: what Frame refuses; a number below 0 is named first.
func TestFrameRefused(t *testing.T) {
	for _, n := range negative {
		for _, size := range append(sizes, api.MaxPayload+1) {
			refused(t, n, p(size), api.ErrArg)
		}
	}
	for _, n := range numbers {
		refused(t, n, p(api.MaxPayload+1), api.ErrLong)
		refused(t, n, p(2*api.MaxPayload), api.ErrLong)
	}
}

// P5.1: every place, also such that no frame begins at, and places far outside.
func TestNextPlaces(t *testing.T) {
	b := row(t, 7, "ab", "", p(49), p(48)) + "tail"
	far := []int{math.MinInt, math.MinInt + 1, -64, -1, len(b) + 1, len(b) + 64, 1 << 32, math.MaxInt - 63, math.MaxInt}
	for _, n := range []int64{math.MinInt64, -1, 0, 6, 7, 8, 9, 10, 11, math.MaxInt64} {
		for at := range len(b) + 1 {
			checkNext(t, "P5.1", b, at, n, stands(b, at, n))
		}
		for _, at := range far {
			checkNext(t, "P5.1", b, at, n, stand{what: Torn})
			checkNext(t, "P5.1", "", at, n, stand{what: Torn})
		}
		checkNext(t, "P5.1", "", 0, n, stand{what: End})
	}
}

// P5.1: a frame is whole wherever it begins, not at multiples of 64 alone, and whatever stands around it.
func TestNextShifted(t *testing.T) {
	for _, size := range []int{0, 47, 48, 49, 112, 113} {
		whole := made(t, 9, p(size))
		for shift := range 130 {
			b := p(shift) + whole + p(shift%3)
			checkNext(t, "P5.1", b, shift, 9, stand{p(size), len(whole), Whole})
		}
	}
}

// P5.1: there and back, at all edges of numbers and lengths.
func TestNextWhole(t *testing.T) {
	for _, n := range numbers {
		for _, size := range sizes {
			b := made(t, n, p(size))
			checkNext(t, "P5.2", b, 0, n, stand{p(size), len(b), Whole})
			checkScan(t, "P5.2", b, n, told{[]string{p(size)}, len(b), false})
			for _, other := range numbers {
				if other != n {
					checkNext(t, "P5.1", b, 0, other, stand{what: Torn})
				}
			}
		}
	}
}

// P5.1: for a number below 0 nothing is whole, not even what would be its frame.
func TestBelowZero(t *testing.T) {
	for _, n := range negative {
		b := right(n, "ab")
		checkNext(t, "P5.1", b, 0, n, stand{what: Torn})
		checkNext(t, "P5.1", b, len(b), n, stand{what: End})
		checkScan(t, "P5.1", b, n, told{nil, 0, true})
		checkScan(t, "P5.1", "", n, told{nil, 0, false})
		checkScan(t, "P5.1", zeros(64), n, told{nil, 0, true})
	}
}

// P5.1: lengths in a head that no frame of these bytes has, under a right sum.
func TestLengths(t *testing.T) {
	for _, length := range []uint32{1, 47, 48, 49, 64, 65535, 65536, 65537, 1 << 17, 1<<24 + 2, 1<<31 - 1, 1 << 31, 1<<31 + 2, math.MaxUint32 - 63, math.MaxUint32 - 15, math.MaxUint32} {
		for _, payload := range []string{"", "ab", p(48), p(112)} {
			b := laid(length, 3, payload, zerosTo(16+len(payload)))
			checkNext(t, "P5.1", b, 0, 3, stands(b, 0, 3))
			if int64(length) > int64(len(b)) {
				checkNext(t, "P5.1", b, 0, 3, stand{what: Torn})
			}
		}
	}
}

// P5.1: a payload that is too long is no frame, though all its bytes are there and its sum is right.
func TestTooLong(t *testing.T) {
	for _, size := range []int{65537, 65584, 65585, 131072, 1 << 24} {
		b := right(3, p(size))
		checkNext(t, "P5.1", b, 0, 3, stand{what: Torn})
		checkScan(t, "P5.1", b, 3, told{nil, 0, true})
	}
}

// P5.3: with a right sum, another fill is no frame: not another byte, not a sector more, not some bytes fewer.
func TestFill(t *testing.T) {
	for _, size := range []int{0, 1, 47, 48, 49, 111, 112, 113} {
		payload, fill := p(size), zerosTo(16+size)
		for i := range len(fill) {
			for _, by := range []byte{1, 0x80, 0xff} {
				b := laid(uint32(size), 3, payload, changed(fill, i, by))
				checkNext(t, "P5.3", b, 0, 3, stand{what: Torn})
			}
			checkNext(t, "P5.3", laid(uint32(size), 3, payload, fill[:i]), 0, 3, stand{what: Torn})
		}
		b := laid(uint32(size), 3, payload, fill+zeros(64))
		checkNext(t, "P5.3", b, 0, 3, stand{payload, len(b) - 64, Whole})
		checkScan(t, "P5.3", b, 3, told{[]string{payload}, len(b) - 64, true})
	}
}

// P5.2: cut short at every place.
func TestCutShort(t *testing.T) {
	payloads := []string{"ab", "", p(48), p(49), zeros(112), p(113), "\xff", ""}
	for _, n := range []int64{0, 7, 1<<32 - 3, math.MaxInt64 - 7} {
		b := row(t, n, payloads...)
		for cut := range len(b) + 1 {
			want := told{}
			for i, payload := range payloads {
				size := len(made(t, n+int64(i), payload))
				if want.end+size > cut {
					break
				}
				want.end += size
				want.payloads = payloads[:i+1]
			}
			want.torn = want.end < cut
			checkScan(t, "P5.2", b[:cut], n, want)
		}
	}
}

// P5.2: zeros, or frames of other numbers, behind whole ones change nothing but the last answer.
func TestBehind(t *testing.T) {
	payloads := []string{"ab", "", p(49)}
	for count := range len(payloads) + 1 {
		front := payloads[:count]
		for _, n := range []int64{0, 7, 1 << 40} {
			b := row(t, n, front...)
			want := told{front, len(b), true}
			for _, more := range []int{1, 2, 15, 16, 17, 63, 64, 65, 128, 640, 4096} {
				checkScan(t, "P5.2", b+zeros(more), n, want)
			}
			follow := n + int64(count)
			for _, other := range []int64{0, n - 1, n, follow - 1, follow + 1, follow + 2, follow + 256, math.MaxInt64, -1, math.MinInt64} {
				if other == follow {
					continue
				}
				for _, payload := range []string{"", "cd", p(49)} {
					checkScan(t, "P5.2", b+right(other, payload), n, want)
					checkScan(t, "P5.2", b+right(other, payload)+right(follow, "no"), n, want)
				}
			}
		}
	}
}

// P5.1: behind the greatest number none follows.
func TestGreatestNumber(t *testing.T) {
	const last = math.MaxInt64
	b := row(t, last-1, "y", "z")
	checkScan(t, "P5.1", b, last-1, told{[]string{"y", "z"}, 128, false})
	for _, behind := range []string{"\x00", zeros(64), right(math.MinInt64, "a"), right(last, "z"), right(0, "a"), right(-1, "a")} {
		checkScan(t, "P5.1", b+behind, last-1, told{[]string{"y", "z"}, 128, true})
		checkScan(t, "P5.1", b[64:]+behind, last, told{[]string{"z"}, 64, true})
	}
}

// P5.4: one byte of a frame changed, of its fill too, in every way: it is torn, and those ahead are told as before.
func TestOneByte(t *testing.T) {
	for _, payload := range []string{"", "ab", p(47), p(48), p(49), zeros(112)} {
		front, behind := row(t, 4, "first", p(60)), right(7, "behind")
		whole := made(t, 6, payload)
		want := told{[]string{"first", p(60)}, len(front), true}
		for i := range len(whole) {
			for by := 1; by < 256; by++ {
				b := front + changed(whole, i, byte(by)) + behind
				if i < 4 {
					checkScan(t, "P5.4", b, 4, scanned(b, 4))
					checkScan(t, "P5.4", b[:len(front)], 4, told{want.payloads, want.end, false})
					continue
				}
				checkNext(t, "P5.4", b, len(front), 6, stand{what: Torn})
				checkScan(t, "P5.4", b, 4, want)
			}
		}
	}
}

// P5.4: one byte of the longest frame changed.
func TestOneByteOfTheLongest(t *testing.T) {
	r := rand.New(rand.NewSource(2))
	whole := made(t, 6, randomText(r, api.MaxPayload))
	places := []int{4, 11, 12, 15, 16, 17, 16 + api.MaxPayload - 1, 16 + api.MaxPayload, len(whole) - 1}
	for range 100 {
		places = append(places, 4+r.Intn(len(whole)-4))
	}
	for _, i := range places {
		b := changed(whole, i, byte(1+r.Intn(255)))
		checkNext(t, "P5.4", b, 0, 6, stand{what: Torn})
	}
}

// twoFold is a text of 40 bytes whose sum as a payload is also the one of it with eight zeros behind, in frames of a number. Sums are linear but for a constant, so its bits are found as the solution of equations.
func twoFold(n int64) string {
	difference := func(x uint64) uint32 {
		text := string(binary.BigEndian.AppendUint64(nil, x)) + p(32)
		short, long := right(n, text), right(n, text+zeros(8))
		return binary.BigEndian.Uint32([]byte(short[12:])) ^ binary.BigEndian.Uint32([]byte(long[12:]))
	}
	rest := difference(0)
	type equation struct {
		effect uint32
		bits   uint64
	}
	var rows []equation
	for i := range 64 {
		e := equation{difference(1<<i) ^ difference(0), 1 << i}
		for _, r := range rows {
			if e.effect^r.effect < e.effect {
				e = equation{e.effect ^ r.effect, e.bits ^ r.bits}
			}
		}
		if e.effect != 0 {
			rows = append(rows, e)
			slices.SortFunc(rows, func(a, b equation) int { return cmp.Compare(b.effect, a.effect) })
		}
	}
	var x uint64
	for _, r := range rows {
		if rest^r.effect < rest {
			rest, x = rest^r.effect, x^r.bits
		}
	}
	return string(binary.BigEndian.AppendUint64(nil, x)) + p(32)
}

// P5.4: a changed length that the sum lets be is another frame; else it is torn.
func TestOtherLength(t *testing.T) {
	text := twoFold(6)
	b := made(t, 6, text)
	c := changed(b, 3, 40^48)
	if c != made(t, 6, text+zeros(8)) {
		t.Fatalf("P5.4: %q has no second length", text)
	}
	checkNext(t, "P5.4", c, 0, 6, stand{text + zeros(8), 64, Whole})
	for by := 1; by < 256; by++ {
		for i := range 4 {
			if c := changed(b, i, byte(by)); i < 3 || by != 40^48 {
				checkNext(t, "P5.4", c, 0, 6, stand{what: Torn})
			}
		}
	}
}

// altered is frames with something wrong in one place: bytes turned, cut out, put in, or sectors laid over another.
func altered(r *rand.Rand, b string) string {
	if b == "" {
		return randomText(r, r.Intn(100))
	}
	at := r.Intn(len(b))
	switch r.Intn(6) {
	case 0:
		return changed(b, at, byte(1<<r.Intn(8)))
	case 1:
		return b[:at]
	case 2:
		return b[:at] + zeros(r.Intn(130)) + b[at:]
	case 3:
		sector := at / 64 * 64
		return b[:sector] + zeros(min(64, len(b)-sector)) + b[min(len(b), sector+64):]
	case 4:
		sector := at / 64 * 64
		return b[:sector] + b[min(len(b), sector+64):]
	}
	return b + randomText(r, r.Intn(70))
}

// P5.1, P5.3: bytes that nobody laid like this, as the model tells them; what is whole is Frame's text.
func TestAgainstModel(t *testing.T) {
	r := rand.New(rand.NewSource(4))
	for range 20000 {
		n := numbers[r.Intn(len(numbers))]
		var b strings.Builder
		for i := range int64(r.Intn(6)) {
			b.WriteString(right(n+i, randomText(r, r.Intn(180))))
		}
		text := b.String()
		for range r.Intn(3) {
			text = altered(r, text)
		}
		checkScan(t, "P5.1", text, n, scanned(text, n))
		at := r.Intn(len(text) + 1)
		if r.Intn(2) == 0 {
			at = at / 64 * 64
		}
		m := n + int64(r.Intn(3))
		checkNext(t, "P5.1", text, at, m, stands(text, at, m))
		if s := next(text, at, m); s.what == Whole && text[at:at+s.size] != made(t, m, s.payload) {
			t.Fatalf("P5.3: %q is said to be whole, with %q", text[at:at+s.size], s.payload)
		}
	}
}

// P5.2: a scan of many frames, and of the longest ones.
func TestManyFrames(t *testing.T) {
	var b strings.Builder
	want := told{}
	for i := range 20000 {
		payload := p(i % 50)
		b.WriteString(right(int64(i), payload))
		want.payloads = append(want.payloads, payload)
	}
	want.end = b.Len()
	checkScan(t, "P5.2", b.String(), 0, want)
	long := row(t, 0, p(api.MaxPayload), p(api.MaxPayload), p(api.MaxPayload))
	checkScan(t, "P5.2", long, 0, told{[]string{p(api.MaxPayload), p(api.MaxPayload), p(api.MaxPayload)}, 3 * (api.MaxPayload + 64), false})
	checkScan(t, "P5.2", long[:len(long)-1], 0, told{[]string{p(api.MaxPayload), p(api.MaxPayload)}, 2 * (api.MaxPayload + 64), true})
}

// P5.1: lists that are answered are new memory: written over, they change no other answer.
func TestListsApart(t *testing.T) {
	b := row(t, 7, "ab", "cd", "ef")
	first, _, _ := Scan(b, 7)
	second, _, _ := Scan(b, 7)
	for i := range first {
		first[i] = "over"
	}
	_ = append(first[:1], "more")
	if !slices.Equal(second, []string{"ab", "cd", "ef"}) {
		t.Errorf("P5.1: a list became %q when another was written over", second)
	}
	checkScan(t, "P5.1", b, 7, told{[]string{"ab", "cd", "ef"}, 192, false})
}

// R3: payloads lie in memory of their own, so that a short one doesn't hold a whole file.
func TestNewMemory(t *testing.T) {
	b := strings.Clone(row(t, 7, "ab", "cd"))
	payload, _, _ := Next(b, 0, 7)
	payloads, _, _ := Scan(b, 7)
	whole := made(t, 7, b[:48])
	for _, s := range append(payloads, payload, whole) {
		for i := range len(b) {
			if unsafe.StringData(s) == unsafe.StringData(b[i:]) {
				t.Errorf("R3: %q lies in what was handed in", s)
			}
		}
	}
}
