package cursor

import (
	"encoding/binary"
	"math"
	"math/rand"
	"strings"
	"testing"
	"unsafe"

	"escrow/api"
)

// The tests hold writers and readers against bytes that the library lays, and against a model that goes by the chapter's words.

// value is one that can be laid down and read again; n is a number's bits.
type value struct {
	kind string
	n    uint64
	hash api.Hash
	text string
}

var kinds = []string{"U8", "U16", "U32", "U64", "I64", "Hash", "Text", "Raw"}

// bytesOf is what the library makes of the chapter's words.
func bytesOf(v value) string {
	switch v.kind {
	case "U8":
		return string([]byte{byte(v.n)})
	case "U16":
		return string(binary.BigEndian.AppendUint16(nil, uint16(v.n)))
	case "U32":
		return string(binary.BigEndian.AppendUint32(nil, uint32(v.n)))
	case "U64", "I64":
		return string(binary.BigEndian.AppendUint64(nil, v.n))
	case "Hash":
		return string(v.hash[:])
	case "Text":
		return string(binary.BigEndian.AppendUint16(nil, uint16(len(v.text)))) + v.text
	}
	return v.text
}

func allBytes(vs []value) string {
	var b strings.Builder
	for _, v := range vs {
		b.WriteString(bytesOf(v))
	}
	return b.String()
}

func write(w *Writer, v value) {
	switch v.kind {
	case "U8":
		w.U8(uint8(v.n))
	case "U16":
		w.U16(uint16(v.n))
	case "U32":
		w.U32(uint32(v.n))
	case "U64":
		w.U64(v.n)
	case "I64":
		w.I64(int64(v.n))
	case "Hash":
		w.Hash(v.hash)
	case "Text":
		w.Text(v.text)
	case "Raw":
		w.Raw(v.text)
	}
}

// ask reads one of the kind; limit is Text's most or Raw's n.
func ask(r *Reader, kind string, limit int) value {
	v := value{kind: kind}
	switch kind {
	case "U8":
		v.n = uint64(r.U8())
	case "U16":
		v.n = uint64(r.U16())
	case "U32":
		v.n = uint64(r.U32())
	case "U64":
		v.n = r.U64()
	case "I64":
		v.n = uint64(r.I64())
	case "Hash":
		v.hash = r.Hash()
	case "Text":
		v.text = r.Text(limit)
	case "Raw":
		v.text = r.Raw(limit)
	}
	return v
}

// wants is a fixed kind's number of bytes.
func wants(kind string) int {
	return map[string]int{"U8": 1, "U16": 2, "U32": 4, "U64": 8, "I64": 8, "Hash": 32}[kind]
}

// model is the reader that the chapter's words tell of.
type model struct {
	rest  string
	fault api.Errno
}

func (m *model) broken(kind string, fault api.Errno) value {
	m.rest, m.fault = "", fault
	return value{kind: kind}
}

func (m *model) ask(kind string, limit int) value {
	switch {
	case m.fault != api.OK:
		return value{kind: kind}
	case kind == "Text":
		return m.text(limit)
	case kind == "Raw" && limit < 0:
		return m.broken(kind, api.ErrArg)
	case kind == "Raw" && limit > len(m.rest):
		return m.broken(kind, api.ErrShort)
	case kind == "Raw":
		v := value{kind: kind, text: m.rest[:limit]}
		m.rest = m.rest[limit:]
		return v
	case wants(kind) > len(m.rest):
		return m.broken(kind, api.ErrShort)
	}
	b := m.rest[:wants(kind)]
	m.rest = m.rest[len(b):]
	v := value{kind: kind}
	if kind == "Hash" {
		v.hash = api.Hash([]byte(b))
		return v
	}
	v.n = binary.BigEndian.Uint64([]byte(strings.Repeat("\x00", 8-len(b)) + b))
	return v
}

func (m *model) text(most int) value {
	if len(m.rest) < 2 {
		return m.broken("Text", api.ErrShort)
	}
	n := int(binary.BigEndian.Uint16([]byte(m.rest)))
	if n > most {
		return m.broken("Text", api.ErrLong)
	}
	if n > len(m.rest)-2 {
		return m.broken("Text", api.ErrShort)
	}
	v := value{kind: "Text", text: m.rest[2 : 2+n]}
	m.rest = m.rest[2+n:]
	return v
}

func (m *model) done() api.Errno {
	if m.fault == api.OK && m.rest != "" {
		return api.ErrForm
	}
	return m.fault
}

// checkReader asks Rest, Err and Done twice: none of them may change anything.
func checkReader(t *testing.T, promise string, r *Reader, rest string, fault, done api.Errno) {
	t.Helper()
	for range 2 {
		if r.Rest() != rest || r.Err() != fault || r.Done() != done {
			t.Fatalf("%s: Rest %.60q, Err %d, Done %d, want %.60q, %d, %d", promise, r.Rest(), r.Err(), r.Done(), rest, fault, done)
		}
	}
}

// checkWriter asks Out and Len twice: neither may change anything.
func checkWriter(t *testing.T, promise string, w *Writer, want string, fault api.Errno) {
	t.Helper()
	for range 2 {
		if got, errno := w.Out(); got != want || errno != fault || w.Len() != len(want) {
			t.Fatalf("%s: Out = %.60q, %d, Len %d, want %.60q, %d, Len %d", promise, got, errno, w.Len(), want, fault, len(want))
		}
	}
}

func randomText(r *rand.Rand, n int) string {
	b := make([]byte, n)
	r.Read(b)
	return string(b)
}

// edges is values of all kinds at both ends of their ranges, and around a sign's bit and a half's end.
func edges() []value {
	numbers := []uint64{0, 1, 2, 0x7f, 0x80, 0xff, 0x100, 0x102, 0x7fff, 0x8000, 0xffff, 0x10000, 0x7fffffff, 0x80000000, 0xffffffff, 0x100000000, 0x102030405060708, math.MaxInt64, 1 << 63, math.MaxUint64 - 1, math.MaxUint64}
	var l []value
	for _, kind := range kinds[:5] {
		for _, n := range numbers {
			if wants(kind) == 8 || n < 1<<(8*wants(kind)) {
				l = append(l, value{kind: kind, n: n})
			}
		}
	}
	l = append(l, value{kind: "Hash"}, value{kind: "Hash", hash: api.Hash{0: 7, 31: 9}}, value{kind: "Hash", hash: api.Hash([]byte(strings.Repeat("\xff", 32)))})
	for _, text := range []string{"", "a", "ab", "\x00", "\x00\x00", "\xff\xff", "h\u00e9llo", "\xc3\x28", strings.Repeat("x", 255), strings.Repeat("y", 256), strings.Repeat("z", 257)} {
		l = append(l, value{kind: "Text", text: text}, value{kind: "Raw", text: text})
	}
	return l
}

// randomValue has a number's bits cut to its kind's width.
func randomValue(r *rand.Rand) value {
	v := value{kind: kinds[r.Intn(len(kinds))]}
	switch v.kind {
	case "Hash":
		v.hash = api.Hash([]byte(randomText(r, 32)))
	case "Text", "Raw":
		v.text = randomText(r, r.Intn(20))
	default:
		v.n = r.Uint64() >> (64 - 8*wants(v.kind))
	}
	return v
}

// plain is a value of the kind that is made of a number or of a text.
func plain(kind string, n byte, text string) value {
	switch kind {
	case "Hash":
		return value{kind: kind, hash: api.Hash{0: n, 31: n}}
	case "Text", "Raw":
		return value{kind: kind, text: text}
	}
	return value{kind: kind, n: uint64(n)}
}

// lists is each edge alone, all pairs of kinds, and ordinary lists, the same each time.
func lists() [][]value {
	r := rand.New(rand.NewSource(3))
	l := [][]value{nil, edges()}
	for _, v := range edges() {
		l = append(l, []value{v})
	}
	for _, a := range kinds {
		for _, b := range kinds {
			l = append(l, []value{plain(a, 1, "p"), plain(b, 2, "qq")})
		}
	}
	for range 200 {
		var vs []value
		for range r.Intn(12) {
			vs = append(vs, randomValue(r))
		}
		l = append(l, vs)
	}
	return l
}

// limitOf is the least that reads the value: a text's length, as a limit and as a count.
func limitOf(v value) int { return len(v.text) }

// P3.1: the chapter's first example.
func TestExampleWriter(t *testing.T) {
	w := New()
	checkWriter(t, "P3.1", w, "", api.OK)
	w.U8(1)
	w.U16(258)
	w.U32(3)
	w.I64(-2)
	const numbers = "\x01\x01\x02\x00\x00\x00\x03\xff\xff\xff\xff\xff\xff\xff\xfe"
	checkWriter(t, "P3.1", w, numbers, api.OK)
	if w.Len() != 15 {
		t.Errorf("P3.1: Len = %d, want 15", w.Len())
	}
	w.Text("ab")
	checkWriter(t, "P3.1", w, numbers+"\x00\x02ab", api.OK)
	w.Raw("z")
	checkWriter(t, "P3.1", w, numbers+"\x00\x02abz", api.OK)
	w.Text(strings.Repeat("a", 65536))
	checkWriter(t, "P3.1", w, "", api.ErrLong)
	w.U8(1)
	checkWriter(t, "P3.1", w, "", api.ErrLong)
}

// call is one of a reader's calls, what it answers, and what is left behind it.
type call struct {
	kind  string
	limit int
	want  value
	rest  string
	fault api.Errno
}

// P3.1: the chapter's examples of readers.
func TestExampleReaders(t *testing.T) {
	for _, x := range []struct {
		b     string
		calls []call
	}{
		{"\x01\x01\x02\x00", []call{{"U8", 0, value{n: 1}, "\x01\x02\x00", 0}, {"U16", 0, value{n: 258}, "\x00", 0}, {"U16", 0, value{}, "", api.ErrShort}, {"U8", 0, value{}, "", api.ErrShort}}},
		{"\x00\x02ab\x07", []call{{"Text", 2, value{text: "ab"}, "\x07", 0}, {"U8", 0, value{n: 7}, "", 0}}},
		{"\x00\x02ab\x07", []call{{"Text", 1, value{}, "", api.ErrLong}}},
		{"\x00\x05a", []call{{"Text", 4, value{}, "", api.ErrLong}}},
		{"\x00\x05a", []call{{"Text", 5, value{}, "", api.ErrShort}}},
		{"\x00", []call{{"Text", -1, value{}, "", api.ErrShort}}},
		{"\x00\x00", []call{{"Text", -1, value{}, "", api.ErrLong}}},
		{"\x00\x00", []call{{"Text", 0, value{}, "", 0}}},
		{"ab", []call{{"Raw", 0, value{}, "ab", 0}, {"Raw", 2, value{text: "ab"}, "", 0}, {"Raw", 1, value{}, "", api.ErrShort}}},
		{"ab", []call{{"Raw", -1, value{}, "", api.ErrArg}}},
		{"", []call{{"Hash", 0, value{}, "", api.ErrShort}}},
	} {
		r := Open(x.b)
		for _, c := range x.calls {
			c.want.kind = c.kind
			if got := ask(r, c.kind, c.limit); got != c.want {
				t.Errorf("P3.1: of %q: %s(%d) = %v, want %v", x.b, c.kind, c.limit, got, c.want)
			}
			done := c.fault
			if c.rest != "" {
				done = api.ErrForm
			}
			checkReader(t, "P3.1", r, c.rest, c.fault, done)
		}
	}
	checkReader(t, "P3.1", Open(""), "", api.OK, api.OK)
}

// P3.4: Out and Len, behind each value.
func TestOut(t *testing.T) {
	for _, vs := range lists() {
		w := New()
		checkWriter(t, "P3.4", w, "", api.OK)
		for i, v := range vs {
			write(w, v)
			checkWriter(t, "P3.4", w, allBytes(vs[:i+1]), api.OK)
		}
	}
}

// P3.4: a number's bytes are those of its upper half and then of its lower half.
func TestHalves(t *testing.T) {
	same := func(whole, halves value, lower value) {
		a, b := New(), New()
		write(a, whole)
		write(b, halves)
		write(b, lower)
		x, _ := a.Out()
		y, _ := b.Out()
		if x != y || x == "" {
			t.Fatalf("P3.4: %v is % x, its halves are % x", whole, x, y)
		}
	}
	r := rand.New(rand.NewSource(4))
	for n := range uint64(65536) {
		same(value{kind: "U16", n: n}, value{kind: "U8", n: n >> 8}, value{kind: "U8", n: n & 0xff})
		m := r.Uint64()
		same(value{kind: "U32", n: m & 0xffffffff}, value{kind: "U16", n: m >> 16 & 0xffff}, value{kind: "U16", n: m & 0xffff})
		same(value{kind: "U64", n: m}, value{kind: "U32", n: m >> 32}, value{kind: "U32", n: m & 0xffffffff})
		same(value{kind: "I64", n: m}, value{kind: "U32", n: m >> 32}, value{kind: "U32", n: m & 0xffffffff})
	}
	for n := range 256 {
		w := New()
		w.U8(uint8(n))
		checkWriter(t, "P3.4", w, string([]byte{byte(n)}), api.OK)
	}
}

// P3.1: texts at their limit, raw texts beyond it.
func TestLongTexts(t *testing.T) {
	most := strings.Repeat("m", 65535)
	w := New()
	w.Text(most)
	checkWriter(t, "P3.1", w, "\xff\xff"+most, api.OK)
	w.Raw(most + most)
	checkWriter(t, "P3.1", w, "\xff\xff"+most+most+most, api.OK)
	r := Open("\xff\xff" + most + most + most + "!")
	if r.Text(65535) != most || r.Raw(2*65535) != most+most {
		t.Error("P3.2: long texts aren't read again")
	}
	checkReader(t, "P3.2", r, "!", api.OK, api.ErrForm)
	for _, n := range []int{65536, 65537, 131071, 131072, 1 << 20} {
		for _, before := range []string{"", "before"} {
			w := New()
			w.Raw(before)
			w.Text(strings.Repeat("l", n))
			checkWriter(t, "P3.1", w, "", api.ErrLong)
		}
	}
}

// P3.1: a broken writer lays nothing, whatever is called behind its fault.
func TestBrokenWriter(t *testing.T) {
	for _, vs := range lists() {
		w := New()
		for _, v := range vs {
			write(w, v)
		}
		w.Text(strings.Repeat("l", 65536))
		checkWriter(t, "P3.1", w, "", api.ErrLong)
		for _, v := range append(vs, edges()...) {
			write(w, v)
			checkWriter(t, "P3.1", w, "", api.ErrLong)
		}
	}
}

// P3.1: writers are each its own, and what one told stays as it was.
func TestWritersApart(t *testing.T) {
	a, b := New(), New()
	a.Raw("aaaa")
	early, _ := a.Out()
	b.Raw("b")
	a.U8('A')
	late, _ := a.Out()
	a.Text(strings.Repeat("l", 65536))
	checkWriter(t, "P3.1", b, "b", api.OK)
	checkWriter(t, "P3.1", New(), "", api.OK)
	if early != "aaaa" || late != "aaaaA" {
		t.Errorf("P3.1: told %q and %q, want aaaa and aaaaA", early, late)
	}
}

// P3.2: what was laid down is read again, and just what stands behind it is left.
func TestThereAndBack(t *testing.T) {
	for _, vs := range lists() {
		w := New()
		for _, v := range vs {
			write(w, v)
		}
		b, _ := w.Out()
		for _, tail := range []string{"", "\x00", "tail", strings.Repeat("t", 70)} {
			for _, more := range []int{0, 1, 65535, math.MaxInt - 300} {
				r := Open(b + tail)
				for _, v := range vs {
					limit := limitOf(v)
					if v.kind == "Text" {
						limit += more
					}
					if got := ask(r, v.kind, limit); got != v {
						t.Fatalf("P3.2: read %v, want %v", got, v)
					}
				}
				done := api.OK
				if tail != "" {
					done = api.ErrForm
				}
				checkReader(t, "P3.2", r, tail, api.OK, done)
			}
		}
	}
}

// P3.3: cut anywhere, the values that are whole are read, and the next breaks the reader.
func TestCutShort(t *testing.T) {
	for _, vs := range lists() {
		b := allBytes(vs)
		for cut := range len(b) {
			r := Open(b[:cut])
			at := 0
			broken := false
			for _, v := range vs {
				at += len(bytesOf(v))
				got := ask(r, v.kind, limitOf(v))
				if broken = broken || at > cut; !broken {
					if got != v || r.Err() != api.OK || r.Rest() != b[at:cut] {
						t.Fatalf("P3.3: cut at %d of %d: read %v, %d, want %v", cut, len(b), got, r.Err(), v)
					}
					continue
				}
				if got != (value{kind: v.kind}) {
					t.Fatalf("P3.3: cut at %d of %d: read %v behind the cut", cut, len(b), got)
				}
				checkReader(t, "P3.3", r, "", api.ErrShort, api.ErrShort)
			}
		}
	}
}

// P3.1: a text's limit and length, and what is left behind it.
func TestTextLimits(t *testing.T) {
	for _, n := range []int{0, 1, 2, 3, 255, 256, 257, 65534, 65535} {
		head := string(binary.BigEndian.AppendUint16(nil, uint16(n)))
		for _, left := range []int{0, 1, n - 1, n, n + 1} {
			if left < 0 {
				continue
			}
			b := head + strings.Repeat("t", left)
			for _, most := range []int{math.MinInt, math.MinInt + 1, -65536, -2, -1, 0, 1, n - 1, n, n + 1, 65535, 65536, math.MaxInt} {
				checkAsked(t, b, "Text", most)
			}
		}
	}
}

// P3.1: a raw text's length, and what is left.
func TestRawLimits(t *testing.T) {
	for _, left := range []int{0, 1, 2, 300} {
		for _, n := range []int{math.MinInt, math.MinInt + 1, -2, -1, 0, 1, left - 1, left, left + 1, 1 << 31, 1 << 32, math.MaxInt - 1, math.MaxInt} {
			checkAsked(t, strings.Repeat("r", left), "Raw", n)
		}
	}
}

// P3.1: each kind, of as many bytes as there may be.
func TestFewBytes(t *testing.T) {
	r := rand.New(rand.NewSource(5))
	for n := range 40 {
		for _, kind := range kinds {
			checkAsked(t, randomText(r, n), kind, n)
			checkAsked(t, strings.Repeat("\x00", n), kind, n)
			checkAsked(t, strings.Repeat("\xff", n), kind, n)
		}
	}
}

// checkAsked holds one call, and those behind it, against the model.
func checkAsked(t *testing.T, b, kind string, limit int) {
	t.Helper()
	r, m := Open(b), &model{rest: b}
	checkReader(t, "P3.1", r, m.rest, m.fault, m.done())
	if got, want := ask(r, kind, limit), m.ask(kind, limit); got != want {
		t.Fatalf("P3.1: of %d bytes %.40q: %s(%d) = %v, want %v", len(b), b, kind, limit, got, want)
	}
	checkReader(t, "P3.1", r, m.rest, m.fault, m.done())
	for _, next := range kinds {
		if got, want := ask(r, next, 1), m.ask(next, 1); got != want {
			t.Fatalf("P3.1: of %d bytes %.40q: behind %s(%d): %s = %v, want %v", len(b), b, kind, limit, next, got, want)
		}
		checkReader(t, "P3.1", r, m.rest, m.fault, m.done())
	}
}

// P3.1: broken in each way, a reader reads nothing and keeps its fault, whatever is called behind it.
func TestBrokenReader(t *testing.T) {
	plenty := strings.Repeat("\x00", 100)
	for _, x := range []struct {
		b, kind string
		limit   int
		fault   api.Errno
	}{
		{"", "U8", 0, api.ErrShort},
		{"a", "U16", 0, api.ErrShort},
		{"abc", "U32", 0, api.ErrShort},
		{"abcdefg", "U64", 0, api.ErrShort},
		{"abcdefg", "I64", 0, api.ErrShort},
		{plenty[:31], "Hash", 0, api.ErrShort},
		{"a", "Text", 9, api.ErrShort},
		{"\x00\x09" + plenty[:8], "Text", 9, api.ErrShort},
		{"\x00\x09" + plenty, "Text", 8, api.ErrLong},
		{"\x00\x09" + plenty, "Text", -1, api.ErrLong},
		{plenty, "Text", -1, api.ErrLong},
		{plenty, "Raw", 101, api.ErrShort},
		{plenty, "Raw", -1, api.ErrArg},
		{"", "Raw", -1, api.ErrArg},
	} {
		r := Open(x.b)
		if got := ask(r, x.kind, x.limit); got != (value{kind: x.kind}) {
			t.Errorf("P3.1: %s(%d) of %.20q = %v", x.kind, x.limit, x.b, got)
		}
		checkReader(t, "P3.1", r, "", x.fault, x.fault)
		for _, limit := range []int{-1, 0, 1, 65535, math.MaxInt, math.MinInt} {
			for _, kind := range kinds {
				if got := ask(r, kind, limit); got != (value{kind: kind}) {
					t.Errorf("P3.1: %s(%d) of a broken reader = %v", kind, limit, got)
				}
				checkReader(t, "P3.1", r, "", x.fault, x.fault)
			}
		}
	}
}

// P3.1: calls in every order, of bytes that nobody laid down, as the model answers.
func TestEveryOrder(t *testing.T) {
	r := rand.New(rand.NewSource(6))
	limits := []int{math.MinInt, -1, 0, 1, 2, 5, 20, 65535, math.MaxInt}
	for range 20000 {
		b := randomText(r, r.Intn(120))
		if r.Intn(2) == 0 { // small lengths, so that texts are read too
			b = strings.Map(func(c rune) rune { return c % 4 }, b)
		}
		got, want := Open(b), &model{rest: b}
		for range r.Intn(12) {
			kind := kinds[r.Intn(len(kinds))]
			limit := limits[r.Intn(len(limits))]
			if r.Intn(3) > 0 {
				limit = r.Intn(10)
			}
			if x, y := ask(got, kind, limit), want.ask(kind, limit); x != y {
				t.Fatalf("P3.1: of %q: %s(%d) = %v, want %v", b, kind, limit, x, y)
			}
			checkReader(t, "P3.1", got, want.rest, want.fault, want.done())
		}
	}
}

// P3.1: readers of one text are each its own.
func TestReadersApart(t *testing.T) {
	const b = "\x01\x02\x03"
	x, y := Open(b), Open(b)
	x.Raw(-1)
	if y.U16() != 0x102 {
		t.Error("P3.1: a reader is told by another's fault")
	}
	checkReader(t, "P3.1", x, "", api.ErrArg, api.ErrArg)
	checkReader(t, "P3.1", y, "\x03", api.OK, api.ErrForm)
	checkReader(t, "P3.1", Open(b), b, api.OK, api.ErrForm)
}

// R3: the texts of an answer are new memory, so that a short one doesn't hold a long one.
func TestNewMemory(t *testing.T) {
	b := strings.Clone("\x00\x02abcdef")
	r := Open(b)
	text, raw, rest := r.Text(2), r.Raw(2), r.Rest()
	for i := range len(b) {
		for _, s := range []string{text, raw, rest} {
			if unsafe.StringData(s) == unsafe.StringData(b[i:]) {
				t.Errorf("R3: %q lies in what was opened", s)
			}
		}
	}
}
