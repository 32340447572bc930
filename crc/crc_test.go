package crc

import (
	"hash/crc32"
	"math"
	"math/rand"
	"strings"
	"sync"
	"testing"
)

// The tests hold the calls against the chapter's words, done one step after the other, and against the library's CRC32C.

func slowStep(x uint32) uint32 {
	low := x % 2
	x /= 2
	if low == 1 {
		x ^= 0x82f63b78
	}
	return x
}

func slowTurn(x uint32, b string) uint32 {
	for _, c := range []byte(b) {
		x ^= uint32(c)
		for range 8 {
			x = slowStep(x)
		}
	}
	return x
}

func slowSum(b string) uint32 { return ^slowTurn(0xffffffff, b) }

// times is the product of two polynomials in the sums' form, modulo CRC32C's: another way to many steps than the package's own.
func times(a, b uint32) uint32 {
	var p uint32
	for i := 31; i >= 0; i-- {
		if a>>i&1 == 1 {
			p ^= b
		}
		b = slowStep(b)
	}
	return p
}

// far is what 8 n steps make of x, n being at least 0.
func far(x uint32, n int) uint32 {
	power := uint32(1) << 23 // eight steps of the number that stands for 1
	for ; n > 0; n /= 2 {
		if n%2 == 1 {
			x = times(x, power)
		}
		power = times(power, power)
	}
	return x
}

func randomText(r *rand.Rand, n int) string {
	b := make([]byte, n)
	r.Read(b)
	return string(b)
}

// texts is ordinary ones and edges, the same each time.
func texts() []string {
	r := rand.New(rand.NewSource(1))
	l := []string{"", "a", "bc", "abc", "123456789", "\x00", "\xff", "\x80", "\x01", "\x0f", "\xf0", "no\x00ught", "h\u00e9llo \u2603", "\xc3\x28", strings.Repeat("\x00", 32), strings.Repeat("\xff", 32), strings.Repeat("\x00", 1000)}
	for n := range 80 {
		l = append(l, randomText(r, n))
	}
	return append(l, randomText(r, 4096), randomText(r, 65537))
}

func numbers() []uint32 {
	r := rand.New(rand.NewSource(2))
	l := []uint32{0, 1, 2, 0xf, 0x10, 0xff, 0x7fffffff, 0x80000000, 0xffffffff, 0x82f63b78, 0xc1d04330}
	for range 40 {
		l = append(l, r.Uint32())
	}
	return l
}

// P1.1: the chapter's examples.
func TestExamples(t *testing.T) {
	for _, x := range []struct {
		b    string
		want uint32
	}{
		{"", 0},
		{"123456789", 0xe3069283},
		{strings.Repeat("\x00", 32), 0x8a9136aa},
		{strings.Repeat("\xff", 32), 0x62a8ab43},
		{"a", 0xc1d04330},
		{"abc", 0x364b3fb7},
	} {
		if got := Sum(x.b); got != x.want {
			t.Errorf("P1.1: Sum(%q) = %x, want %x", x.b, got, x.want)
		}
	}
	if got := On(0xc1d04330, "bc"); got != 0x364b3fb7 {
		t.Errorf("P1.1: On(c1d04330, bc) = %x", got)
	}
	if got := On(0, "a"); got != 0xc1d04330 {
		t.Errorf("P1.1: On(0, a) = %x", got)
	}
	for _, x := range []struct {
		a, b uint32
		n    int
		want uint32
	}{
		{0xc1d04330, Sum("bc"), 2, 0x364b3fb7},
		{0, 5, 7, 5},
		{0xdeadbeef, 0, 0, 0xdeadbeef},
		{0xdeadbeef, 0, -3, 0xdeadbeef},
		{1, 0, 1, 0xf26b8303},
	} {
		if got := Join(x.a, x.b, x.n); got != x.want {
			t.Errorf("P1.1: Join(%x, %x, %d) = %x, want %x", x.a, x.b, x.n, got, x.want)
		}
	}
}

// P1.1: Sum and On do what the chapter's steps do, at every text and number.
func TestSumAndOn(t *testing.T) {
	castagnoli := crc32.MakeTable(crc32.Castagnoli)
	for _, b := range texts() {
		if got, want := Sum(b), slowSum(b); got != want {
			t.Errorf("P1.1: Sum of %d bytes = %x, want %x", len(b), got, want)
		}
		if got, want := Sum(b), crc32.Checksum([]byte(b), castagnoli); got != want {
			t.Errorf("P1.1: Sum of %d bytes = %x, the library's %x", len(b), got, want)
		}
		if len(b) > 100 {
			continue
		}
		for _, x := range numbers() {
			if got, want := On(x, b), ^slowTurn(^x, b); got != want {
				t.Errorf("P1.1: On(%x, %d bytes) = %x, want %x", x, len(b), got, want)
			}
		}
	}
	for _, x := range numbers() {
		if got := On(x, ""); got != x {
			t.Errorf("P1.1: On(%x, nothing) = %x", x, got)
		}
	}
}

// P1.1: every single byte, from every half byte of the table on.
func TestEachByte(t *testing.T) {
	for c := range 256 {
		b := string([]byte{byte(c)})
		for _, x := range numbers() {
			if got, want := On(x, b), ^slowTurn(^x, b); got != want {
				t.Errorf("P1.1: On(%x, %q) = %x, want %x", x, b, got, want)
			}
		}
	}
}

// P1.1: what four steps make of each half byte.
func TestHalfBytes(t *testing.T) {
	for i, got := range halfBytes() {
		want := uint32(i)
		for range 4 {
			want = slowStep(want)
		}
		if got != want {
			t.Errorf("P1.1: half byte %x: %x, want %x", i, got, want)
		}
	}
}

// P1.1: Join does 8 n steps, done one by one where n is small.
func TestJoinNear(t *testing.T) {
	for _, a := range numbers() {
		x := a
		for n := range 300 {
			if got := Join(a, 0x12345678, n); got != x^0x12345678 {
				t.Fatalf("P1.1: Join(%x, 12345678, %d) = %x, want %x", a, n, got, x^0x12345678)
			}
			for range 8 {
				x = slowStep(x)
			}
		}
	}
}

// P1.1: n at and below 0.
func TestJoinBelowZero(t *testing.T) {
	for _, n := range []int{0, -1, -3, -8, math.MinInt32, math.MinInt + 1, math.MinInt} {
		for _, a := range numbers() {
			for _, b := range []uint32{0, 5, 0xffffffff} {
				if got := Join(a, b, n); got != a^b {
					t.Errorf("P1.1: Join(%x, %x, %d) = %x, want %x", a, b, n, got, a^b)
				}
			}
		}
	}
}

// P1.1: n up to the greatest; 8 n is beyond every int there.
func TestJoinFar(t *testing.T) {
	ns := []int{1 << 20, math.MaxInt32 - 1, math.MaxInt32, math.MaxInt/8 - 1, math.MaxInt / 8, math.MaxInt/8 + 1, math.MaxInt / 2, math.MaxInt/2 + 1, math.MaxInt - 1, math.MaxInt}
	for n := 1; n > 0; n *= 2 {
		ns = append(ns, n, n-1, n+1)
	}
	for _, n := range ns {
		for _, a := range numbers() {
			if got, want := Join(a, 9, n), far(a, n)^9; got != want {
				t.Errorf("P1.1: Join(%x, 9, %d) = %x, want %x", a, n, got, want)
			}
		}
	}
	// The steps come round after 2^31 - 1 of them, and the greatest int64 is 1 more than a multiple of that.
	if got := Join(1, 0, math.MaxInt); math.MaxInt == math.MaxInt64 && got != 0xf26b8303 {
		t.Errorf("P1.1: Join(1, 0, the greatest) = %x", got)
	}
}

// P1.1: a call hangs on its arguments alone: not on calls ahead of it, nor beside it.
func TestOnArgumentsAlone(t *testing.T) {
	l := texts()
	var first []uint32
	for _, b := range l {
		first = append(first, Sum(b))
	}
	joined := Join(0xc1d04330, 7, math.MaxInt)
	var all sync.WaitGroup
	for k := range 8 {
		all.Go(func() {
			for i := range l {
				i = (i*3 + k) % len(l)
				if got := On(0, l[i]); got != first[i] {
					t.Errorf("P1.1: text %d, asked again: %x, first %x", i, got, first[i])
				}
				if got := Join(0xc1d04330, 7, math.MaxInt); got != joined {
					t.Errorf("P1.1: Join, asked again: %x, first %x", got, joined)
				}
			}
		})
	}
	all.Wait()
}

// oneNumber holds all ways to the sum of three parts against each other.
func oneNumber(t *testing.T, x, y, z string) {
	t.Helper()
	want := slowSum(x + y + z)
	for name, got := range map[string]uint32{
		"Sum":               Sum(x + y + z),
		"On, On":            On(On(Sum(x), y), z),
		"On":                On(Sum(x), y+z),
		"Join, Join":        Join(Join(Sum(x), Sum(y), len(y)), Sum(z), len(z)),
		"Join of a Join":    Join(Sum(x), Join(Sum(y), Sum(z), len(z)), len(y)+len(z)),
		"Join":              Join(Sum(x), Sum(y+z), len(y)+len(z)),
		"On, then Join":     Join(On(Sum(x), y), Sum(z), len(z)),
		"Join, then On":     On(Join(Sum(x), Sum(y), len(y)), z),
		"Join with an On":   Join(Sum(x), On(Sum(y), z), len(y)+len(z)),
		"On, three from 0":  On(On(On(0, x), y), z),
		"Join with nothing": Join(Join(0, Sum(x), len(x)), Sum(y+z), len(y+z)),
	} {
		if got != want {
			t.Errorf("P1.2: %d, %d, %d bytes: %s tells %x, want %x", len(x), len(y), len(z), name, got, want)
		}
	}
}

// P1.2: a text, cut in two or three at all places, the empty parts too.
func TestParts(t *testing.T) {
	r := rand.New(rand.NewSource(3))
	for _, b := range []string{"", "a", "ab", "123456789", strings.Repeat("\x00", 33), strings.Repeat("\xff", 33), randomText(r, 64)} {
		for i := range len(b) + 1 {
			for j := i; j <= len(b); j++ {
				oneNumber(t, b[:i], b[i:j], b[j:])
			}
		}
	}
}

// P1.2: long parts.
func TestLongParts(t *testing.T) {
	r := rand.New(rand.NewSource(4))
	b := randomText(r, 1<<18+5)
	for range 4 {
		i := r.Intn(len(b) + 1)
		j := i + r.Intn(len(b)-i+1)
		oneNumber(t, b[:i], b[i:j], b[j:])
	}
}

func overlaid(x ...string) string {
	b := []byte(x[0])
	for _, y := range x[1:] {
		for i := range b {
			b[i] ^= y[i]
		}
	}
	return string(b)
}

// P1.3: texts that differ in one to four bytes in a row have unlike sums.
func TestFourBytes(t *testing.T) {
	r := rand.New(rand.NewSource(5))
	for _, n := range []int{1, 2, 3, 4, 5, 8, 64, 300} {
		b := randomText(r, n)
		for at := range n {
			for wide := 1; wide <= 4 && at+wide <= n; wide++ {
				for k := range 12 {
					d := []byte(randomText(r, wide))
					if k < 8 { // a single bit as well
						d = make([]byte, wide)
					}
					d[0] |= 1 << (k % 8)
					other := overlaid(b, strings.Repeat("\x00", at)+string(d)+strings.Repeat("\x00", n-at-wide))
					if Sum(b) == Sum(other) {
						t.Errorf("P1.3: %q and %q have the sum %x", b, other, Sum(b))
					}
				}
			}
		}
	}
}

// P1.3: all differences of four bytes in a row: laid over one another sums say sums, so it is enough that those of the 32 single bits are independent.
func TestFourBytesAll(t *testing.T) {
	for _, n := range []int{4, 5, 7, 64, 200} {
		for at := range n - 3 {
			var basis [32]uint32
			for bit := range 32 {
				d := make([]byte, n)
				d[at+bit/8] = 1 << (bit % 8)
				x := Sum(string(d)) ^ Sum(strings.Repeat("\x00", n))
				for i := 31; i >= 0 && x != 0; i-- {
					if x>>i&1 == 0 {
						continue
					}
					if basis[i] == 0 {
						basis[i] = x
						break
					}
					x ^= basis[i]
				}
				if x == 0 {
					t.Fatalf("P1.3: %d bytes: a difference in the four from %d on has the sum of none", n, at)
				}
			}
		}
	}
}

// P1.3: three texts of one length, laid over one another.
func TestThreeTexts(t *testing.T) {
	r := rand.New(rand.NewSource(6))
	for _, n := range []int{0, 1, 2, 3, 4, 7, 32, 63, 64, 65, 1000, 65536} {
		for range 20 {
			x, y, z := randomText(r, n), randomText(r, n), randomText(r, n)
			if got, want := Sum(x)^Sum(y)^Sum(z), Sum(overlaid(x, y, z)); got != want {
				t.Errorf("P1.3: three of %d bytes: %x, want %x", n, got, want)
			}
		}
	}
}
