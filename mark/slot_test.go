package mark

import (
	"encoding/binary"
	"fmt"
	"hash/crc32"
	"math"
	"math/bits"
	"strings"
	"testing"

	"escrow/api"
)

// asks: Open of a file with these bytes tells this value, and the next Raise writes this slot; with next -1: ErrMark.
func asks(t *testing.T, what, text string, value int64, next int) {
	t.Helper()
	d := laid(t, text)
	if next < 0 {
		unasked(t, "P19.1: "+what, d, "m", api.ErrMark)
		return
	}
	m := opens(t, "P19.1: "+what, d, "m", value)
	holds(t, "P19.1: Open writes nothing: "+what, d, "m", text)
	if value == maxIndex {
		return
	}
	raises(t, "P19.1: "+what, m, maxIndex)
	want := of(maxIndex) + text[64:]
	if next == 1 {
		want = text[:64] + of(maxIndex)
	}
	holds(t, "P19.1: "+what, d, "m", want)
}

var numbers = []int64{-1, 0, 1, 2, 5, 127, 128, 255, 256, 65535, 65536, 1<<32 - 1, 1 << 32, 0x010203040506, maxIndex - 1, maxIndex}

// P19.1: all pairs of whole slots.
func TestBothWhole(t *testing.T) {
	for _, a := range numbers {
		for _, b := range numbers {
			next := 1
			if a < b {
				next = 0
			}
			asks(t, fmt.Sprint("slots of ", a, " and ", b), of(a)+of(b), max(a, b), next)
		}
	}
}

// spoilt are sectors that aren't whole.
func spoilt() map[string]string {
	sums := func(v int64) string { return of(v)[:12] }
	none := map[string]string{
		"zeros":                      zeros(64),
		"ff":                         strings.Repeat("\xff", 64),
		"a slot from the byte 1 on":  of(5)[1:] + "\x00",
		"a slot behind a byte":       "\x00" + of(5)[:63],
		"a slot behind twelve":       zeros(12) + of(5)[:52],
		"the number alone":           of(5)[:8] + zeros(56),
		"the sum alone":              zeros(8) + of(5)[8:],
		"the sum of another":         of(5)[:8] + of(6)[8:],
		"the sum's bytes turned":     of(5)[:8] + sums(5)[11:] + sums(5)[10:11] + sums(5)[9:10] + sums(5)[8:9] + zeros(52),
		"the number's bytes turned":  summed("\x05\x00\x00\x00\x00\x00\x00\x00"),
		"the sum of the other kind":  of(5)[:8] + four(crc32.ChecksumIEEE([]byte(of(5)[:8]))) + zeros(52),
		"the sum of twelve bytes":    of(5)[:8] + four(castagnoli(of(5)[:8]+"\x00\x00\x00\x00")) + zeros(52),
		"the sum inverted":           of(5)[:8] + four(^castagnoli(of(5)[:8])) + zeros(52),
		"a number of four bytes":     "\x00\x00\x00\x05" + four(castagnoli("\x00\x00\x00\x05")) + zeros(56),
		"the sum of the whole slot":  of(5)[:8] + four(castagnoli(of(5)[:8]+zeros(56))) + zeros(52),
		"the text of a number":       "5" + zeros(63),
		"the first sum's bits moved": of(5)[:8] + four(bits.RotateLeft32(castagnoli(of(5)[:8]), 8)) + zeros(52),
	}
	for _, v := range []int64{-2, -3, -256, -257, -1 << 48, math.MinInt64, math.MinInt64 + 1, maxIndex + 1, maxIndex + 2, 1<<48 + 5, 1 << 56, 1 << 62, math.MaxInt64} {
		none[fmt.Sprint("the slot of ", v)] = of(v)
	}
	return none
}

func castagnoli(text string) uint32 {
	return crc32.Checksum([]byte(text), crc32.MakeTable(crc32.Castagnoli))
}

func four(n uint32) string { return string(binary.BigEndian.AppendUint32(nil, n)) }

// summed is a sector of these eight bytes with their right sum.
func summed(number string) string { return number + four(castagnoli(number)) + zeros(52) }

// P19.1: one slot isn't whole: the other one counts, whatever its number; neither is: ErrMark.
func TestOneWhole(t *testing.T) {
	for what, none := range spoilt() {
		if len(none) != 64 {
			t.Fatalf("%s has %d bytes", what, len(none))
		}
		for _, v := range numbers {
			asks(t, what+" first", none+of(v), v, 0)
			asks(t, what+" second", of(v)+none, v, 1)
		}
		for other, second := range spoilt() {
			asks(t, what+" and "+other, none+second, 0, -1)
		}
	}
}

// P19.1: each bit of the first twelve bytes turned: not whole. Of those behind them: whole all the same.
func TestBitsTurned(t *testing.T) {
	for _, v := range []int64{-1, 0, 5, maxIndex} {
		for bit := range 512 {
			turned := []byte(of(v))
			turned[bit/8] ^= 1 << (bit % 8)
			what := fmt.Sprintf("bit %d of the slot of %d turned", bit, v)
			if bit >= 96 {
				asks(t, what, string(turned)+zeros(64), v, 1)
				asks(t, what, zeros(64)+string(turned), v, 0)
				asks(t, what, string(turned)+of(v), v, 1)
				continue
			}
			asks(t, what, string(turned)+zeros(64), 0, -1)
			asks(t, what, zeros(64)+string(turned), 0, -1)
			asks(t, what, string(turned)+of(3), 3, 0)
			asks(t, what, of(3)+string(turned), 3, 1)
		}
	}
}

// P19.1: what stands behind the twelve bytes doesn't count, be it another slot.
func TestBehindTheHead(t *testing.T) {
	for _, rest := range []string{strings.Repeat("x", 52), of(9)[:52], strings.Repeat("\xff", 52)} {
		asks(t, "a rest first", of(5)[:12]+rest+of(4), 5, 1)
		asks(t, "a rest second", of(4)+of(5)[:12]+rest, 5, 0)
		asks(t, "a rest alone", of(5)[:12]+rest+zeros(64), 5, 1)
		asks(t, "two rests", of(5)[:12]+rest+of(5)[:12]+rest, 5, 1)
	}
}

// P19.1: just 128 bytes are a mark's, whatever they are.
func TestLengths(t *testing.T) {
	text := strings.Repeat(of(5), 5)
	for n := range 300 {
		if n == 128 {
			asks(t, "128 bytes", text[:n], 5, 1)
			continue
		}
		asks(t, fmt.Sprint(n, " bytes"), text[:n], 0, -1)
	}
	d := made(t, 1<<21)
	d.Write("m", 0, strings.Repeat(of(5), 1<<14))
	unasked(t, "P19.1: the longest file", d, "m", api.ErrMark)
}

// P19.1: what is dirty stays so with ErrMark, and is safe behind an Open that is OK.
func TestOpenMakesSafe(t *testing.T) {
	for _, c := range []struct {
		first, then string
		value       int64
	}{
		{of(1) + of(2), of(3) + of(2), 3},
		{zeros(128), of(3) + of(4), 4},
		{of(1) + of(2), "junk" + zeros(60) + of(2), 2},
		{of(1) + of(2), of(1) + zeros(64), 1},
	} {
		d := laid(t, c.first)
		d.Write("m", 0, c.then)
		opens(t, "P19.3", d, "m", c.value)
		holds(t, "P19.3", d, "m", c.then)
	}
	d := laid(t, of(1)+of(2))
	d.Write("m", 0, zeros(128))
	unasked(t, "P19.1", d, "m", api.ErrMark)
	if dirty := d.Dirty("m"); len(dirty) != 2 {
		t.Fatalf("P19.1: of the file %v are dirty", dirty)
	}
	crash(d)
	opens(t, "P19.1", d, "m", 2)
}
