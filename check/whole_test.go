package check

import (
	"encoding/binary"
	"fmt"
	"math"
	"math/rand"
	"strings"
	"testing"

	"escrow/api"
	"escrow/crc"
)

// summed is a file with this in the place of the length, and the right sum of what it has.
func summed(length uint32, payload string) string {
	four := string(binary.BigEndian.AppendUint32(nil, length))
	return four + string(binary.BigEndian.AppendUint32(nil, crc.Sum(four+payload))) + payload
}

// asks: Load of a file that has this text tells the payload, or ErrCheck if it isn't whole.
func asks(t *testing.T, what, text, payload string, good bool) {
	t.Helper()
	d := made(t, 1<<22)
	is(t, "Write", d.Write("c", 0, text), api.OK)
	if good {
		loads(t, "P7.1: "+what, d, "c", payload)
	} else {
		fails(t, "P7.1: "+what, d, "c", api.ErrCheck)
	}
	if len(text) > 1000 {
		return
	}
	saves(t, d, "c", "new")
	loads(t, "P7.3: behind "+what, d, "c", "new")
}

func TestWhole(t *testing.T) {
	for _, payload := range []string{"", "a", "ab", x(56), x(300), x(1048448), strings.Repeat("\x00", 100)} {
		asks(t, fmt.Sprint(len(payload), " bytes"), laidFor(payload), payload, true)
		asks(t, fmt.Sprint(len(payload), " bytes, summed"), summed(uint32(len(payload)), payload), payload, true)
	}
}

func TestTooShort(t *testing.T) {
	for n := range 8 {
		asks(t, fmt.Sprint(n, " bytes of zeros"), strings.Repeat("\x00", n), "", false)
		asks(t, fmt.Sprint("the first ", n), laidFor("")[:n], "", false)
		asks(t, fmt.Sprint("the first ", n), laidFor("abc")[:n], "", false)
		asks(t, fmt.Sprint(n, " bytes ff"), strings.Repeat("\xff", n), "", false)
	}
}

// TestOthers: texts that have the right form nowhere.
func TestOthers(t *testing.T) {
	for n := 8; n < 200; n++ {
		asks(t, fmt.Sprint(n, " bytes of zeros"), strings.Repeat("\x00", n), "", false)
		asks(t, fmt.Sprint(n, " bytes ff"), strings.Repeat("\xff", n), "", false)
		asks(t, fmt.Sprint(n, " bytes x"), x(n), "", false)
	}
	for _, n := range []int{1048456, 1048457, 1048575, 1048576} {
		asks(t, fmt.Sprint(n, " bytes of zeros"), strings.Repeat("\x00", n), "", false)
	}
	asks(t, "the sum of the payload alone", "\x00\x00\x00\x02"+string(binary.BigEndian.AppendUint32(nil, crc.Sum("ab")))+"ab", "", false)
	asks(t, "the least byte first", "\x02\x00\x00\x00"+string(binary.BigEndian.AppendUint32(nil, crc.Sum("\x02\x00\x00\x00ab")))+"ab", "", false)
	asks(t, "the sum's least byte first", "\x00\x00\x00\x02"+string(binary.LittleEndian.AppendUint32(nil, crc.Sum("\x00\x00\x00\x02ab")))+"ab", "", false)
	asks(t, "the sum of the payload and the length", "\x00\x00\x00\x02"+string(binary.BigEndian.AppendUint32(nil, crc.Sum("ab\x00\x00\x00\x02")))+"ab", "", false)
}

// TestTurned: each byte turned in each of its bits, and in some others: of the length, of the sum, of the payload.
func TestTurned(t *testing.T) {
	for _, payload := range []string{"", "a", "ab", x(70)} {
		text := laidFor(payload)
		for i := range len(text) {
			for _, by := range []byte{1, 2, 4, 8, 16, 32, 64, 128, 255, 0x5a} {
				turned := []byte(text)
				turned[i] ^= by
				asks(t, fmt.Sprintf("byte %d turned by %d", i, by), string(turned), "", false)
			}
		}
	}
}

// TestMoreAndFewer: bytes behind those of a payload, or not all of them.
func TestMoreAndFewer(t *testing.T) {
	r := rand.New(rand.NewSource(7))
	for _, payload := range []string{"", "a", "ab", x(56), x(70)} {
		text := laidFor(payload)
		for n := range len(text) {
			asks(t, fmt.Sprint(n, " of ", len(text)), text[:n], "", false)
		}
		for n := 1; n <= 130; n++ {
			more := make([]byte, n)
			asks(t, fmt.Sprint(n, " zeros behind"), text+string(more), "", false)
			r.Read(more)
			asks(t, fmt.Sprint(n, " behind"), text+string(more), "", false)
		}
		asks(t, "two of them", text+text, "", false)
	}
	longest := laidFor(x(1048448))
	for _, n := range []int{1, 2, 64, 119, 120} {
		asks(t, fmt.Sprint(n, " behind the longest"), longest+x(n), "", false)
		asks(t, fmt.Sprint(n, " fewer than the longest"), longest[:len(longest)-n], "", false)
	}
}

// TestLengths: the length isn't that of what is there, though the sum is right.
func TestLengths(t *testing.T) {
	for _, n := range []int{0, 1, 2, 100, 255, 256, 1000} {
		payload := x(n)
		for _, length := range []int{0, 1, 2, n - 2, n - 1, n + 1, n + 2, n + 8, n + 256, n + 65536, n + 1<<24, 1048448, 1048449, 1 << 20, math.MaxInt32, math.MaxInt32 + 1, math.MaxUint32, math.MaxUint32 - 7} {
			if length < 0 || length == n {
				continue
			}
			asks(t, fmt.Sprint("length ", length, " in the place of ", n), summed(uint32(length), payload), "", false)
		}
	}
}

// TestTooLong: all is right, but the payload is longer than one may be.
func TestTooLong(t *testing.T) {
	for _, n := range []int{1048449, 1048450, 1048512, 1048567, 1048568} {
		asks(t, fmt.Sprint("a payload of ", n), summed(uint32(n), x(n)), "", false)
	}
}
