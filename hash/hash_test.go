package hash

import (
	"bytes"
	"crypto/hmac"
	"crypto/sha256"
	"encoding/binary"
	"encoding/hex"
	"math/big"
	"math/rand"
	"slices"
	"strings"
	"sync"
	"testing"

	"escrow/api"
)

// The tests hold the calls against the library's SHA-256 and HMAC, and the tables against the roots that the chapter makes them of.

func randomText(r *rand.Rand, n int) string {
	b := make([]byte, n)
	r.Read(b)
	return string(b)
}

// texts is all lengths over several blocks (so each length of padding), whatever the bytes, the same each time.
func texts() []string {
	r := rand.New(rand.NewSource(1))
	l := []string{"", "a", "abc", "\x00", "\xff", "\x80", "no\x00ught", "h\u00e9llo \u2603", "\xc3\x28"}
	for n := range 260 {
		l = append(l, randomText(r, n), strings.Repeat("\x00", n), strings.Repeat("\xff", n), strings.Repeat("\x80", n))
	}
	return append(l, randomText(r, 4096), randomText(r, 8191), randomText(r, 65537))
}

// hashes is edges (a bit each, all, none) and ordinary ones.
func hashes() []api.Hash {
	r := rand.New(rand.NewSource(2))
	all := api.Hash(bytes.Repeat([]byte{0xff}, 32))
	l := []api.Hash{{}, all, api.Hash(bytes.Repeat([]byte{0x36}, 32)), api.Hash(bytes.Repeat([]byte{0x5c}, 32))}
	for bit := range 256 {
		var h api.Hash
		h[bit/8] = 1 << (bit % 8)
		l = append(l, h)
	}
	for range 40 {
		l = append(l, api.Hash([]byte(randomText(r, 32))))
	}
	return l
}

func librarySum(text string) api.Hash { return sha256.Sum256([]byte(text)) }

func libraryMac(key api.Hash, text string) api.Hash {
	m := hmac.New(sha256.New, key[:])
	m.Write([]byte(text))
	return api.Hash(m.Sum(nil))
}

// P2.1: the chapter's examples of sums.
func TestExamples(t *testing.T) {
	for _, x := range []struct {
		parts []string
		want  string
	}{
		{nil, "e3b0c44298fc1c149afbf4c8996fb92427ae41e4649b934ca495991b7852b855"},
		{[]string{}, "e3b0c44298fc1c149afbf4c8996fb92427ae41e4649b934ca495991b7852b855"},
		{[]string{""}, "e3b0c44298fc1c149afbf4c8996fb92427ae41e4649b934ca495991b7852b855"},
		{[]string{"abc"}, "ba7816bf8f01cfea414140de5dae2223b00361a396177a9cb410ff61f20015ad"},
		{[]string{"a", "", "bc"}, "ba7816bf8f01cfea414140de5dae2223b00361a396177a9cb410ff61f20015ad"},
		{[]string{"abcdbcdecdefdefgefghfghighijhijkijkljklmklmnlmnomnopnopq"}, "248d6a61d20638b8e5c026930c3e6039a33ce45964ff2167f6ecedd419db06c1"},
	} {
		if got := Hex(Sum(x.parts...)); got != x.want {
			t.Errorf("P2.1: Sum(%q) = %s, want %s", x.parts, got, x.want)
		}
	}
	if got := Hex(Sum()); got != "e3b0c44298fc1c149afbf4c8996fb92427ae41e4649b934ca495991b7852b855" {
		t.Errorf("P2.1: Sum() = %s", got)
	}
	if got := Hex(Mac(api.Hash{}, "")); got != "b613679a0814d9ec772f95d778c35fc5ff1697c493715653c6c712144292c5ad" {
		t.Errorf("P2.1: Mac(the zero key, nothing) = %s", got)
	}
}

// primes is the first n of them.
func primes(n int) []int64 {
	var l []int64
	for p := int64(2); len(l) < n; p++ {
		if !slices.ContainsFunc(l, func(q int64) bool { return p%q == 0 }) {
			l = append(l, p)
		}
	}
	return l
}

// isRoot tells if x is the first 32 bits behind the point of p's root of the given power: with some whole part ahead of it, it is the root times 2^32, rounded down.
func isRoot(x uint32, p, power int64) bool {
	bound := new(big.Int).Lsh(big.NewInt(p), uint(32*power))
	fits := func(y *big.Int) bool { return new(big.Int).Exp(y, big.NewInt(power), nil).Cmp(bound) <= 0 }
	for whole := range int64(20) {
		y := big.NewInt(whole<<32 + int64(x))
		if fits(y) && !fits(new(big.Int).Add(y, big.NewInt(1))) {
			return true
		}
	}
	return false
}

// P2.1: the constants are the roots of primes.
func TestConstants(t *testing.T) {
	for i, p := range primes(64) {
		if !isRoot(rounds[i], p, 3) {
			t.Errorf("P2.1: k(%d) = %x isn't of the cube root of %d", i, rounds[i], p)
		}
	}
	for i, p := range primes(8) {
		if !isRoot(first[i], p, 2) {
			t.Errorf("P2.1: the first state's %d, %x, isn't of the square root of %d", i, first[i], p)
		}
	}
}

// P2.1: Sum at texts of all lengths of padding, 55, 56, 63 and 64 bytes among them, and at long ones.
func TestSum(t *testing.T) {
	for _, b := range texts() {
		if got, want := Sum(b), librarySum(b); got != want {
			t.Errorf("P2.1: Sum of %d bytes = %x, want %x", len(b), got, want)
		}
	}
	for n, want := range map[int]string{
		55:   "9f4390f8d30c2dd92ec9f095b65e2b9ae9b0a925a5258e241c9f1e910f734318",
		56:   "b35439a4ac6f0948b6d6f9e3c6af0f5f590ce20f1bde7090ef7970686ec6738a",
		63:   "7d3e74a05d7db15bce4ad9ec0658ea98e3f06eeecf16b4c6fff2da457ddc2f34",
		64:   "ffe054fe7ae0cb6dc65c3af9b61d5209f439851db43d0ba5997337df154668eb",
		1000: "41edece42d63e8d9bf515a9ba6932e1c20cbc9f5a5d134645adb5db1b9737ea3",
	} {
		if got := Hex(Sum(strings.Repeat("a", n))); got != want {
			t.Errorf("P2.1: Sum of %d letters a = %s, want %s", n, got, want)
		}
	}
}

// P2.1: a length whose bits, or bytes, go beyond 2^16, and beyond 2^24.
func TestLongSum(t *testing.T) {
	for _, n := range []int{1<<13 - 1, 1 << 13, 1 << 16, 1<<21 - 1, 1 << 21, 1<<21 + 55} {
		b := strings.Repeat("x", n)
		if got, want := Sum(b), librarySum(b); got != want {
			t.Errorf("P2.1: Sum of %d bytes = %x, want %x", n, got, want)
		}
	}
}

// P2.1: the length stands behind a text in all its eight bytes, also where the text is too long to be made here.
func TestLengthPadded(t *testing.T) {
	for bit := range 61 {
		for _, n := range []uint64{1 << bit, 1<<bit - 1, 1<<bit + 55} {
			s := sum{n: n}
			s.pad()
			if got := binary.BigEndian.Uint64(s.block[56:]); got != 8*n || s.n%64 != 0 || s.n < n+9 || s.n > n+72 {
				t.Errorf("P2.1: %d bytes, padded to %d, end with %d, want %d", n, s.n, got, 8*n)
			}
		}
	}
}

// P2.1: Mac at ordinary and edge keys and texts.
func TestMac(t *testing.T) {
	all := texts()
	for _, key := range hashes() {
		for _, b := range []string{"", "a", "abc", all[200], all[300]} {
			if got, want := Mac(key, b), libraryMac(key, b); got != want {
				t.Errorf("P2.1: Mac(%x, %d bytes) = %x, want %x", key, len(b), got, want)
			}
		}
	}
	key := Sum("a key")
	for _, b := range all {
		if got, want := Mac(key, b), libraryMac(key, b); got != want {
			t.Errorf("P2.1: Mac(a key, %d bytes) = %x, want %x", len(b), got, want)
		}
	}
}

// P2.1: Mac in the chapter's own words.
func TestMacIsTwoSums(t *testing.T) {
	for _, key := range hashes() {
		over := func(c byte) string {
			b := make([]byte, 64)
			copy(b, key[:])
			for i := range b {
				b[i] ^= c
			}
			return string(b)
		}
		inner := librarySum(over(0x36) + "text")
		if got, want := Mac(key, "text"), librarySum(over(0x5c)+string(inner[:])); got != want {
			t.Errorf("P2.1: Mac(%x, text) = %x, want %x", key, got, want)
		}
	}
}

// P2.1: Hex, at each byte at each place.
func TestHex(t *testing.T) {
	for c := range 256 {
		for at := range 32 {
			h := Sum("the other places")
			h[at] = byte(c)
			if got, want := Hex(h), hex.EncodeToString(h[:]); got != want {
				t.Fatalf("P2.1: Hex(%x) = %s", h, got)
			}
		}
	}
	for _, h := range hashes() {
		if got, want := Hex(h), hex.EncodeToString(h[:]); got != want {
			t.Errorf("P2.1: Hex(%x) = %s", h, got)
		}
	}
}

// P2.1: the list that is handed in is left as it is, its spare room too, and isn't kept.
func TestListIsLeft(t *testing.T) {
	full := []string{"a", "", "bc", "spare", "room"}
	parts := full[:3]
	want := Sum("abc")
	if got := Sum(parts...); got != want {
		t.Errorf("P2.2: Sum(a, nothing, bc) = %x, want %x", got, want)
	}
	if !slices.Equal(full, []string{"a", "", "bc", "spare", "room"}) {
		t.Errorf("P2.1: Sum changed its parts: %q", full)
	}
	full[0], full[2] = "other", "texts"
	if got := Sum("abc"); got != want {
		t.Errorf("P2.1: Sum(abc) = %x behind a change of an earlier list, want %x", got, want)
	}
}

// P2.1: a call hangs on its arguments alone: not on calls ahead of it, nor beside it.
func TestOnArgumentsAlone(t *testing.T) {
	l := texts()
	var sums, macs []api.Hash
	key := Sum("a key")
	for _, b := range l {
		sums = append(sums, Sum(b))
		macs = append(macs, Mac(key, b))
	}
	var all sync.WaitGroup
	for k := range 8 {
		all.Go(func() {
			for i := range l {
				i = (i*3 + k) % len(l)
				if Sum(l[i]) != sums[i] || Mac(key, l[i]) != macs[i] {
					t.Errorf("P2.1: text %d, asked again, has another sum", i)
				}
				if h, e := Parse(Hex(sums[i])); h != sums[i] || e != api.OK {
					t.Errorf("P2.1: hash %d, asked again, is another: %x, %d", i, h, e)
				}
			}
		})
	}
	all.Wait()
}

// P2.2: a text, cut in two or three at all places, empty parts too.
func TestThreeParts(t *testing.T) {
	r := rand.New(rand.NewSource(3))
	for _, n := range []int{0, 1, 2, 55, 56, 63, 64, 65, 130} {
		b := randomText(r, n)
		want := librarySum(b)
		for i := range n + 1 {
			for j := i; j <= n; j++ {
				if got := Sum(b[:i], b[i:j], b[j:]); got != want {
					t.Fatalf("P2.2: %d bytes cut at %d and %d: %x, want %x", n, i, j, got, want)
				}
			}
		}
	}
}

// P2.2: a text in many parts, of no, one, many bytes and many blocks.
func TestManyParts(t *testing.T) {
	r := rand.New(rand.NewSource(4))
	for _, size := range []int{1, 2, 3, 63, 64, 65, 200} {
		for range 20 {
			b := randomText(r, r.Intn(1000))
			var parts []string
			for rest := b; len(rest) > 0; {
				k := min(r.Intn(size+1), len(rest))
				parts = append(parts, rest[:k])
				rest = rest[k:]
			}
			parts = append(parts, "", "")
			if got, want := Sum(parts...), librarySum(b); got != want {
				t.Errorf("P2.2: %d bytes in %d parts: %x, want %x", len(b), len(parts), got, want)
			}
		}
	}
	if got, want := Sum(make([]string, 100000)...), librarySum(""); got != want {
		t.Errorf("P2.2: many empty parts: %x, want %x", got, want)
	}
	b := strings.Repeat("ab", 100)
	if got, want := Sum(strings.Split(b, "")...), librarySum(b); got != want {
		t.Errorf("P2.2: a part each byte: %x, want %x", got, want)
	}
}

// P2.3: Parse undoes Hex.
func TestParseOfHex(t *testing.T) {
	for _, h := range hashes() {
		if got, e := Parse(Hex(h)); got != h || e != api.OK {
			t.Errorf("P2.3: Parse(Hex(%x)) = %x, %d", h, got, e)
		}
	}
	if got, e := Parse(strings.Repeat("0", 64)); got != (api.Hash{}) || e != api.OK {
		t.Errorf("P2.1: Parse of zeros = %x, %d", got, e)
	}
}

// refused holds that a text is no hash's.
func refused(t *testing.T, text string) {
	t.Helper()
	if got, e := Parse(text); got != (api.Hash{}) || e != api.ErrForm {
		t.Errorf("P2.3: Parse(%q) = %x, %d, want the zero hash and ErrForm", text, got, e)
	}
}

// P2.3: each byte at each place: taken where it is one of the sixteen digits, and then told again.
func TestParseEachByte(t *testing.T) {
	for at := range 64 {
		for c := range 256 {
			b := []byte(Hex(Sum("the other places")))
			b[at] = byte(c)
			if !strings.Contains("0123456789abcdef", string(b[at:at+1])) {
				refused(t, string(b))
				continue
			}
			if got, e := Parse(string(b)); e != api.OK || Hex(got) != string(b) {
				t.Errorf("P2.3: Parse(%q) = %x, %d", b, got, e)
			}
		}
	}
}

// P2.3: texts that are no Hex of a hash, by their length or their bytes.
func TestParseRefuses(t *testing.T) {
	for n := range 200 {
		if n != 64 {
			refused(t, strings.Repeat("0", n))
			refused(t, strings.Repeat("f", n))
		}
	}
	digits := Hex(Sum("abc"))
	for _, text := range []string{
		strings.ToUpper(digits),
		" " + digits,
		digits + " ",
		digits + "\n",
		digits + "\x00",
		" " + digits[1:],
		digits[:63] + " ",
		digits[:63] + "A",
		digits[:63] + "g",
		digits[:63] + "F",
		"0x" + digits[2:],
		"0x" + digits,
		"+" + digits[1:],
		"-" + digits[1:],
		digits[:31] + "_" + digits[32:],
		digits[:62] + "\u00e9",
		strings.Repeat("\u0661", 32), // digits, but not of these sixteen
		strings.Repeat("\u00e9", 64),
		strings.Repeat("\x00", 64),
		digits + digits,
		strings.Repeat("0", 1<<20),
	} {
		refused(t, text)
	}
}
