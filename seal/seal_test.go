package seal

import (
	"crypto/hmac"
	"crypto/sha256"
	"encoding/hex"
	"math/rand"
	"strings"
	"sync"
	"testing"
	"unicode/utf8"

	"escrow/api"
	"escrow/hash"
)

// The tests hold the calls against the library's HMAC, and against layer 2's sum under a key, which the chapter says that a seal is.

// sealed is a key and a text, and the seal that the library makes of them.
type sealed struct {
	key  api.Hash
	text string
	want api.Hash
}

func libraryMac(key api.Hash, text string) api.Hash {
	m := hmac.New(sha256.New, key[:])
	m.Write([]byte(text))
	return api.Hash(m.Sum(nil))
}

func full(b byte) api.Hash { return api.Hash([]byte(strings.Repeat(string([]byte{b}), 32))) }

func keyByChance(r *rand.Rand) api.Hash {
	var h api.Hash
	r.Read(h[:])
	return h
}

func textByChance(r *rand.Rand, n int) string {
	b := make([]byte, n)
	r.Read(b)
	return string(b)
}

// turned is a hash with one of its 256 bits turned.
func turned(h api.Hash, bit int) api.Hash {
	h[bit/8] ^= 1 << (bit % 8)
	return h
}

// keys is the edges, the bytes that the sum under a key lays over, a bit alone at either end, and some by chance.
func keys() []api.Hash {
	l := []api.Hash{{}, full(255), full(0x36), full(0x5c), full(7), turned(api.Hash{}, 0), turned(api.Hash{}, 255)}
	r := rand.New(rand.NewSource(111))
	for range 8 {
		l = append(l, keyByChance(r))
	}
	return l
}

// lengths is those on both sides of a whole block, of a block's padding and of a hash.
func lengths() []int {
	return []int{0, 1, 31, 32, 33, 55, 56, 63, 64, 65, 119, 120, 1000}
}

// strange is texts whose bytes mean something elsewhere: ends, marks, runes and what is none.
func strange() []string {
	return []string{"a", "Hi There", "\x00", "\x00\x00", "a\x00", "\x00a", "no\x00ught", "\x7f", "\x80", "\xff", "h\u00e9llo \u2603", "\U0001f600", "\xc3\x28", "\xed\xa0\x80", "\xf8\x88", "\ufffd", "a\r\n", "\n", " a", "a "}
}

// texts is the strange ones, and of each length zeros, bytes 255 and others by chance; a long one.
func texts() []string {
	l := strange()
	r := rand.New(rand.NewSource(112))
	for _, n := range lengths() {
		l = append(l, strings.Repeat("\x00", n), strings.Repeat("\xff", n), strings.Repeat("a", n), textByChance(r, n))
	}
	return append(l, textByChance(r, 70001))
}

// all is each key with each text.
func all() []sealed {
	var l []sealed
	for _, key := range keys() {
		for _, text := range texts() {
			l = append(l, sealed{key, text, libraryMac(key, text)})
		}
	}
	return l
}

// short is a text's beginning, for a message.
func short(text string) string { return text[:min(len(text), 40)] }

func checkRight(t *testing.T, key api.Hash, text string, sig api.Hash, want bool, why string) {
	t.Helper()
	if got := Right(key, text, sig); got != want {
		t.Errorf("P11.2: Right(%x, %q.. (%d bytes), %x) tells %v, want %v: %s", key, short(text), len(text), sig, got, want, why)
	}
}

func TestExamples(t *testing.T) {
	h, err := hex.DecodeString("b613679a0814d9ec772f95d778c35fc5ff1697c493715653c6c712144292c5ad")
	if err != nil {
		t.Fatal(err)
	}
	want := api.Hash(h)
	if got := Sign(api.Hash{}, ""); got != want {
		t.Errorf("P11.1: Sign(32 bytes 0, nothing) tells %x", got)
	}
	checkRight(t, api.Hash{}, "", want, true, "example 1")
	want[31] = 0xac
	checkRight(t, api.Hash{}, "", want, false, "example 1, the last byte ac")
	for _, k := range keys() {
		checkRight(t, k, "a", Sign(k, "a"), true, "example 2")
	}
}

// The sums under a key that are known for HMAC with SHA-256; a shorter key is one with zeros behind it.
func TestKnownSums(t *testing.T) {
	for _, x := range []struct{ key, text, want string }{
		{strings.Repeat("\x0b", 20), "Hi There", "b0344c61d8db38535ca8afceaf0bf12b881dc200c9833da726e9376c2e32cff7"},
		{"Jefe", "what do ya want for nothing?", "5bdcc146bf60754e6a042426089575c75a003f089d2739839dec58b964ec3843"},
		{strings.Repeat("\xaa", 20), strings.Repeat("\xdd", 50), "773ea91e36800e46854db8ebd09181a72959098b3ef8c122d9635514ced565fe"},
	} {
		var key api.Hash
		copy(key[:], x.key)
		got := Sign(key, x.text)
		if hex.EncodeToString(got[:]) != x.want {
			t.Errorf("P11.1: Sign(%x, %q) tells %x, want %s", key, x.text, got, x.want)
		}
		checkRight(t, key, x.text, got, true, "a known sum")
	}
}

func TestTextsAreOfAllKinds(t *testing.T) {
	wrong, high, zero := 0, 0, 0
	for _, text := range texts() {
		if !utf8.ValidString(text) {
			wrong++
		}
		if strings.ContainsFunc(text, func(c rune) bool { return c > 127 }) {
			high++
		}
		if strings.Contains(text, "\x00") {
			zero++
		}
	}
	if wrong < 10 || high < 10 || zero < 10 {
		t.Errorf("P11.1: %d texts are no UTF-8, %d have bytes above 127, %d bytes 0", wrong, high, zero)
	}
}

func TestSignOfEachKeyAndText(t *testing.T) {
	for _, x := range all() {
		if got := Sign(x.key, x.text); got != x.want {
			t.Errorf("P11.1: Sign(%x, %q.. (%d bytes)) tells %x, want %x", x.key, short(x.text), len(x.text), got, x.want)
		}
	}
}

// The chapter's own words: it is layer 2's sum under the key.
func TestSignIsTheSumUnderTheKey(t *testing.T) {
	for _, x := range all() {
		if got, want := Sign(x.key, x.text), hash.Mac(x.key, x.text); got != want {
			t.Errorf("P11.1: Sign(%x, %q.. (%d bytes)) tells %x, Mac %x", x.key, short(x.text), len(x.text), got, want)
		}
	}
}

func TestSignOfAllLengths(t *testing.T) {
	r := rand.New(rand.NewSource(113))
	key := keyByChance(r)
	for n := range 300 {
		text := textByChance(r, n)
		want := libraryMac(key, text)
		if got := Sign(key, text); got != want {
			t.Errorf("P11.1: Sign of %d bytes tells %x, want %x", n, got, want)
		}
		checkRight(t, key, text, want, true, "its seal")
	}
}

func TestLongText(t *testing.T) {
	text := strings.Repeat("escrow\x00\xff", 1<<18)
	want := libraryMac(full(9), text)
	if got := Sign(full(9), text); got != want {
		t.Errorf("P11.1: Sign of %d bytes tells %x, want %x", len(text), got, want)
	}
	checkRight(t, full(9), text, want, true, "its seal")
	checkRight(t, full(9), text[:len(text)-1], want, false, "its seal, with the text's last byte gone")
}

func TestRightOfWhatSignTells(t *testing.T) {
	for _, x := range all() {
		checkRight(t, x.key, x.text, Sign(x.key, x.text), true, "what Sign tells")
		checkRight(t, x.key, x.text, x.want, true, "what the library tells")
	}
}

func TestEachBitTurned(t *testing.T) {
	for _, x := range all() {
		if len(x.text) > 1000 && x.key != full(7) { // one key is enough where each call takes its time
			continue
		}
		for bit := range 256 {
			if Right(x.key, x.text, turned(x.want, bit)) {
				t.Fatalf("P11.2: Right(%x, %q.. (%d bytes)) takes the seal with bit %d turned", x.key, short(x.text), len(x.text), bit)
			}
		}
	}
}

// One byte alone, with each of the values that it isn't.
func TestOneByteOther(t *testing.T) {
	for _, key := range keys() {
		for _, text := range strange() {
			want := Sign(key, text)
			for _, at := range []int{0, 1, 15, 16, 30, 31} {
				for by := 1; by < 256; by++ {
					other := want
					other[at] ^= byte(by)
					if Right(key, text, other) {
						t.Fatalf("P11.2: Right(%x, %q) takes the seal with byte %d laid over by %x", key, text, at, by)
					}
				}
			}
		}
	}
}

func TestSealsThatAreNone(t *testing.T) {
	r := rand.New(rand.NewSource(114))
	for _, x := range all() {
		checkRight(t, x.key, x.text, api.Hash{}, false, "zeros")
		checkRight(t, x.key, x.text, full(255), false, "bytes 255")
		checkRight(t, x.key, x.text, x.key, false, "the key")
		checkRight(t, x.key, x.text, sha256.Sum256([]byte(x.text)), false, "the text's hash without the key")
		checkRight(t, x.key, x.text, sha256.Sum256([]byte(string(x.key[:])+x.text)), false, "the hash of key and text, one behind the other")
		checkRight(t, x.key, x.text, keyByChance(r), false, "one by chance")
	}
}

// A seal of which a part alone is there: from its beginning up to some byte, or from there on.
func TestPartOfASeal(t *testing.T) {
	for _, key := range keys() {
		for _, text := range strange() {
			want := Sign(key, text)
			for i := range want {
				first, rest := want, want
				clear(first[i:])
				clear(rest[:i+1])
				checkRight(t, key, text, first, first == want, "zeros from some byte on")
				checkRight(t, key, text, rest, rest == want, "zeros up to some byte")
			}
		}
	}
}

// The bytes of a seal in another order are no seal.
func TestSealInAnotherOrder(t *testing.T) {
	for _, key := range keys() {
		want := Sign(key, "a commitment")
		for i := range want {
			for j := range i {
				other := want
				other[i], other[j] = other[j], other[i]
				checkRight(t, key, "a commitment", other, other == want, "two bytes changed about")
			}
		}
	}
}

func TestSealOfAnotherText(t *testing.T) {
	r := rand.New(rand.NewSource(115))
	key := keyByChance(r)
	l := texts()
	long := l[len(l)-1]
	for _, text := range l[:len(l)-1] {
		for _, other := range l[:len(l)-1] {
			checkRight(t, key, text, libraryMac(key, other), text == other, "the seal of another text")
		}
		checkRight(t, key, text, libraryMac(key, long), false, "the seal of a long text")
	}
	checkRight(t, key, long, libraryMac(key, ""), false, "the seal of the empty text")
	checkRight(t, key, long, libraryMac(key, long[:1000]), false, "the seal of its beginning")
}

// Texts that differ in little: a byte more at an end, one less, one turned.
func TestSealOfANearText(t *testing.T) {
	r := rand.New(rand.NewSource(116))
	for _, key := range keys() {
		for _, n := range lengths() {
			text := textByChance(r, n)
			sig := Sign(key, text)
			for _, other := range []string{text + "\x00", "\x00" + text, text + "a", text + "\x80", text + text + " "} {
				checkRight(t, key, other, sig, false, "the seal of a text with less")
				checkRight(t, key, text, Sign(key, other), false, "the seal of a text with more")
			}
			for _, at := range []int{0, n / 2, n - 1} {
				if n == 0 {
					break
				}
				b := []byte(text)
				b[at] ^= 1
				checkRight(t, key, string(b), sig, false, "the seal of a text with a bit turned")
			}
		}
	}
}

func TestSealOfAnotherKey(t *testing.T) {
	for _, text := range []string{"", "a", "a commitment", strings.Repeat("\x00", 200)} {
		for _, key := range keys() {
			sig := Sign(key, text)
			for _, other := range keys() {
				checkRight(t, other, text, sig, key == other, "the seal under another key")
			}
			for bit := range 256 {
				checkRight(t, turned(key, bit), text, sig, false, "the seal under a key with a bit turned")
			}
		}
	}
}

// Key and text don't run into one another: what one has at its end isn't the other's beginning.
func TestKeyAndTextAreApart(t *testing.T) {
	var long, less api.Hash
	copy(long[:], "a key of so many bytes, and text")
	copy(less[:], "a key of so many bytes, and ")
	checkRight(t, long, "", Sign(less, "text"), false, "the key's end in the text")
	checkRight(t, less, "text", Sign(long, ""), false, "the text in the key's end")
	checkRight(t, full(1), string(make([]byte, 32)), Sign(full(1), ""), false, "the key's filling in the text")
	a, b := full(1), full(2)
	checkRight(t, a, string(b[:]), Sign(b, string(a[:])), false, "key and text changed about")
}

func TestByChance(t *testing.T) {
	r := rand.New(rand.NewSource(118))
	for range 3000 {
		key, text := keyByChance(r), textByChance(r, r.Intn(400))
		want := libraryMac(key, text)
		if got := Sign(key, text); got != want {
			t.Fatalf("P11.1: Sign(%x, %x) tells %x, want %x", key, text, got, want)
		}
		checkRight(t, key, text, want, true, "its seal")
		checkRight(t, key, text, turned(want, r.Intn(256)), false, "a bit turned")
	}
}

// Asked again, forwards, backwards and by chance, with other keys and texts and wrong seals between.
func TestAskedAgainInAnyOrder(t *testing.T) {
	l := all()
	ask := func(x sealed) {
		t.Helper()
		if got := Sign(x.key, x.text); got != x.want {
			t.Errorf("P11.3: asked again, Sign(%x, %q.. (%d bytes)) tells %x, want %x", x.key, short(x.text), len(x.text), got, x.want)
		}
		if Right(x.key, x.text, turned(x.want, 0)) || !Right(x.key, x.text, x.want) || Right(x.key, x.text, turned(x.want, 255)) {
			t.Errorf("P11.3: asked again, Right(%x, %q.. (%d bytes)) tells another thing", x.key, short(x.text), len(x.text))
		}
	}
	for i := range l {
		ask(l[i])
		ask(l[len(l)-1-i])
	}
	r := rand.New(rand.NewSource(119))
	for range 1000 {
		x := l[r.Intn(len(l))]
		ask(x)
		ask(x)
	}
}

// Right ahead of any Sign of its text, and a wrong seal many times: none makes it right.
func TestRightDoesNotLearn(t *testing.T) {
	r := rand.New(rand.NewSource(120))
	for range 50 {
		key, text, wrong := keyByChance(r), textByChance(r, 50), keyByChance(r)
		for range 20 {
			checkRight(t, key, text, wrong, false, "asked again and again")
		}
		checkRight(t, key, text, libraryMac(key, text), true, "behind wrong ones")
		checkRight(t, key, text, wrong, false, "behind the right one")
	}
}

// The answer is the caller's own: what is done to it shows in no later answer.
func TestAnswerIsTheCallersOwn(t *testing.T) {
	key := full(3)
	got := Sign(key, "a")
	clear(got[:])
	checkRight(t, key, "a", got, false, "a seal that was wiped")
	if again := Sign(key, "a"); again != libraryMac(key, "a") || key != full(3) {
		t.Errorf("P11.3: behind a change of an answer Sign tells %x under %x", again, key)
	}
}

func TestManyAtOnce(t *testing.T) {
	l := all()
	var w sync.WaitGroup
	for lane := range 8 {
		w.Go(func() {
			r := rand.New(rand.NewSource(int64(lane)))
			for range 400 {
				x := l[r.Intn(len(l))]
				if Sign(x.key, x.text) != x.want || !Right(x.key, x.text, x.want) || Right(x.key, x.text, turned(x.want, r.Intn(256))) {
					t.Errorf("P11.3: among others, %x and %q.. (%d bytes) have another seal", x.key, short(x.text), len(x.text))
				}
			}
		})
	}
	w.Wait()
}
