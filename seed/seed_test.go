package seed

import (
	"crypto/sha256"
	"encoding/hex"
	"fmt"
	"math"
	"math/big"
	"math/rand"
	"slices"
	"strings"
	"sync"
	"testing"

	"escrow/api"
)

// The tests hold the calls against the chapter's words, with places as texts of 48 digits and the library's SHA-256.

const last = 1<<48 - 1

// answer is what a call tells.
type answer struct {
	h     api.Hash
	errno api.Errno
}

func got(h api.Hash, errno api.Errno) answer { return answer{h, errno} }

var (
	noIndex = answer{api.Hash{}, api.ErrIndex}
	noHang  = answer{api.Hash{}, api.ErrNone}
)

func inBounds(n int64) bool { return n >= 0 && n <= last }

// saidPlace is a number's place in digits of base two, bit 47 first.
func saidPlace(n int64) string { return fmt.Sprintf("%048b", last-n) }

func saidLevel(n int64) int { return 48 - len(strings.TrimRight(saidPlace(n), "0")) }

func saidHangs(from, to int64) bool {
	upper := 48 - saidLevel(from)
	return saidPlace(from)[:upper] == saidPlace(to)[:upper]
}

// saidDown is going down by the bits of a place that are below a bit.
func saidDown(p [32]byte, place string, below int) [32]byte {
	for at, digit := range place {
		bit := 47 - at
		if bit < below && digit == '1' {
			p[bit/8] ^= byte(1 << (bit % 8))
			p = sha256.Sum256(p[:])
		}
	}
	return p
}

func saidSecret(seed api.Hash, n int64) answer {
	if !inBounds(n) {
		return noIndex
	}
	return answer{saidDown(seed, saidPlace(n), 48), api.OK}
}

func saidDerive(secret api.Hash, from, to int64) answer {
	if !inBounds(from) || !inBounds(to) {
		return noIndex
	}
	if !saidHangs(from, to) {
		return noHang
	}
	return answer{saidDown(secret, saidPlace(to), saidLevel(from)), api.OK}
}

// edges is the numbers at which the answers change.
func edges() []int64 {
	return []int64{math.MinInt64, -1, 0, 1, 1<<47 - 1, 1 << 47, 1<<48 - 2, 1<<48 - 1, 1 << 48, math.MaxInt64}
}

// numbers is the edges, what stands beside each power of two from both ends, and ordinary ones.
func numbers() []int64 {
	l := edges()
	for i := range 63 {
		p := int64(1) << i
		l = append(l, p-1, p, p+1, -p, last-p, last-p+1, last+p)
	}
	r := rand.New(rand.NewSource(9))
	for range 40 {
		l = append(l, r.Int63n(last+1), r.Int63n(1000), int64(r.Uint64()))
	}
	slices.Sort(l)
	return slices.Compact(l)
}

// rightNumbers is those numbers that have a place.
func rightNumbers() []int64 {
	return slices.DeleteFunc(numbers(), func(n int64) bool { return !inBounds(n) })
}

func full(b byte) api.Hash { return api.Hash([]byte(strings.Repeat(string([]byte{b}), 32))) }

func hashByChance(r *rand.Rand) api.Hash {
	var h api.Hash
	r.Read(h[:])
	return h
}

// withLevel is a number with a level, by chance.
func withLevel(r *rand.Rand, level int) int64 {
	if level == 48 {
		return last
	}
	odd := r.Int63n(1<<(47-level))*2 + 1
	return last - odd<<level
}

// hanging is a number that hangs on another, by chance.
func hanging(r *rand.Rand, from int64) int64 { return from - r.Int63n(1<<saidLevel(from)) }

func TestExamples(t *testing.T) {
	for _, x := range []struct {
		seed byte
		n    int64
		want string
	}{
		{0x00, 0, "02a40c85b6f28da08dfdbe0926c53fab2de6d28c10301f8f7c4073d5e42e3148"},
		{0xff, 0, "7cc854b54e3e0dcdb010d7a3fee464a9687be6e8db3be6854c475621e007a5dc"},
		{0xff, 269746852681045, "56f4008fb007ca9acf0e15b054d5c9fd12ee06cea347914ddbaed70d1c13a528"},
		{0xff, 187649984473770, "9015daaeb06dba4ccc05b91b2f73bd54405f2be9f217fbacd3c5ac2e62327d31"},
		{0x01, 281474976710654, "915c75942a26bb3a433a8ce2cb0427c29ec6c1775cfc78328b57f6ba7bfeaa9c"},
		{0x09, 281474976710655, strings.Repeat("09", 32)},
	} {
		h, errno := Secret(full(x.seed), x.n)
		if hex.EncodeToString(h[:]) != x.want || errno != api.OK {
			t.Errorf("P9.1: Secret(%02x.., %d) tells %x, %d", x.seed, x.n, h, errno)
		}
	}
	for _, n := range []int64{-1, 281474976710656} {
		if g := got(Secret(full(1), n)); g != noIndex {
			t.Errorf("P9.1: Secret(01.., %d) tells %v", n, g)
		}
	}
	for n, want := range map[int64]int{0: 0, 1: 1, 2: 0, 3: 2, 281474976710655: 48} {
		if level, errno := Level(n); level != want || errno != api.OK {
			t.Errorf("P9.1: Level(%d) tells %d, %d, want %d", n, level, errno, want)
		}
	}
	s := full(0x5a)
	for _, x := range []struct {
		from, to int64
		want     api.Errno
	}{{3, 0, api.OK}, {3, 1, api.OK}, {3, 2, api.OK}, {3, 3, api.OK}, {3, 4, api.ErrNone}, {5, 3, api.ErrNone}, {5, 4, api.OK}, {7, -1, api.ErrIndex}} {
		if _, errno := Derive(s, x.from, x.to); errno != x.want {
			t.Errorf("P9.1: Derive(s, %d, %d) tells %d, want %d", x.from, x.to, errno, x.want)
		}
	}
	if g := got(Derive(s, 3, 3)); g != (answer{s, api.OK}) {
		t.Errorf("P9.1: Derive(s, 3, 3) tells %v, want s", g)
	}
}

func TestTheGreatestNumberIsTheLimit(t *testing.T) {
	if api.MaxIndex != last || len(saidPlace(0)) != 48 || len(saidPlace(api.MaxIndex)) != 48 {
		t.Error("P9.1: api.MaxIndex is 2^48 - 1, so that each place has 48 bits")
	}
}

func TestSecretOfNumbers(t *testing.T) {
	r := rand.New(rand.NewSource(91))
	for _, seed := range []api.Hash{full(0), full(0xff), hashByChance(r), hashByChance(r)} {
		for _, n := range numbers() {
			if g, want := got(Secret(seed, n)), saidSecret(seed, n); g != want {
				t.Fatalf("P9.1: Secret(%x, %d) tells %v, want %v", seed, n, g, want)
			}
		}
	}
}

func TestTheLastSecretIsTheSeed(t *testing.T) {
	r := rand.New(rand.NewSource(92))
	for range 100 {
		seed := hashByChance(r)
		if g := got(Secret(seed, last)); g != (answer{seed, api.OK}) {
			t.Fatalf("P9.1: Secret(%x, 2^48 - 1) tells %v, want the seed", seed, g)
		}
	}
}

// A place with one bit alone takes one step, which shows the bit that is turned in it.
func TestEachBitTurnsItsOwn(t *testing.T) {
	seed := hashByChance(rand.New(rand.NewSource(93)))
	for bit := range 48 {
		// Read from its last byte to its first, a hash is a number in which the bit has the place of its own number.
		turned := slices.Clone(seed[:])
		slices.Reverse(turned)
		n := new(big.Int).SetBytes(turned)
		n.SetBit(n, bit, 1-n.Bit(bit))
		n.FillBytes(turned)
		slices.Reverse(turned)
		want := answer{sha256.Sum256(turned), api.OK}
		if g := got(Secret(seed, last-1<<bit)); g != want {
			t.Errorf("P9.1: Secret of the place with bit %d alone tells %v, want %v", bit, g, want)
		}
	}
}

func TestHigherBitsGoFirst(t *testing.T) {
	seed := full(0)
	first, second := seed, api.Hash{}
	first[1] ^= 2 // bit 9
	second = sha256.Sum256(first[:])
	second[0] ^= 8 // bit 3
	want := answer{sha256.Sum256(second[:]), api.OK}
	if g := got(Secret(seed, last-(1<<9|1<<3))); g != want {
		t.Errorf("P9.1: Secret by bits 9 and 3 tells %v, want %v", g, want)
	}
}

func TestPoint(t *testing.T) {
	if h := Point(full(0)); hex.EncodeToString(h[:]) != "66687aadf862bd776c8fc18b8e9f8e20089714856ee233b3902a591d0d5f2925" {
		t.Errorf("P9.1: Point of zeros tells %x", h)
	}
	r := rand.New(rand.NewSource(94))
	for range 500 {
		secret := hashByChance(r)
		if g := Point(secret); g != sha256.Sum256(secret[:]) {
			t.Fatalf("P9.1: Point(%x) tells %x", secret, g)
		}
	}
}

func TestLevelOfNumbers(t *testing.T) {
	for _, n := range numbers() {
		level, errno := Level(n)
		if !inBounds(n) {
			if level != 0 || errno != api.ErrIndex {
				t.Errorf("P9.1: Level(%d) tells %d, %d", n, level, errno)
			}
		} else if level != saidLevel(n) || errno != api.OK {
			t.Errorf("P9.1: Level(%d) tells %d, %d, want %d", n, level, errno, saidLevel(n))
		}
	}
}

func TestLevelsOfAllSizes(t *testing.T) {
	r := rand.New(rand.NewSource(95))
	for want := range 49 {
		for range 20 {
			n := withLevel(r, want)
			if level, errno := Level(n); level != want || errno != api.OK {
				t.Fatalf("P9.1: Level(%d) tells %d, %d, want %d", n, level, errno, want)
			}
		}
		first := int64(1)<<want - 1
		if level, errno := Level(first); level != want || errno != api.OK {
			t.Errorf("P9.1: Level(2^%d - 1) tells %d, %d", want, level, errno)
		}
	}
}

func TestDeriveInAllPairs(t *testing.T) {
	told := map[api.Errno]int{}
	secret := hashByChance(rand.New(rand.NewSource(96)))
	for _, from := range numbers() {
		for _, to := range numbers() {
			g, want := got(Derive(secret, from, to)), saidDerive(secret, from, to)
			if g != want {
				t.Fatalf("P9.1: Derive(s, %d, %d) tells %v, want %v", from, to, g, want)
			}
			told[want.errno]++
		}
	}
	if len(told) != 3 || told[api.OK] < 1000 || told[api.ErrNone] < 1000 {
		t.Errorf("P9.1: the pairs are to have all answers, not %v", told)
	}
}

func TestWhichErrorOfDerive(t *testing.T) {
	secret := full(0xff)
	for _, bad := range []int64{math.MinInt64, -1 << 48, -2, -1, 1 << 48, 1<<48 + 1, 1 << 49, math.MaxInt64} {
		for _, other := range edges() {
			if g := got(Derive(secret, bad, other)); g != noIndex {
				t.Errorf("P9.1: Derive(s, %d, %d) tells %v, want ErrIndex", bad, other, g)
			}
			if g := got(Derive(secret, other, bad)); g != noIndex {
				t.Errorf("P9.1: Derive(s, %d, %d) tells %v, want ErrIndex", other, bad, g)
			}
		}
	}
	for _, x := range [][2]int64{{0, 1}, {0, last}, {1, 2}, {2, 1}, {2, 0}, {1<<47 - 1, 1 << 47}, {1 << 47, 1<<47 - 1}, {1<<47 - 1, last}, {last - 1, last}, {last - 1, last - 2}} {
		if g := got(Derive(secret, x[0], x[1])); g != noHang {
			t.Errorf("P9.1: Derive(s, %d, %d) tells %v, want ErrNone", x[0], x[1], g)
		}
	}
}

func TestDeriveAtTheEndsOfWhatHangs(t *testing.T) {
	r := rand.New(rand.NewSource(97))
	seed := hashByChance(r)
	check := func(from, to int64, want bool) {
		t.Helper()
		secret := saidSecret(seed, from).h
		say := noHang
		if !inBounds(to) {
			say = noIndex
		} else if want {
			say = saidSecret(seed, to)
		}
		if g := got(Derive(secret, from, to)); g != say {
			t.Errorf("P9.2, P9.4: Derive(s, %d, %d) tells %v, want %v", from, to, g, say)
		}
	}
	for level := range 49 {
		for range 5 {
			from := withLevel(r, level)
			first := from - (1<<level - 1)
			check(from, from, true)
			check(from, from+1, false)
			check(from, from-1, level > 0)
			check(from, first, true)
			check(from, min(first+1, from), true)
			check(from, first-1, false)
			check(from, max(first, from-1), true)
		}
	}
}

func TestEveryNumberHangsOnItselfAndOnTheLast(t *testing.T) {
	r := rand.New(rand.NewSource(98))
	for _, n := range rightNumbers() {
		secret := hashByChance(r)
		if g := got(Derive(secret, n, n)); g != (answer{secret, api.OK}) {
			t.Errorf("P9.1: Derive(s, %d, %d) tells %v, want s", n, n, g)
		}
		if g, want := got(Derive(secret, last, n)), got(Secret(secret, n)); g != want {
			t.Errorf("P9.2: Derive(s, 2^48 - 1, %d) tells %v, Secret %v", n, g, want)
		}
	}
}

func TestOneTree(t *testing.T) {
	r := rand.New(rand.NewSource(99))
	for i := range 6000 {
		seed, from := hashByChance(r), withLevel(r, i%49)
		to := hanging(r, from)
		if i%3 == 0 {
			to = r.Int63n(last + 1)
		}
		secret, _ := Secret(seed, from)
		g := got(Derive(secret, from, to))
		if saidHangs(from, to) {
			if want := got(Secret(seed, to)); g != want || g.errno != api.OK {
				t.Fatalf("P9.2: Derive(Secret(%x, %d), .., %d) tells %v, Secret %v", seed, from, to, g, want)
			}
		} else if g != noHang {
			t.Fatalf("P9.2: Derive(Secret(%x, %d), .., %d) tells %v, though it doesn't hang on it", seed, from, to, g)
		}
	}
}

func TestOneTreeOfSmallAndLateNumbers(t *testing.T) {
	seed := hashByChance(rand.New(rand.NewSource(910)))
	for _, base := range []int64{0, 1<<47 - 64, last - 127} {
		for from := base; from < base+128; from++ {
			secret := saidSecret(seed, from).h
			for to := base; to < base+128; to++ {
				want := noHang
				if saidHangs(from, to) {
					want = saidSecret(seed, to)
				}
				if g := got(Derive(secret, from, to)); g != want {
					t.Fatalf("P9.2: Derive(Secret(seed, %d), .., %d) tells %v, want %v", from, to, g, want)
				}
			}
		}
	}
}

func TestInSteps(t *testing.T) {
	r := rand.New(rand.NewSource(911))
	between := 0
	for i := range 6000 {
		from := withLevel(r, i%49)
		mid := hanging(r, from)
		if low := saidLevel(from); low > 1 && i%2 == 0 { // by chance alone mid's level would be small
			mid = from - 1<<r.Intn(low)
		}
		to := hanging(r, mid)
		secret := hashByChance(r)
		half, errno := Derive(secret, from, mid)
		if errno != api.OK {
			t.Fatalf("P9.3: %d hangs on %d, and Derive tells %d", mid, from, errno)
		}
		steps, once := got(Derive(half, mid, to)), got(Derive(secret, from, to))
		if steps != once || once.errno != api.OK {
			t.Fatalf("P9.3: from %d by way of %d to %d tells %v, at once %v", from, mid, to, steps, once)
		}
		if from != mid && mid != to {
			between++
		}
	}
	if between < 2000 {
		t.Errorf("P9.3: only %d ways have a number between", between)
	}
}

func TestInStepsOfAllSmallNumbers(t *testing.T) {
	secret := full(3)
	for from := range int64(64) {
		for mid := range int64(64) {
			half, errno := Derive(secret, from, mid)
			if errno != api.OK {
				continue
			}
			for to := range int64(64) {
				steps := got(Derive(half, mid, to))
				if once := got(Derive(secret, from, to)); steps.errno == api.OK && steps != once {
					t.Fatalf("P9.3: from %d by way of %d to %d tells %v, at once %v", from, mid, to, steps, once)
				}
			}
		}
	}
}

// hangsByNumbers is P9.4's words, in numbers without end.
func hangsByNumbers(from, to int64) bool {
	gap := new(big.Int).Sub(big.NewInt(from), big.NewInt(to))
	return gap.Sign() >= 0 && gap.Cmp(new(big.Int).Lsh(big.NewInt(1), uint(saidLevel(from)))) < 0
}

func checkHanging(t *testing.T, from, to int64) {
	t.Helper()
	_, errno := Derive(api.Hash{}, from, to)
	if want := hangsByNumbers(from, to); (errno == api.OK) != want || errno != api.OK && errno != api.ErrNone {
		t.Fatalf("P9.4: Derive(0, %d, %d) tells %d, and that it hangs on it is %v", from, to, errno, want)
	}
}

func TestHangingOfAllPairs(t *testing.T) {
	for _, base := range []int64{0, 1<<47 - 100, last - 199} {
		for from := base; from < base+200; from++ {
			for to := base; to < base+200; to++ {
				checkHanging(t, from, to)
			}
		}
	}
	for _, from := range rightNumbers() {
		for _, to := range rightNumbers() {
			checkHanging(t, from, to)
		}
	}
}

func TestHangingByChance(t *testing.T) {
	r := rand.New(rand.NewSource(912))
	for i := range 20000 {
		level := i % 49
		from := withLevel(r, level)
		// As many inside as outside, on both sides.
		to := from - r.Int63n(1<<(level+1)) + r.Int63n(1<<level)/2
		checkHanging(t, from, min(max(to, 0), last))
	}
}

func TestAnswersHangOnArgumentsAlone(t *testing.T) {
	var w sync.WaitGroup
	for lane := range 8 {
		w.Go(func() {
			r := rand.New(rand.NewSource(int64(lane)))
			l := numbers()
			for range 1500 {
				h, a, b := hashByChance(r), l[r.Intn(len(l))], l[r.Intn(len(l))]
				before := h
				if inBounds(a) && r.Intn(2) == 0 {
					b = hanging(r, a)
				}
				if g, want := got(Secret(h, a)), saidSecret(h, a); g != want {
					t.Errorf("P9.1: among others, Secret(%x, %d) tells %v, want %v", h, a, g, want)
				}
				if g, want := got(Derive(h, a, b)), saidDerive(h, a, b); g != want {
					t.Errorf("P9.1: among others, Derive(%x, %d, %d) tells %v, want %v", h, a, b, g, want)
				}
				if level, errno := Level(a); errno == api.OK && level != saidLevel(a) {
					t.Errorf("P9.1: among others, Level(%d) tells %d", a, level)
				}
				if g := Point(h); g != sha256.Sum256(h[:]) || h != before {
					t.Errorf("P9.1: among others, Point(%x) tells %x", h, g)
				}
			}
		})
	}
	w.Wait()
}
