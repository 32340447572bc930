package amount

import (
	"math"
	"math/big"
	"math/rand"
	"slices"
	"sync"
	"testing"

	"escrow/api"
)

// The tests hold the calls against the chapter's words in numbers without end (math/big), which can't wrap.

const most = 1 << 60

// answer is what a call tells.
type answer struct {
	n     int64
	errno api.Errno
}

func got(n int64, errno api.Errno) answer { return answer{n, errno} }

var none = answer{0, api.ErrAmount}

// isAmount is the chapter's word, for a number of any size.
func isAmount(n *big.Int) bool {
	return n.Sign() >= 0 && n.Cmp(big.NewInt(most)) <= 0
}

func saidPlus(a, b int64) answer { return saidSum([]int64{a, b}) }

func saidMinus(a, b int64) answer {
	if !isAmount(big.NewInt(a)) || !isAmount(big.NewInt(b)) || b > a {
		return none
	}
	return answer{new(big.Int).Sub(big.NewInt(a), big.NewInt(b)).Int64(), api.OK}
}

func saidSum(l []int64) answer {
	all := new(big.Int)
	for _, a := range l {
		if !isAmount(big.NewInt(a)) {
			return none
		}
		all.Add(all, big.NewInt(a))
	}
	if !isAmount(all) {
		return none
	}
	return answer{all.Int64(), api.OK}
}

// numbers is the edges, what stands one beside them, every power of two, and ordinary ones.
func numbers() []int64 {
	l := []int64{math.MinInt64, -1, 0, 1, most - 1, most, most + 1, 1 << 62, math.MaxInt64}
	for i := range 64 {
		p := int64(1) << i
		l = append(l, p-1, p, p+1, -p, -p-1, most-p, most+p)
	}
	r := rand.New(rand.NewSource(8))
	for range 60 {
		l = append(l, r.Int63n(most+1), r.Int63n(1000), int64(r.Uint64()))
	}
	slices.Sort(l)
	return slices.Compact(l)
}

func times(n int, a int64) []int64 { return slices.Repeat([]int64{a}, n) }

func TestExamples(t *testing.T) {
	for _, x := range []struct {
		what string
		got  answer
		want answer
	}{
		{"Plus(1, 2)", got(Plus(1, 2)), answer{3, api.OK}},
		{"Plus(2^60, 0)", got(Plus(most, 0)), answer{most, api.OK}},
		{"Plus(2^60, 1)", got(Plus(most, 1)), none},
		{"Plus(-1, 5)", got(Plus(-1, 5)), none},
		{"Plus(2^62, 2^62)", got(Plus(1<<62, 1<<62)), none},
		{"Minus(5, 5)", got(Minus(5, 5)), answer{0, api.OK}},
		{"Minus(5, 6)", got(Minus(5, 6)), none},
		{"Minus(5, -1)", got(Minus(5, -1)), none},
		{"Minus(2^60 + 1, 1)", got(Minus(most+1, 1)), none},
		{"Minus(-1, -1)", got(Minus(-1, -1)), none},
		{"Sum()", got(Sum()), answer{0, api.OK}},
		{"Sum(1, 2, 3)", got(Sum(1, 2, 3)), answer{6, api.OK}},
		{"Sum(2^60, 1, -1)", got(Sum(most, 1, -1)), none},
		{"Sum of sixteen times 2^60", got(Sum(times(16, most)...)), none},
		{"Sum of seventeen times 2^60", got(Sum(times(17, most)...)), none},
	} {
		if x.got != x.want {
			t.Errorf("P8.1: %s tells %v, want %v", x.what, x.got, x.want)
		}
	}
}

func TestTheGreatestAmountIsTheLimit(t *testing.T) {
	if api.MaxAmount != most || !Right(api.MaxAmount) || Right(api.MaxAmount+1) {
		t.Error("P8.1: api.MaxAmount is the greatest amount, and 2^60")
	}
}

func TestRight(t *testing.T) {
	for _, x := range []struct {
		a    int64
		want bool
	}{{math.MinInt64, false}, {-1, false}, {0, true}, {1, true}, {most - 1, true}, {most, true}, {most + 1, false}, {1 << 62, false}, {math.MaxInt64, false}} {
		if Right(x.a) != x.want {
			t.Errorf("P8.1: Right(%d) tells %v", x.a, !x.want)
		}
	}
	for _, a := range numbers() {
		if Right(a) != isAmount(big.NewInt(a)) {
			t.Errorf("P8.1: Right(%d) tells %v", a, Right(a))
		}
	}
}

func TestPlusAndMinusInAllPairs(t *testing.T) {
	for _, a := range numbers() {
		for _, b := range numbers() {
			if g, want := got(Plus(a, b)), saidPlus(a, b); g != want {
				t.Fatalf("P8.1: Plus(%d, %d) tells %v, want %v", a, b, g, want)
			}
			if g, want := got(Minus(a, b)), saidMinus(a, b); g != want {
				t.Fatalf("P8.1: Minus(%d, %d) tells %v, want %v", a, b, g, want)
			}
		}
	}
}

func TestPairsBesideTheGreatestAmount(t *testing.T) {
	r := rand.New(rand.NewSource(81))
	for range 2000 {
		a := r.Int63n(most + 1)
		for _, x := range []struct {
			a, b      int64
			plus, sub answer
		}{
			{a, most - a, answer{most, api.OK}, saidMinus(a, most-a)},
			{a, most - a + 1, none, saidMinus(a, most-a+1)},
			{a, a, saidPlus(a, a), answer{0, api.OK}},
			{a, a + 1, saidPlus(a, a+1), none},
		} {
			if g := got(Plus(x.a, x.b)); g != x.plus {
				t.Fatalf("P8.1: Plus(%d, %d) tells %v, want %v", x.a, x.b, g, x.plus)
			}
			if g := got(Minus(x.a, x.b)); g != x.sub {
				t.Fatalf("P8.1: Minus(%d, %d) tells %v, want %v", x.a, x.b, g, x.sub)
			}
		}
	}
}

func TestSumOfEdges(t *testing.T) {
	for _, x := range []struct {
		what string
		l    []int64
		want answer
	}{
		{"none, as nil", nil, answer{0, api.OK}},
		{"none, as an empty list", []int64{}, answer{0, api.OK}},
		{"one", []int64{7}, answer{7, api.OK}},
		{"the greatest alone", []int64{most}, answer{most, api.OK}},
		{"one above the greatest alone", []int64{most + 1}, none},
		{"-1 alone", []int64{-1}, none},
		{"the least number alone", []int64{math.MinInt64}, none},
		{"the greatest among zeros", []int64{0, most, 0}, answer{most, api.OK}},
		{"the greatest and one", []int64{most, 1}, none},
		{"one and the greatest", []int64{1, most}, none},
		{"two halves", []int64{most / 2, most / 2}, answer{most, api.OK}},
		{"two halves and one", []int64{most / 2, most / 2, 1}, none},
		{"1024 parts of the greatest", times(1024, most/1024), answer{most, api.OK}},
		{"1025 parts of the greatest", times(1025, most/1024), none},
		{"a hundred thousand ones", times(100000, 1), answer{100000, api.OK}},
		{"a hundred thousand zeros", times(100000, 0), answer{0, api.OK}},
		{"eight times the greatest: 2^63", times(8, most), none},
		{"sixteen times the greatest: 2^64, round to 0", times(16, most), none},
		{"sixteen times the greatest and 5: round to 5", append(times(16, most), 5), none},
		{"5 and sixteen times the greatest: round to 5", append([]int64{5}, times(16, most)...), none},
		{"seventeen times the greatest: round to 2^60", times(17, most), none},
		{"thirty-two times the greatest: round to 0, twice", times(32, most), none},
		{"2^62 four times: round to 0", times(4, 1<<62), none},
		{"the least number twice: round to 0", times(2, math.MinInt64), none},
		{"the greatest number, and the least with one more: together 0", []int64{math.MaxInt64, math.MinInt64 + 1}, none},
		{"no amount ahead, together an amount", []int64{-1, 5, 6}, none},
		{"no amount between, together an amount", []int64{5, -1, 6}, none},
		{"no amount behind, together an amount", []int64{5, 6, -1}, none},
		{"above ahead, together an amount", []int64{most + 1, -1}, none},
		{"above behind, together an amount", []int64{-1, most + 1}, none},
		{"the greatest, one, and it taken away", []int64{most, 1, -1}, none},
		{"one taken away first", []int64{-1, most, 1}, none},
		{"one taken away between", []int64{most, -1, 1}, none},
	} {
		if g := got(Sum(x.l...)); g != x.want {
			t.Errorf("P8.1: Sum of %s tells %v, want %v", x.what, g, x.want)
		}
	}
}

func TestSumWithANumberThatIsNoneAtEachPlace(t *testing.T) {
	amounts := []int64{3, 0, most / 4, 1, 8, 0}
	for _, bad := range []int64{math.MinInt64, -most, -1, most + 1, 1 << 61, 1 << 62, math.MaxInt64} {
		for at := range len(amounts) + 1 {
			l := slices.Insert(slices.Clone(amounts), at, bad)
			if g := got(Sum(l...)); g != none {
				t.Errorf("P8.1: Sum(%v) tells %v, want %v", l, g, none)
			}
		}
	}
}

// lists is lists by chance: within the limit, about at it, above it, and with numbers that are no amounts.
func lists() [][]int64 {
	r := rand.New(rand.NewSource(82))
	edges := numbers()
	l := [][]int64{nil, times(16, most), times(17, most)}
	for range 4000 {
		n := r.Intn(12)
		one := make([]int64, n)
		for i := range one {
			one[i] = r.Int63n(2*most/int64(n) + 1)
		}
		switch r.Intn(4) {
		case 0:
			for i := range one {
				one[i] = edges[r.Intn(len(edges))]
			}
		case 1:
			if n > 0 {
				one[r.Intn(n)] = edges[r.Intn(len(edges))]
			}
		case 2:
			one = upTo(most, one)
		}
		l = append(l, one)
	}
	return l
}

// upTo is amounts cut to what fits, with the rest behind them, so that they are just so many together.
func upTo(all int64, l []int64) []int64 {
	var out []int64
	for _, a := range l {
		a = min(a, all)
		all -= a
		out = append(out, a)
	}
	return append(out, all)
}

func TestSumOfLists(t *testing.T) {
	told := 0
	for _, l := range lists() {
		g, want := got(Sum(l...)), saidSum(l)
		if g != want {
			t.Fatalf("P8.1: Sum(%v) tells %v, want %v", l, g, want)
		}
		if want.errno == api.OK {
			told++
		}
	}
	if told < 1000 || told > 3000 {
		t.Errorf("%d of the lists have a sum: both kinds are wanted", told)
	}
}

func TestListHandedInIsNeitherChangedNorKept(t *testing.T) {
	for _, l := range lists() {
		room := append(append([]int64{11}, l...), 22, 33)
		part := room[1 : 1+len(l)] // with room behind it that is another's
		before := slices.Clone(room)
		first := got(Sum(part...))
		if !slices.Equal(room, before) {
			t.Fatalf("P8.1: Sum(%v) changes what it was handed, or what lies beside it: %v", l, room)
		}
		for i := range room {
			room[i] = 1
		}
		if g, want := got(Sum(part...)), (answer{int64(len(l)), api.OK}); g != want {
			t.Fatalf("P8.1: Sum of %d ones tells %v", len(l), g)
		}
		if g := got(Sum(l...)); g != first {
			t.Fatalf("P8.1: Sum(%v) tells %v, then %v", l, first, g)
		}
	}
}

func TestAnswersHangOnArgumentsAlone(t *testing.T) {
	var w sync.WaitGroup
	for seed := range 8 {
		w.Go(func() {
			r := rand.New(rand.NewSource(int64(seed)))
			l := numbers()
			for range 20000 {
				a, b, c := l[r.Intn(len(l))], l[r.Intn(len(l))], l[r.Intn(len(l))]
				switch r.Intn(4) {
				case 0:
					if Right(a) != isAmount(big.NewInt(a)) {
						t.Errorf("P8.1: among others, Right(%d) tells %v", a, Right(a))
					}
				case 1:
					if g, want := got(Plus(a, b)), saidPlus(a, b); g != want {
						t.Errorf("P8.1: among others, Plus(%d, %d) tells %v, want %v", a, b, g, want)
					}
				case 2:
					if g, want := got(Minus(a, b)), saidMinus(a, b); g != want {
						t.Errorf("P8.1: among others, Minus(%d, %d) tells %v, want %v", a, b, g, want)
					}
				case 3:
					if g, want := got(Sum(a, b, c)), saidSum([]int64{a, b, c}); g != want {
						t.Errorf("P8.1: among others, Sum(%d, %d, %d) tells %v, want %v", a, b, c, g, want)
					}
				}
			}
		})
	}
	w.Wait()
}

func TestThereAndBack(t *testing.T) {
	there, back := 0, 0
	for _, a := range numbers() {
		for _, b := range numbers() {
			if n, errno := Plus(a, b); errno == api.OK {
				there++
				if g := got(Minus(n, b)); g != (answer{a, api.OK}) {
					t.Fatalf("P8.2: Plus(%d, %d) is %d, less %d tells %v", a, b, n, b, g)
				}
			}
			if n, errno := Minus(a, b); errno == api.OK {
				back++
				if g := got(Plus(n, b)); g != (answer{a, api.OK}) {
					t.Fatalf("P8.2: Minus(%d, %d) is %d, plus %d tells %v", a, b, n, b, g)
				}
			}
		}
	}
	if there < 1000 || back < 1000 {
		t.Errorf("P8.2: only %d pairs have a Plus and %d a Minus", there, back)
	}
}

// sumOfParts is Plus of two parts' Sums, and ErrAmount if one of them has none.
func sumOfParts(a, b []int64) answer {
	x, e := Sum(a...)
	y, f := Sum(b...)
	if e != api.OK || f != api.OK {
		return none
	}
	return got(Plus(x, y))
}

func TestOrder(t *testing.T) {
	r := rand.New(rand.NewSource(83))
	for _, l := range lists() {
		want := saidSum(l)
		other := slices.Clone(l)
		slices.Reverse(other)
		for range 4 {
			if g := got(Sum(other...)); g != want {
				t.Fatalf("P8.3: Sum(%v) tells %v, of %v %v", l, want, other, g)
			}
			r.Shuffle(len(other), func(i, j int) { other[i], other[j] = other[j], other[i] })
		}
	}
}

func TestAllOrdersOfAShortList(t *testing.T) {
	for _, l := range [][]int64{{most, 1, -1, 0}, {most / 2, most / 4, most / 4, 0}, {most, most, 0, 1}, {most + 1, -1, 2, 3}, {1, 2, 3, 4}} {
		want := saidSum(l)
		for i := range 256 {
			p := []int{i & 3, i >> 2 & 3, i >> 4 & 3, i >> 6}
			if sorted := slices.Sorted(slices.Values(p)); !slices.Equal(sorted, []int{0, 1, 2, 3}) {
				continue
			}
			if g := got(Sum(l[p[0]], l[p[1]], l[p[2]], l[p[3]])); g != want {
				t.Errorf("P8.3: %v in the order %v tells %v, want %v", l, p, g, want)
			}
		}
	}
}

func TestPartsCutAtEveryPlace(t *testing.T) {
	for _, l := range lists() {
		want := got(Sum(l...))
		for cut := range len(l) + 1 {
			if g := sumOfParts(l[:cut], l[cut:]); g != want {
				t.Fatalf("P8.3: Sum(%v) tells %v, cut at %d %v", l, want, cut, g)
			}
		}
	}
}

func TestPartsPickedByChance(t *testing.T) {
	r := rand.New(rand.NewSource(84))
	for _, l := range lists() {
		want := got(Sum(l...))
		var a, b []int64
		for _, x := range l {
			if r.Intn(2) == 0 {
				a = append(a, x)
			} else {
				b = append(b, x)
			}
		}
		if g := sumOfParts(a, b); g != want {
			t.Fatalf("P8.3: Sum(%v) tells %v, of the parts %v and %v %v", l, want, a, b, g)
		}
	}
}
