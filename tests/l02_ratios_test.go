package tests

import (
	"math"
	"math/big"
	"reflect"
	"regexp"
	"slices"
	"strings"
	"testing"

	"loop.example/g01033/impl"
)

// invalidRatios are ratios that are not reduced, too great, or not positive.
var invalidRatios = []impl.Ratio{
	{}, {Num: 1}, {Den: 1}, {Num: 2, Den: 2}, {Num: 6, Den: 4}, {Num: 4, Den: 6}, {Num: 1000000, Den: 1000000},
	{Num: 999999, Den: 3}, {Num: 1000001, Den: 1}, {Num: 1, Den: 1000001}, {Num: 1000001, Den: 1000000},
	{Num: -3, Den: 2}, {Num: 3, Den: -2}, {Num: -3, Den: -2}, {Num: -1, Den: -1}, {Num: 0, Den: 5}, {Num: -1, Den: 0},
	{Num: math.MaxInt64, Den: math.MaxInt64}, {Num: math.MinInt64, Den: math.MinInt64}, {Num: math.MinInt64, Den: -1},
	{Num: 1, Den: math.MaxInt64}, {Num: math.MaxInt64, Den: math.MinInt64}, {Num: 1, Den: math.MinInt64},
}

// validRatios are ratios of small, of large and of unlike numbers.
var validRatios = ratiosFrom([]int64{
	1, 2, 3, 4, 5, 8, 9, 15, 31, 32, 33, 45, 63, 64, 243, 999, 1000, 1001, 1024, 4096, 31249, 65537, 499999, 500000, 500001,
	524287, 524288, 524289, 720720, 999983, 999999, 1000000,
})

func ratio(num, den int64) impl.Ratio { return impl.Ratio{Num: num, Den: den} }

// divisorBySearch tries all numbers downwards.
func divisorBySearch(a, b int64) int64 {
	d := min(a, b)
	for a%d != 0 || b%d != 0 {
		d--
	}
	return d
}

// ratiosFrom returns all ratios of two of some numbers from 1 to MaxRatio.
func ratiosFrom(numbers []int64) []impl.Ratio {
	var all []impl.Ratio
	for _, num := range numbers {
		for _, den := range numbers {
			if new(big.Int).GCD(nil, nil, big.NewInt(num), big.NewInt(den)).Int64() == 1 {
				all = append(all, ratio(num, den))
			}
		}
	}
	return all
}

// smallRatios returns all ratios of numbers of at most most.
func smallRatios(most int64) []impl.Ratio {
	var numbers []int64
	for n := range most {
		numbers = append(numbers, n+1)
	}
	return ratiosFrom(numbers)
}

// exact returns a ratio as a big fraction.
func exact(r impl.Ratio) *big.Rat { return big.NewRat(r.Num, r.Den) }

// asRatio returns what a function has to return for a big fraction.
func asRatio(x *big.Rat) (impl.Ratio, int64) {
	limit := big.NewInt(impl.MaxRatio)
	if x.Num().Cmp(limit) > 0 || x.Denom().Cmp(limit) > 0 {
		return impl.Ratio{}, impl.ErrFull
	}
	return ratio(x.Num().Int64(), x.Denom().Int64()), impl.OK
}

func checkRatio(t *testing.T, what string, got impl.Ratio, code int64, want *big.Rat) {
	t.Helper()
	r, wanted := asRatio(want)
	if got != r || code != wanted {
		t.Errorf("%s = %v, %s; want %v, %s", what, got, impl.CodeName(code), r, impl.CodeName(wanted))
	}
}

func pairText(a, b impl.Ratio) string { return impl.RatioText(a) + ", " + impl.RatioText(b) }

func TestRatioConstants(t *testing.T) {
	got := []int64{impl.MaxRatio, impl.OctaveCents, impl.MaxDenominator}
	if want := []int64{1000000, 120000, 64}; !slices.Equal(got, want) {
		t.Errorf("constants: got %v, want %v", got, want)
	}
}

func TestValidRatio(t *testing.T) {
	for num := int64(-3); num <= 60; num++ {
		for den := int64(-3); den <= 60; den++ {
			want := num >= 1 && den >= 1 && divisorBySearch(num, den) == 1
			if got := impl.ValidRatio(ratio(num, den)); got != want {
				t.Errorf("ValidRatio(%d/%d) = %v", num, den, got)
			}
		}
	}
	for _, r := range validRatios {
		if !impl.ValidRatio(r) {
			t.Errorf("ValidRatio(%v) = false", r)
		}
	}
	for _, r := range invalidRatios {
		if impl.ValidRatio(r) {
			t.Errorf("ValidRatio(%v) = true", r)
		}
	}
}

func TestReduceRatio(t *testing.T) {
	cases := []struct {
		num, den int64
		want     impl.Ratio
		code     int64
	}{
		{6, 4, ratio(3, 2), impl.OK},
		{4, 6, ratio(2, 3), impl.OK},
		{7, 7, ratio(1, 1), impl.OK},
		{1, 1, ratio(1, 1), impl.OK},
		{1000000, 1, ratio(1000000, 1), impl.OK},
		{1, 1000000, ratio(1, 1000000), impl.OK},
		{1000001, 1, impl.Ratio{}, impl.ErrFull},
		{1, 1000001, impl.Ratio{}, impl.ErrFull},
		{2000002, 2, impl.Ratio{}, impl.ErrFull},
		{2000000, 2, ratio(1000000, 1), impl.OK},
		{impl.MaxValue, impl.MaxValue, ratio(1, 1), impl.OK},
		{impl.MaxValue, 1000000, ratio(1000000, 1), impl.OK},
		{impl.MaxValue, impl.MaxValue - 1, impl.Ratio{}, impl.ErrFull},
		{impl.MaxValue + 1, 1, impl.Ratio{}, impl.ErrRange},
		{1, impl.MaxValue + 1, impl.Ratio{}, impl.ErrRange},
		{impl.MaxValue + 2, impl.MaxValue + 2, impl.Ratio{}, impl.ErrRange},
		{0, 4, impl.Ratio{}, impl.ErrRange},
		{4, 0, impl.Ratio{}, impl.ErrRange},
		{0, 0, impl.Ratio{}, impl.ErrRange},
		{-6, -4, impl.Ratio{}, impl.ErrRange},
		{-6, 4, impl.Ratio{}, impl.ErrRange},
		{math.MinInt64, math.MinInt64, impl.Ratio{}, impl.ErrRange},
		{math.MaxInt64, math.MaxInt64, impl.Ratio{}, impl.ErrRange},
	}
	for _, c := range cases {
		if got, code := impl.ReduceRatio(c.num, c.den); got != c.want || code != c.code {
			t.Errorf("ReduceRatio(%d, %d) = %v, %s", c.num, c.den, got, impl.CodeName(code))
		}
	}
	for _, num := range extremes {
		for _, den := range extremes {
			got, code := impl.ReduceRatio(num, den)
			if min(num, den) < 1 || max(num, den) > impl.MaxValue {
				if got != (impl.Ratio{}) || code != impl.ErrRange {
					t.Errorf("ReduceRatio(%d, %d) = %v, %s", num, den, got, impl.CodeName(code))
				}
				continue
			}
			checkRatio(t, "ReduceRatio("+impl.ListText([]int64{num, den})+")", got, code, big.NewRat(num, den))
		}
	}
}

func TestReduceRatioRemovesAllDivisors(t *testing.T) {
	for _, r := range append(smallRatios(40), validRatios...) {
		for _, times := range []int64{1, 2, 3, 4, 12, 30030, 65536, 999999, 1000000} {
			if got, code := impl.ReduceRatio(r.Num*times, r.Den*times); got != r || code != impl.OK {
				t.Errorf("ReduceRatio(%d, %d) = %v, %s", r.Num*times, r.Den*times, got, impl.CodeName(code))
			}
		}
	}
}

func TestMultiplyAndDivideRatios(t *testing.T) {
	all := append(smallRatios(12), validRatios...)
	for _, a := range all {
		for _, b := range all {
			product, code := impl.MultiplyRatios(a, b)
			checkRatio(t, "MultiplyRatios("+pairText(a, b)+")", product, code, new(big.Rat).Mul(exact(a), exact(b)))
			quotient, code := impl.DivideRatios(a, b)
			checkRatio(t, "DivideRatios("+pairText(a, b)+")", quotient, code, new(big.Rat).Quo(exact(a), exact(b)))
		}
	}
}

// TestProductsAndQuotientsUndoEachOther is the first half of promise 3.
func TestProductsAndQuotientsUndoEachOther(t *testing.T) {
	all := append(smallRatios(12), validRatios...)
	undone := 0
	for _, a := range all {
		for _, b := range all {
			if product, code := impl.MultiplyRatios(a, b); code == impl.OK {
				undone++
				if back, code := impl.DivideRatios(product, b); back != a || code != impl.OK {
					t.Errorf("DivideRatios undoes no product of %s: %v, %s", pairText(a, b), back, impl.CodeName(code))
				}
			}
			if quotient, code := impl.DivideRatios(a, b); code == impl.OK {
				undone++
				if back, code := impl.MultiplyRatios(quotient, b); back != a || code != impl.OK {
					t.Errorf("MultiplyRatios undoes no quotient of %s: %v, %s", pairText(a, b), back, impl.CodeName(code))
				}
			}
		}
	}
	if undone < len(all) {
		t.Errorf("only %d products and quotients", undone)
	}
}

func TestPowerRatio(t *testing.T) {
	cases := []struct {
		r    impl.Ratio
		n    int64
		want impl.Ratio
		code int64
	}{
		{ratio(3, 2), 0, ratio(1, 1), impl.OK},
		{ratio(3, 2), 1, ratio(3, 2), impl.OK},
		{ratio(3, 2), 2, ratio(9, 4), impl.OK},
		{ratio(3, 2), 12, ratio(531441, 4096), impl.OK},
		{ratio(3, 2), 13, impl.Ratio{}, impl.ErrFull},
		{ratio(2, 3), 12, ratio(4096, 531441), impl.OK},
		{ratio(2, 3), 13, impl.Ratio{}, impl.ErrFull},
		{ratio(2, 1), 19, ratio(524288, 1), impl.OK},
		{ratio(2, 1), 20, impl.Ratio{}, impl.ErrFull},
		{ratio(1000, 999), 2, ratio(1000000, 998001), impl.OK},
		{ratio(1001, 999), 2, impl.Ratio{}, impl.ErrFull},
		{ratio(1000000, 1), 1, ratio(1000000, 1), impl.OK},
		{ratio(1000000, 1), 0, ratio(1, 1), impl.OK},
		{ratio(1, 1), 40, ratio(1, 1), impl.OK},
		{ratio(1, 1), 41, impl.Ratio{}, impl.ErrRange},
		{ratio(1, 1), -1, impl.Ratio{}, impl.ErrRange},
		{ratio(3, 2), 40, impl.Ratio{}, impl.ErrFull},
		{ratio(3, 2), 41, impl.Ratio{}, impl.ErrRange},
		{ratio(2, 1), 64, impl.Ratio{}, impl.ErrRange},
		{ratio(3, 2), math.MaxInt64, impl.Ratio{}, impl.ErrRange},
		{ratio(3, 2), math.MinInt64, impl.Ratio{}, impl.ErrRange},
		{ratio(6, 4), 2, impl.Ratio{}, impl.ErrInvalid},
		{ratio(2, 2), 0, impl.Ratio{}, impl.ErrInvalid},
		{ratio(2, 2), 41, impl.Ratio{}, impl.ErrInvalid},
	}
	for _, c := range cases {
		if got, code := impl.PowerRatio(c.r, c.n); got != c.want || code != c.code {
			t.Errorf("PowerRatio(%v, %d) = %v, %s", c.r, c.n, got, impl.CodeName(code))
		}
	}
	for _, r := range append(smallRatios(8), validRatios...) {
		product := big.NewRat(1, 1)
		for n := range int64(41) {
			got, code := impl.PowerRatio(r, n)
			checkRatio(t, "PowerRatio("+impl.RatioText(r)+", "+impl.Decimal(n)+")", got, code, product)
			product.Mul(product, exact(r))
		}
	}
}

func TestCompareRatios(t *testing.T) {
	all := append(smallRatios(12), validRatios...)
	for _, a := range all {
		for _, b := range all {
			if got, code := impl.CompareRatios(a, b); got != int64(exact(a).Cmp(exact(b))) || code != impl.OK {
				t.Errorf("CompareRatios(%s) = %d, %s", pairText(a, b), got, impl.CodeName(code))
			}
		}
	}
}

func TestOctaveOf(t *testing.T) {
	cases := []struct {
		r, want impl.Ratio
		n, code int64
	}{
		{ratio(1, 1), ratio(1, 1), 0, impl.OK},
		{ratio(3, 2), ratio(3, 2), 0, impl.OK},
		{ratio(1999, 1000), ratio(1999, 1000), 0, impl.OK},
		{ratio(2, 1), ratio(1, 1), 1, impl.OK},
		{ratio(9, 2), ratio(9, 8), 2, impl.OK},
		{ratio(524288, 1), ratio(1, 1), 19, impl.OK},
		{ratio(1000000, 1), ratio(15625, 8192), 19, impl.OK},
		{ratio(1, 2), ratio(1, 1), -1, impl.OK},
		{ratio(3, 8), ratio(3, 2), -2, impl.OK},
		{ratio(2, 3), ratio(4, 3), -1, impl.OK},
		{ratio(1, 1000000), ratio(16384, 15625), -20, impl.OK},
		{ratio(499999, 500000), ratio(499999, 250000), -1, impl.OK},
		{ratio(1, 999999), impl.Ratio{}, 0, impl.ErrFull},
		{ratio(500000, 999999), ratio(1000000, 999999), -1, impl.OK},
		{ratio(500002, 999999), impl.Ratio{}, 0, impl.ErrFull},
		{ratio(499999, 999999), impl.Ratio{}, 0, impl.ErrFull},
	}
	for _, c := range cases {
		if got, n, code := impl.OctaveOf(c.r); got != c.want || n != c.n || code != c.code {
			t.Errorf("OctaveOf(%v) = %v, %d, %s", c.r, got, n, impl.CodeName(code))
		}
	}
}

// exactOctave brings a fraction from 1 on, but below 2, by doubling or halving it.
func exactOctave(r impl.Ratio) (*big.Rat, int64) {
	x, n := exact(r), int64(0)
	for ; x.Cmp(big.NewRat(2, 1)) >= 0; n++ {
		x.Mul(x, big.NewRat(1, 2))
	}
	for ; x.Cmp(big.NewRat(1, 1)) < 0; n-- {
		x.Mul(x, big.NewRat(2, 1))
	}
	return x, n
}

func TestOctaveOfAsWritten(t *testing.T) {
	for _, r := range append(smallRatios(60), validRatios...) {
		x, times := exactOctave(r)
		got, n, code := impl.OctaveOf(r)
		checkRatio(t, "OctaveOf("+impl.RatioText(r)+")", got, code, x)
		if code == impl.OK && n != times || code != impl.OK && n != 0 {
			t.Errorf("OctaveOf(%v): %d times, want %d", r, n, times)
		}
	}
}

var stepCents = []int64{
	0, 5327, 10496, 15514, 20391, 25134, 29751, 34248, 38631, 42906, 47078, 51152, 55132, 59022, 62827, 66551, 70196,
	73765, 77263, 80691, 84053, 87350, 90587, 93763, 96883, 99947, 102958, 105917, 108827, 111688, 114504, 117274, 120000,
}

func TestCentsOfSteps(t *testing.T) {
	for k, want := range stepCents {
		r, _ := impl.ReduceRatio(32+int64(k), 32)
		if got, code := impl.CentsOf(r); got != want || code != impl.OK {
			t.Errorf("CentsOf(%v) = %d, %s; want %d", r, got, impl.CodeName(code), want)
		}
	}
}

// exactCents is the document's formula with big fractions.
func exactCents(r impl.Ratio) int64 {
	x, n := exactOctave(r)
	steps := new(big.Rat).Mul(big.NewRat(32, 1), x.Sub(x, big.NewRat(1, 1)))
	k := new(big.Int).Div(steps.Num(), steps.Denom()).Int64()
	part := steps.Sub(steps, big.NewRat(k, 1))
	part.Mul(part, big.NewRat(stepCents[k+1]-stepCents[k], 1))
	return impl.OctaveCents*n + stepCents[k] + exactNearest(part.Num(), part.Denom())
}

func TestCentsOf(t *testing.T) {
	cases := []struct {
		r    impl.Ratio
		want int64
	}{
		{ratio(1, 1), 0}, {ratio(3, 2), 70196}, {ratio(2, 1), 120000}, {ratio(4, 1), 240000}, {ratio(3, 1), 190196},
		{ratio(1, 2), -120000}, {ratio(3, 4), -49804}, {ratio(1, 3), -190206}, {ratio(65, 64), 2664},
		{ratio(524288, 1), 2280000}, {ratio(1000000, 999999), 0}, {ratio(999999, 1000000), 0},
		// OctaveOf has no result for these, CentsOf has.
		{ratio(1, 999999), -2391807}, {ratio(500002, 999999), -119999},
	}
	for _, c := range cases {
		if got, code := impl.CentsOf(c.r); got != c.want || code != impl.OK || got != exactCents(c.r) {
			t.Errorf("CentsOf(%v) = %d, %s; want %d, as written %d", c.r, got, impl.CodeName(code), c.want, exactCents(c.r))
		}
	}
	for _, r := range append(smallRatios(150), validRatios...) {
		if got, code := impl.CentsOf(r); got != exactCents(r) || code != impl.OK {
			t.Errorf("CentsOf(%v) = %d, %s; want %d", r, got, impl.CodeName(code), exactCents(r))
		}
	}
}

func TestCentsOfOctaves(t *testing.T) {
	for _, r := range append(smallRatios(30), validRatios...) {
		own, _ := impl.CentsOf(r)
		if twice, code := impl.MultiplyRatios(r, ratio(2, 1)); code == impl.OK {
			if got, _ := impl.CentsOf(twice); got != own+impl.OctaveCents {
				t.Errorf("CentsOf(%v) = %d, but CentsOf(%v) = %d", r, own, twice, got)
			}
		}
	}
}

// TestGreaterRatiosHaveNoFewerCents is the second half of promise 3.
func TestGreaterRatiosHaveNoFewerCents(t *testing.T) {
	all := append(smallRatios(150), validRatios...)
	// Neighbours of the ends of octaves and of the steps between which the cents are blended.
	for _, den := range []int64{31250, 62500, 249984, 499968} {
		for k := range int64(65) {
			for near := int64(-3); near <= 3; near++ {
				if r, code := impl.ReduceRatio(den*(32+k)/32+near, den); code == impl.OK {
					all = append(all, r)
				}
			}
		}
	}
	slices.SortFunc(all, func(a, b impl.Ratio) int {
		order, _ := impl.CompareRatios(a, b)
		return int(order)
	})
	for k := 1; k < len(all); k++ {
		less, _ := impl.CentsOf(all[k-1])
		more, _ := impl.CentsOf(all[k])
		if less > more || exact(all[k-1]).Cmp(exact(all[k])) > 0 {
			t.Errorf("%v has %d cents, %v has %d", all[k-1], less, all[k], more)
		}
	}
}

func TestBestRatio(t *testing.T) {
	cases := []struct {
		cents, most int64
		want        impl.Ratio
		off         int64
	}{
		{70196, 8, ratio(3, 2), 0},
		{70196, 1, ratio(2, 1), 49804},
		{0, 1, ratio(1, 1), 0},
		{0, 64, ratio(1, 1), 0},
		{120000, 1, ratio(2, 1), 0},
		{120000, 64, ratio(2, 1), 0},
		{119999, 64, ratio(2, 1), 1},
		{60000, 1, ratio(1, 1), 60000},
		{60001, 1, ratio(2, 1), 59999},
		{35098, 2, ratio(1, 1), 35098},
		{95098, 2, ratio(2, 1), 24902},
		{38631, 3, ratio(4, 3), 11163},
		{38631, 4, ratio(5, 4), 0},
		{2664, 63, ratio(64, 63), 42},
		{2664, 64, ratio(65, 64), 0},
	}
	for _, c := range cases {
		if got, off, code := impl.BestRatio(c.cents, c.most); got != c.want || off != c.off || code != impl.OK {
			t.Errorf("BestRatio(%d, %d) = %v, %d, %s", c.cents, c.most, got, off, impl.CodeName(code))
		}
	}
	for _, c := range [][2]int64{
		{-1, 8}, {120001, 8}, {70196, 0}, {70196, 65}, {70196, -1}, {-1, 0}, {0, 0}, {120000, 65},
		{math.MinInt64, math.MinInt64}, {math.MaxInt64, math.MaxInt64}, {math.MinInt64, 8}, {70196, math.MaxInt64},
	} {
		if got, off, code := impl.BestRatio(c[0], c[1]); got != (impl.Ratio{}) || off != 0 || code != impl.ErrRange {
			t.Errorf("BestRatio(%d, %d) = %v, %d, %s", c[0], c[1], got, off, impl.CodeName(code))
		}
	}
}

type candidate struct {
	r     impl.Ratio
	cents int64
}

// octaveCandidates returns the ratios from 1 to 2 in an order in which a less Den, and then a less Num, is tried last.
func octaveCandidates() []candidate {
	var all []candidate
	for den := int64(impl.MaxDenominator); den >= 1; den-- {
		for num := 2 * den; num >= den; num-- {
			if r := ratio(num, den); divisorBySearch(num, den) == 1 {
				all = append(all, candidate{r, exactCents(r)})
			}
		}
	}
	return all
}

func bestBySearch(all []candidate, cents, most int64) (impl.Ratio, int64) {
	best, off := impl.Ratio{}, int64(math.MaxInt64)
	for _, c := range all {
		if distance := max(c.cents-cents, cents-c.cents); c.r.Den <= most && distance <= off {
			best, off = c.r, distance
		}
	}
	return best, off
}

func TestBestRatioIsNearest(t *testing.T) {
	all := octaveCandidates()
	goals := []int64{0, 1, 60000, 119999, 120000}
	for _, a := range all {
		// Halfway between two candidates with small numbers both are equally near.
		for _, b := range all {
			if max(a.r.Den, b.r.Den) <= 4 && (a.cents+b.cents)%2 == 0 {
				goals = append(goals, (a.cents+b.cents)/2)
			}
		}
		if a.r.Den <= 9 {
			goals = append(goals, a.cents)
		}
	}
	for goal := int64(0); goal <= impl.OctaveCents; goal += 3571 {
		goals = append(goals, goal)
	}
	for _, goal := range goals {
		for _, most := range []int64{1, 2, 3, 4, 5, 8, 16, 31, 63, 64} {
			want, distance := bestBySearch(all, goal, most)
			if got, off, code := impl.BestRatio(goal, most); got != want || off != distance || code != impl.OK {
				t.Errorf("BestRatio(%d, %d) = %v, %d, %s; want %v, %d", goal, most, got, off, impl.CodeName(code), want, distance)
			}
		}
	}
}

func TestBetweenRatios(t *testing.T) {
	cases := []struct {
		a, b, want impl.Ratio
		code       int64
	}{
		{ratio(3, 2), ratio(4, 3), ratio(7, 5), impl.OK},
		{ratio(1, 1), ratio(1, 1), ratio(1, 1), impl.OK},
		{ratio(3, 2), ratio(3, 2), ratio(3, 2), impl.OK},
		{ratio(1, 1), ratio(3, 1), ratio(2, 1), impl.OK},
		{ratio(999999, 1), ratio(1, 1), ratio(500000, 1), impl.OK},
		{ratio(1000000, 1), ratio(999999, 1), impl.Ratio{}, impl.ErrFull},
		{ratio(1, 1000000), ratio(1, 999999), impl.Ratio{}, impl.ErrFull},
		{ratio(1000000, 999999), ratio(1000000, 999999), ratio(1000000, 999999), impl.OK},
		{ratio(1000000, 1), ratio(1, 1), impl.Ratio{}, impl.ErrFull},
	}
	for _, c := range cases {
		if got, code := impl.BetweenRatios(c.a, c.b); got != c.want || code != c.code {
			t.Errorf("BetweenRatios(%s) = %v, %s", pairText(c.a, c.b), got, impl.CodeName(code))
		}
	}
	all := append(smallRatios(12), validRatios...)
	for _, a := range all {
		for _, b := range all {
			got, code := impl.BetweenRatios(a, b)
			checkRatio(t, "BetweenRatios("+pairText(a, b)+")", got, code, big.NewRat(a.Num+b.Num, a.Den+b.Den))
		}
	}
}

func TestInvalidRatios(t *testing.T) {
	zero := impl.Ratio{}
	for _, bad := range invalidRatios {
		for _, pair := range [][2]impl.Ratio{{bad, ratio(3, 2)}, {ratio(3, 2), bad}, {bad, bad}, {bad, ratio(1000000, 999999)}, {ratio(1, 999999), bad}} {
			a, b := pair[0], pair[1]
			product, one := impl.MultiplyRatios(a, b)
			quotient, two := impl.DivideRatios(a, b)
			order, three := impl.CompareRatios(a, b)
			between, four := impl.BetweenRatios(a, b)
			if product != zero || quotient != zero || order != 0 || between != zero || !slices.Equal([]int64{one, two, three, four}, []int64{1, 1, 1, 1}) {
				t.Errorf("%v, %v: product %v, %d, quotient %v, %d, order %d, %d, between %v, %d", a, b, product, one, quotient, two, order, three, between, four)
			}
		}
		for _, n := range []int64{0, 1, 2, 40, 41, -1, math.MinInt64, math.MaxInt64} {
			if got, code := impl.PowerRatio(bad, n); got != zero || code != impl.ErrInvalid {
				t.Errorf("PowerRatio(%v, %d) = %v, %s", bad, n, got, impl.CodeName(code))
			}
		}
		if got, n, code := impl.OctaveOf(bad); got != zero || n != 0 || code != impl.ErrInvalid {
			t.Errorf("OctaveOf(%v) = %v, %d, %s", bad, got, n, impl.CodeName(code))
		}
		if got, code := impl.CentsOf(bad); got != 0 || code != impl.ErrInvalid {
			t.Errorf("CentsOf(%v) = %d, %s", bad, got, impl.CodeName(code))
		}
		if got := impl.RatioText(bad); got != "" {
			t.Errorf("RatioText(%v) = %q", bad, got)
		}
	}
}

func TestRatioText(t *testing.T) {
	want := map[impl.Ratio]string{
		ratio(3, 2): "3/2", ratio(1, 1): "1/1", ratio(2, 1): "2/1", ratio(1, 1000000): "1/1000000",
		ratio(1000000, 1): "1000000/1", ratio(45, 32): "45/32", ratio(999983, 1000000): "999983/1000000",
	}
	for r, s := range want {
		if got := impl.RatioText(r); got != s {
			t.Errorf("RatioText(%v) = %q", r, got)
		}
	}
	for _, r := range append(smallRatios(40), validRatios...) {
		if got, ok := impl.ReadRatio(impl.RatioText(r)); got != r || !ok {
			t.Errorf("ReadRatio(RatioText(%v)) = %v, %v", r, got, ok)
		}
	}
}

func TestReadRatioRefuses(t *testing.T) {
	bad := append([]string{
		"6/4", "2/2", "0/1", "1/0", "0/0", "3", "3/", "/2", "/", "//", "3//2", "3/2/1", "1/1/1", "/3/2", "3/2/", " 3/2", "3/2 ",
		"3 /2", "3/ 2", "03/2", "3/02", "+3/2", "3/+2", "-3/2", "3/-2", "-3/-2", "-0/1", "3:2", "3\\2", "3,2", "3/2\n", "3/2\x00", "a/b",
		"3/x", "x/2", "1.5/1", "3/2a", "1000001/1", "1/1000001", "1000000/1000000", "99999999999999999999/1", "1/99999999999999999999",
		"9223372036854775807/9223372036854775807", "-9223372036854775808/1", "-/-", "３/２",
	}, oddTexts...)
	for _, s := range bad {
		if got, ok := impl.ReadRatio(s); got != (impl.Ratio{}) || ok {
			t.Errorf("ReadRatio(%q) = %v, %v", s, got, ok)
		}
	}
}

func TestReadRatioTakesCanonicalTextsOnly(t *testing.T) {
	canonical := regexp.MustCompile(`^[1-9][0-9]*/[1-9][0-9]*\z`)
	for _, s := range textsOver("/-0123 ", 5) {
		got, ok := impl.ReadRatio(s)
		reduced := false
		if canonical.MatchString(s) {
			x, _ := new(big.Rat).SetString(s)
			reduced = x.String() == s
		}
		if ok != reduced || ok && impl.RatioText(got) != s || !ok && got != (impl.Ratio{}) {
			t.Errorf("ReadRatio(%q) = %v, %v", s, got, ok)
		}
	}
}

// answersOfRatios returns what chapter 2 answers to many arguments.
func answersOfRatios() []any {
	var all []any
	keep := func(answers ...any) { all = append(all, answers...) }
	for _, a := range extremes {
		for _, b := range extremes {
			r := ratio(a, b)
			reduced, one := impl.ReduceRatio(a, b)
			power, two := impl.PowerRatio(r, a)
			times, three := impl.PowerRatio(ratio(3, 2), b)
			octave, n, four := impl.OctaveOf(r)
			cents, five := impl.CentsOf(r)
			best, off, six := impl.BestRatio(a, b)
			keep(reduced, one, power, two, times, three, octave, n, four, cents, five, best, off, six, impl.ValidRatio(r), impl.RatioText(r))
			for _, c := range []impl.Ratio{ratio(b, a), ratio(3, 2), ratio(1, 1000000), ratio(a, a)} {
				product, one := impl.MultiplyRatios(r, c)
				quotient, two := impl.DivideRatios(r, c)
				order, three := impl.CompareRatios(r, c)
				between, four := impl.BetweenRatios(r, c)
				keep(product, one, quotient, two, order, three, between, four)
			}
		}
	}
	for _, s := range append([]string{"3/2", "6/4", strings.Repeat("/", 5000), strings.Repeat("1/", 5000)}, oddTexts...) {
		r, ok := impl.ReadRatio(s)
		keep(r, ok)
	}
	return all
}

func TestRatiosReturnEqualResults(t *testing.T) {
	if !reflect.DeepEqual(answersOfRatios(), answersOfRatios()) {
		t.Error("equal arguments, other results")
	}
}
