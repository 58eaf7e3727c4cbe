package tests

import (
	"math"
	"math/big"
	"math/rand"
	"reflect"
	"slices"
	"strconv"
	"strings"
	"testing"

	"loop.example/g01033/impl"
)

const justText = "just 1/1 16/15 9/8 6/5 5/4 4/3 45/32 3/2 8/5 5/3 9/5 15/8"

// tuningOf reads the name and the ratios of a text without the functions of the program.
func tuningOf(text string) impl.Tuning {
	parts := strings.Split(text, " ")
	t := impl.Tuning{Name: parts[0]}
	for _, part := range parts[1:] {
		num, den, _ := strings.Cut(part, "/")
		n, _ := strconv.ParseInt(num, 10, 64)
		d, _ := strconv.ParseInt(den, 10, 64)
		t.Ratios = append(t.Ratios, ratio(n, d))
	}
	return t
}

// lowTuning has ratios so near to 1 that none has a cent.
func lowTuning() impl.Tuning {
	t := impl.Tuning{Name: "low", Ratios: []impl.Ratio{ratio(1, 1)}}
	for k := range int64(11) {
		t.Ratios = append(t.Ratios, ratio(1000000-k, 999999-k))
	}
	return t
}

// highTuning has ratios so near to 2 that all have the cents of an octave.
func highTuning() impl.Tuning {
	t := impl.Tuning{Name: "high", Ratios: []impl.Ratio{ratio(1, 1)}}
	for k := range int64(11) {
		den := 499990 + k
		t.Ratios = append(t.Ratios, ratio(2*den-1, den))
	}
	return t
}

// namedTunings are tunings with pure, wide, crowded and equally wrong intervals.
func namedTunings() []impl.Tuning {
	return []impl.Tuning{
		tuningOf(justText),
		lowTuning(), highTuning(),
		tuningOf("fifths 1/1 256/243 9/8 32/27 81/64 4/3 729/512 3/2 128/81 27/16 16/9 243/128"),
		tuningOf("harmonics 1/1 17/16 9/8 19/16 5/4 21/16 11/8 3/2 13/8 27/16 7/4 15/8"),
		tuningOf("equal 1/1 18/17 55/49 44/37 63/50 4/3 41/29 3/2 27/17 37/22 98/55 17/9"),
		tuningOf("t 1/1 1000000/999999 3/2 150001/100000 150003/100000 8/5 5/3 9/5 11/6 13/7 15/8 999999/500000"),
		// The worst fifths of these are two, above and below 3/2 in either order, or both above, or both below.
		tuningOf("z123456789 1/1 10/9 26/23 25/21 30/23 4/3 33/23 30/19 19/12 31/18 7/4 17/9"),
		tuningOf("a 1/1 5/4 29/23 14/11 16/11 35/24 32/21 5/3 19/11 40/23 31/17 45/23"),
		tuningOf("b2 1/1 24/23 9/8 23/17 18/13 31/22 22/15 29/19 26/17 36/23 40/23 37/20"),
		tuningOf("c3c 1/1 22/21 21/19 7/6 29/22 23/17 18/13 18/11 19/11 40/23 27/14 45/23"),
	}
}

// drawnTunings are tunings whose ratios are drawn from those with small, and with large numbers.
func drawnTunings(count int) []impl.Tuning {
	draw := rand.New(rand.NewSource(4))
	var small, all []impl.Ratio
	for den := int64(2); den <= 32; den++ {
		for num := den + 1; num < 2*den; num++ {
			if divisorBySearch(num, den) == 1 {
				small = append(small, ratio(num, den))
			}
		}
	}
	all = slices.Clone(small)
	for range 400 {
		den := 2 + draw.Int63n(499999)
		if r := ratio(den+1+draw.Int63n(den-1), den); new(big.Int).GCD(nil, nil, big.NewInt(r.Num), big.NewInt(r.Den)).Int64() == 1 {
			all = append(all, r)
		}
	}
	var tunings []impl.Tuning
	for k := range count {
		from := [][]impl.Ratio{small, all}[k%2]
		t := impl.Tuning{Name: "drawn", Ratios: []impl.Ratio{ratio(1, 1)}}
		for _, at := range draw.Perm(len(from))[:11] {
			t.Ratios = append(t.Ratios, from[at])
		}
		slices.SortFunc(t.Ratios, func(a, b impl.Ratio) int { return exact(a).Cmp(exact(b)) })
		tunings = append(tunings, t)
	}
	return tunings
}

// withRatio returns a tuning in which one ratio is another one.
func withRatio(t impl.Tuning, tone int, r impl.Ratio) impl.Tuning {
	ratios := slices.Clone(t.Ratios)
	ratios[tone] = r
	return impl.Tuning{Name: t.Name, Ratios: ratios}
}

// invalidTunings have no name, too few or too many ratios, or ratios that do not rise from 1 to less than 2.
func invalidTunings() []impl.Tuning {
	just := tuningOf(justText)
	all := []impl.Tuning{
		{}, {Name: "x"}, {Name: "x", Ratios: []impl.Ratio{}}, {Ratios: just.Ratios}, {Name: "x", Ratios: []impl.Ratio{ratio(1, 1)}},
		{Name: "just", Ratios: just.Ratios[:11]}, {Name: "just", Ratios: append(slices.Clip(just.Ratios), ratio(31, 16))},
		{Name: "just", Ratios: just.Ratios[1:]}, {Name: "just", Ratios: slices.Repeat(just.Ratios, 2)}, {Name: "just", Ratios: make([]impl.Ratio, 12)},
		{Name: "just", Ratios: slices.Repeat([]impl.Ratio{ratio(1, 1)}, 12)}, {Name: "just", Ratios: make([]impl.Ratio, 5000)},
	}
	for _, name := range []string{"Just", "1just", "just tuning", " just", "just ", "abcdefghijk", "jüst", "just\n", "-", "just/"} {
		all = append(all, impl.Tuning{Name: name, Ratios: just.Ratios})
	}
	for tone := range 12 {
		for _, r := range invalidRatios {
			all = append(all, withRatio(just, tone, r))
		}
		for other := range 12 {
			if other != tone {
				all = append(all, withRatio(just, tone, just.Ratios[other]))
			}
		}
		all = append(all, withRatio(just, tone, ratio(just.Ratios[tone].Num*2, just.Ratios[tone].Den*2)))
		all = append(all, withRatio(just, tone, ratio(1, 2)), withRatio(just, tone, ratio(999999, 1000000)))
		all = append(all, withRatio(just, tone, ratio(2, 1)), withRatio(just, tone, ratio(9, 4)), withRatio(just, tone, ratio(1000000, 1)))
	}
	return append(all,
		withRatio(just, 0, ratio(1000000, 999999)), withRatio(just, 11, ratio(1000000, 499999)), withRatio(just, 11, ratio(1000000, 500000)),
		// These differ by less than a fraction of single precision tells.
		withRatio(withRatio(just, 6, ratio(999998, 700001)), 7, ratio(999997, 700001)),
		withRatio(withRatio(just, 1, ratio(1000000, 999999)), 2, ratio(1000000, 999999)),
		withRatio(withRatio(just, 1, ratio(999999, 999998)), 2, ratio(1000000, 999999)),
	)
}

// isTuning is what the document calls a tuning, with big fractions.
func isTuning(t impl.Tuning) bool {
	if !impl.IsName(t.Name) || len(t.Ratios) != 12 || t.Ratios[0] != ratio(1, 1) {
		return false
	}
	for k, r := range t.Ratios {
		if min(r.Num, r.Den) < 1 || max(r.Num, r.Den) > 1000000 || exact(r).Num().Int64() != r.Num {
			return false
		}
		if k > 0 && exact(r).Cmp(exact(t.Ratios[k-1])) <= 0 || exact(r).Cmp(big.NewRat(2, 1)) >= 0 {
			return false
		}
	}
	return true
}

// tuningBases are bases at and within their limits.
var tuningBases = []int64{10000, 10001, 65535, 230000, 240000, 261626, 999999, 1999999, 2000000}

// tuningNumbers are numbers at and around the limits of tones, pitches, harmonics, bases and cents.
var tuningNumbers = []int64{
	math.MinInt64, math.MinInt64 + 1, -impl.MaxValue, -240000, -120001, -120000, -119999, -14, -13, -12, -11, -1, 0, 1, 2, 7, 11, 12, 15, 16, 17,
	22, 23, 24, 35, 9999, 10000, 10001, 119999, 120000, 120001, 239999, 240000, 240001, 1999999, 2000000, 2000001,
	impl.MaxValue, 1 << 32, 1<<32 + 7, math.MaxInt64 - 1, math.MaxInt64,
}

// centsAsWritten is what PitchCents has to return for a pitch.
func centsAsWritten(t impl.Tuning, pitch int64) int64 {
	octave := int64(math.Floor(float64(pitch) / 12))
	return 120000*octave + exactCents(t.Ratios[pitch-12*octave])
}

// frequencyAsWritten is what FrequencyOf has to return for a base and a pitch.
func frequencyAsWritten(t impl.Tuning, base, pitch int64) int64 {
	x := new(big.Rat).Mul(big.NewRat(base, 1), exact(t.Ratios[(pitch+12)%12]))
	for ; pitch >= 12; pitch -= 12 {
		x.Mul(x, big.NewRat(2, 1))
	}
	for ; pitch < 0; pitch += 12 {
		x.Mul(x, big.NewRat(1, 2))
	}
	return exactNearest(x.Num(), x.Denom())
}

func TestTuningConstants(t *testing.T) {
	got := []int64{impl.MinFrequency, impl.MaxFrequency, impl.MaxHarmonic}
	if want := []int64{10000, 2000000, 16}; !slices.Equal(got, want) {
		t.Errorf("constants: got %v, want %v", got, want)
	}
}

func TestValidTuning(t *testing.T) {
	for _, u := range slices.Concat(namedTunings(), drawnTunings(60)) {
		if !impl.ValidTuning(u) || !isTuning(u) {
			t.Errorf("ValidTuning(%v) = %v, as written %v", u, impl.ValidTuning(u), isTuning(u))
		}
	}
	for _, u := range invalidTunings() {
		if impl.ValidTuning(u) || isTuning(u) {
			t.Errorf("ValidTuning(%v) = %v, as written %v", u, impl.ValidTuning(u), isTuning(u))
		}
	}
}

// TestValidTuningAsWritten gives every tone many ratios.
func TestValidTuningAsWritten(t *testing.T) {
	just := tuningOf(justText)
	for tone := range 12 {
		for num := int64(-2); num <= 70; num++ {
			for den := int64(-2); den <= 36; den++ {
				u := withRatio(just, tone, ratio(num, den))
				if got := impl.ValidTuning(u); got != isTuning(u) {
					t.Errorf("ValidTuning(%v) = %v", u, got)
				}
			}
		}
	}
}

func TestSameTuning(t *testing.T) {
	all := slices.Concat(namedTunings(), invalidTunings())
	for _, a := range all {
		for _, b := range all {
			want := a.Name == b.Name && len(a.Ratios) == len(b.Ratios)
			for k := 0; want && k < len(a.Ratios); k++ {
				want = a.Ratios[k] == b.Ratios[k]
			}
			if got := impl.SameTuning(a, b); got != want {
				t.Fatalf("SameTuning(%v, %v) = %v", a, b, got)
			}
		}
		if !impl.SameTuning(a, impl.Tuning{Name: a.Name, Ratios: slices.Clone(a.Ratios)}) {
			t.Errorf("%v is not the same as its copy", a)
		}
	}
	if !impl.SameTuning(impl.Tuning{Name: "x"}, impl.Tuning{Name: "x", Ratios: []impl.Ratio{}}) {
		t.Error("no list of ratios and an empty one are not the same")
	}
	if impl.SameTuning(tuningOf("x 2/4"), tuningOf("x 1/2")) {
		t.Error("ratios of the same value, but of other numbers are the same")
	}
}

func TestJustTuning(t *testing.T) {
	got := impl.JustTuning()
	if want := tuningOf(justText); !reflect.DeepEqual(got, want) {
		t.Errorf("JustTuning() = %v, want %v", got, want)
	}
	if !impl.ValidTuning(got) {
		t.Error("the just tuning is not valid")
	}
}

func TestTuneTone(t *testing.T) {
	cases := []struct {
		tone int64
		r    impl.Ratio
		code int64
	}{
		{7, ratio(40, 27), impl.OK}, {7, ratio(3, 2), impl.OK}, {1, ratio(1000000, 999999), impl.OK}, {11, ratio(999999, 500000), impl.OK},
		{7, ratio(46, 32), impl.ErrState}, {7, ratio(23, 16), impl.OK}, {7, ratio(45, 32), impl.ErrState}, {7, ratio(8, 5), impl.ErrState},
		{7, ratio(1, 1), impl.ErrState}, {7, ratio(3, 1), impl.ErrState}, {7, ratio(6, 4), impl.ErrState}, {7, ratio(0, 0), impl.ErrState},
		{7, ratio(-3, -2), impl.ErrState}, {1, ratio(1, 1), impl.ErrState}, {1, ratio(1, 2), impl.ErrState}, {1, ratio(9, 8), impl.ErrState},
		{11, ratio(2, 1), impl.ErrState}, {11, ratio(9, 5), impl.ErrState}, {11, ratio(1000000, 499999), impl.ErrState},
		{0, ratio(1, 1), impl.ErrRange}, {12, ratio(31, 16), impl.ErrRange}, {-1, ratio(3, 2), impl.ErrRange}, {-5, ratio(3, 2), impl.ErrRange},
		{19, ratio(3, 2), impl.ErrRange}, {1<<32 + 7, ratio(3, 2), impl.ErrRange}, {math.MaxInt64, ratio(3, 2), impl.ErrRange},
		{math.MinInt64, ratio(3, 2), impl.ErrRange},
		// The range of the tone comes before the ratio.
		{0, ratio(0, 0), impl.ErrRange}, {12, ratio(6, 4), impl.ErrRange}, {-1, ratio(2, 1), impl.ErrRange},
	}
	for _, c := range cases {
		want := impl.Tuning{}
		if c.code == impl.OK {
			want = withRatio(tuningOf(justText), int(c.tone), c.r)
		}
		if got, code := impl.TuneTone(impl.JustTuning(), c.tone, c.r); !reflect.DeepEqual(got, want) || code != c.code {
			t.Errorf("TuneTone(just, %d, %v) = %v, %s", c.tone, c.r, got, impl.CodeName(code))
		}
	}
}

func TestTuneToneGivesValidTuningsOnly(t *testing.T) {
	ratios := slices.Concat(smallRatios(24), invalidRatios, lowTuning().Ratios, highTuning().Ratios)
	for _, u := range namedTunings() {
		for tone := range 12 {
			for _, r := range ratios {
				want, wanted := withRatio(u, tone, r), int64(impl.OK)
				if tone == 0 {
					want, wanted = impl.Tuning{}, impl.ErrRange
				} else if !isTuning(want) {
					want, wanted = impl.Tuning{}, impl.ErrState
				}
				if got, code := impl.TuneTone(u, int64(tone), r); !reflect.DeepEqual(got, want) || code != wanted {
					t.Fatalf("TuneTone(%v, %d, %v) = %v, %s", u, tone, r, got, impl.CodeName(code))
				}
			}
		}
	}
}

func TestPitchCents(t *testing.T) {
	want := map[int64]int64{0: 0, 7: 70196, 12: 120000, 19: 190196, 23: 228827, -12: -120000, -5: -49804, -1: -11173, 11: 108827, -11: -108835}
	for pitch, cents := range want {
		if got, code := impl.PitchCents(impl.JustTuning(), pitch); got != cents || code != impl.OK {
			t.Errorf("PitchCents(just, %d) = %d, %s; want %d", pitch, got, impl.CodeName(code), cents)
		}
	}
	for _, u := range slices.Concat(namedTunings(), drawnTunings(60)) {
		for pitch := int64(-40); pitch <= 40; pitch++ {
			cents, wanted := int64(0), int64(impl.ErrRange)
			if -12 <= pitch && pitch <= 23 {
				cents, wanted = centsAsWritten(u, pitch), impl.OK
			}
			if got, code := impl.PitchCents(u, pitch); got != cents || code != wanted {
				t.Errorf("PitchCents(%v, %d) = %d, %s; want %d", u, pitch, got, impl.CodeName(code), cents)
			}
		}
	}
}

func TestFrequencyOf(t *testing.T) {
	just, edge := impl.JustTuning(), highTuning()
	cases := []struct {
		t                         impl.Tuning
		base, pitch, wanted, code int64
	}{
		{just, 240000, 0, 240000, impl.OK}, {just, 240000, 7, 360000, impl.OK}, {just, 240000, 12, 480000, impl.OK}, {just, 240000, -12, 120000, impl.OK},
		{just, 240000, -5, 180000, impl.OK}, {just, 240000, 19, 720000, impl.OK}, {just, 240000, 23, 900000, impl.OK}, {just, 240000, -1, 225000, impl.OK},
		// 10001 / 2 and 10001 * 9/8 / 2 lie at and near a half.
		{just, 10001, -12, 5001, impl.OK}, {just, 10001, -10, 5626, impl.OK}, {just, 10004, 2, 11255, impl.OK}, {just, 10001, 1, 10668, impl.OK},
		{just, 10000, 0, 10000, impl.OK}, {just, 2000000, 0, 2000000, impl.OK}, {just, 2000000, 23, 7500000, impl.OK},
		// The products of these are greater than MaxValue.
		{edge, 2000000, 11, 3999996, impl.OK}, {edge, 2000000, 23, 7999992, impl.OK}, {edge, 2000000, -1, 1999998, impl.OK},
		{just, 9999, 0, 0, impl.ErrRange}, {just, 2000001, 0, 0, impl.ErrRange}, {just, 240000, -13, 0, impl.ErrRange}, {just, 240000, 24, 0, impl.ErrRange},
		{just, 0, 0, 0, impl.ErrRange}, {just, -240000, 0, 0, impl.ErrRange}, {just, math.MaxInt64, 7, 0, impl.ErrRange},
		{just, math.MinInt64, 7, 0, impl.ErrRange}, {just, 240000, math.MaxInt64, 0, impl.ErrRange}, {just, 240000, math.MinInt64, 0, impl.ErrRange},
		{just, 9999, 24, 0, impl.ErrRange},
	}
	for _, c := range cases {
		if got, code := impl.FrequencyOf(c.t, c.base, c.pitch); got != c.wanted || code != c.code {
			t.Errorf("FrequencyOf(%s, %d, %d) = %d, %s; want %d", c.t.Name, c.base, c.pitch, got, impl.CodeName(code), c.wanted)
		}
	}
	for _, u := range slices.Concat(namedTunings(), drawnTunings(60)) {
		for _, base := range tuningBases {
			for pitch := int64(-12); pitch <= 23; pitch++ {
				want := frequencyAsWritten(u, base, pitch)
				if got, code := impl.FrequencyOf(u, base, pitch); got != want || code != impl.OK {
					t.Errorf("FrequencyOf(%v, %d, %d) = %d, %s; want %d", u, base, pitch, got, impl.CodeName(code), want)
				}
			}
		}
	}
}

func TestNearestTone(t *testing.T) {
	just := impl.JustTuning()
	cases := []struct {
		t                       impl.Tuning
		cents, pitch, off, code int64
	}{
		{just, 0, 0, 0, impl.OK}, {just, 70000, 7, -196, impl.OK}, {just, 70196, 7, 0, impl.OK}, {just, 70197, 7, 1, impl.OK},
		{just, -120000, -12, 0, impl.OK}, {just, 240000, 23, 11173, impl.OK}, {just, 228827, 23, 0, impl.OK}, {just, 120000, 12, 0, impl.OK},
		{just, -1, 0, -1, impl.OK}, {just, -49804, -5, 0, impl.OK}, {just, 119999, 12, -1, impl.OK}, {just, -5586, 0, -5586, impl.OK}, {just, -5587, -1, 5586, impl.OK},
		// Of two equally near pitches it is the lower one.
		{just, 15778, 1, 4613, impl.OK}, {just, 15779, 2, -4612, impl.OK}, {just, -55391, -6, 5587, impl.OK}, {just, 204896, 20, 3533, impl.OK},
		// 114413 and 114414 lie on both sides of the middle of 108827 and 120000.
		{just, 114413, 11, 5586, impl.OK}, {just, 114414, 12, -5586, impl.OK},
		{just, -120001, 0, 0, impl.ErrRange}, {just, 240001, 0, 0, impl.ErrRange}, {just, math.MinInt64, 0, 0, impl.ErrRange},
		{just, math.MaxInt64, 0, 0, impl.ErrRange}, {just, 1 << 32, 0, 0, impl.ErrRange}, {just, -1 << 32, 0, 0, impl.ErrRange},
		// All tones of an octave, or all but one and the tonic above, have the same cents.
		{lowTuning(), 0, 0, 0, impl.OK}, {lowTuning(), 60000, 0, 60000, impl.OK}, {lowTuning(), 60001, 12, -59999, impl.OK},
		{lowTuning(), -60000, -12, 60000, impl.OK}, {lowTuning(), -59999, 0, -59999, impl.OK}, {lowTuning(), 240000, 12, 120000, impl.OK},
		{highTuning(), 0, -11, 0, impl.OK}, {highTuning(), 120000, 1, 0, impl.OK}, {highTuning(), 60000, -11, 60000, impl.OK},
		{highTuning(), 60001, 1, -59999, impl.OK}, {highTuning(), -120000, -12, 0, impl.OK}, {highTuning(), 240000, 13, 0, impl.OK},
	}
	for _, c := range cases {
		pitch, off, code := impl.NearestTone(c.t, c.cents)
		if pitch != c.pitch || off != c.off || code != c.code {
			t.Errorf("NearestTone(%s, %d) = %d, %d, %s; want %d, %d", c.t.Name, c.cents, pitch, off, impl.CodeName(code), c.pitch, c.off)
		}
	}
}

// TestNoPitchIsNearerThanTheNearestOne is the first half of promise 5.
func TestNoPitchIsNearerThanTheNearestOne(t *testing.T) {
	for _, u := range slices.Concat(namedTunings(), drawnTunings(60)) {
		goals := []int64{-120000, 240000}
		all := map[int64]int64{}
		for pitch := int64(-12); pitch <= 23; pitch++ {
			all[pitch] = centsAsWritten(u, pitch)
			middle := (all[pitch] + all[max(pitch-1, -12)]) / 2
			for near := int64(-2); near <= 2; near++ {
				goals = append(goals, all[pitch]+near, middle+near)
			}
		}
		for goal := int64(-120000); goal <= 240000; goal += 1733 {
			goals = append(goals, goal)
		}
		for _, goal := range goals {
			if goal < -120000 || goal > 240000 {
				continue
			}
			want := int64(-12)
			for pitch := int64(-12); pitch <= 23; pitch++ {
				if max(goal-all[pitch], all[pitch]-goal) < max(goal-all[want], all[want]-goal) {
					want = pitch
				}
			}
			if pitch, off, code := impl.NearestTone(u, goal); pitch != want || off != goal-all[want] || code != impl.OK {
				t.Errorf("NearestTone(%v, %d) = %d, %d, %s; want %d, %d", u, goal, pitch, off, impl.CodeName(code), want, goal-all[want])
			}
		}
	}
}

func TestEqualErrors(t *testing.T) {
	got, code := impl.EqualErrors(impl.JustTuning())
	if want := []int64{0, 1165, 391, 1550, -1369, -206, -978, 196, 1363, -1571, 1754, -1173}; !slices.Equal(got, want) || code != impl.OK {
		t.Errorf("EqualErrors(just) = %v, %s; want %v", got, impl.CodeName(code), want)
	}
	for _, u := range slices.Concat(namedTunings(), drawnTunings(60)) {
		var want []int64
		for tone, r := range u.Ratios {
			want = append(want, exactCents(r)-10000*int64(tone))
		}
		if got, code := impl.EqualErrors(u); !slices.Equal(got, want) || code != impl.OK {
			t.Errorf("EqualErrors(%v) = %v, %s; want %v", u, got, impl.CodeName(code), want)
		}
	}
}

func TestWorstFifth(t *testing.T) {
	cases := []struct {
		t         impl.Tuning
		tone, off int64
	}{
		{impl.JustTuning(), 2, -2158}, {lowTuning(), 0, -70196}, {highTuning(), 1, -70196},
		{tuningOf("a 1/1 10/9 26/23 25/21 30/23 4/3 33/23 30/19 19/12 31/18 7/4 17/9"), 0, 8871},
		{tuningOf("a 1/1 5/4 29/23 14/11 16/11 35/24 32/21 5/3 19/11 40/23 31/17 45/23"), 4, -18864},
		{tuningOf("a 1/1 24/23 9/8 23/17 18/13 31/22 22/15 29/19 26/17 36/23 40/23 37/20"), 8, 28572},
		{tuningOf("a 1/1 22/21 21/19 7/6 29/22 23/17 18/13 18/11 19/11 40/23 27/14 45/23"), 7, -18137},
		// The fifth above the tone 11 ends in the next octave.
		{withRatio(tuningOf(justText), 11, ratio(181, 100)), 4, -6110}, {withRatio(tuningOf(justText), 11, ratio(199, 100)), 11, -10302},
	}
	for _, c := range cases {
		if tone, off, code := impl.WorstFifth(c.t); tone != c.tone || off != c.off || code != impl.OK {
			t.Errorf("WorstFifth(%v) = %d, %d, %s; want %d, %d", c.t, tone, off, impl.CodeName(code), c.tone, c.off)
		}
	}
	for _, u := range slices.Concat(namedTunings(), drawnTunings(300)) {
		var differences []int64
		for tone := range int64(12) {
			differences = append(differences, centsAsWritten(u, tone+7)-centsAsWritten(u, tone)-70196)
		}
		most := max(slices.Max(differences), -slices.Min(differences))
		want := slices.IndexFunc(differences, func(d int64) bool { return d == most || d == -most })
		if tone, off, code := impl.WorstFifth(u); tone != int64(want) || off != differences[want] || code != impl.OK {
			t.Errorf("WorstFifth(%v) = %d, %d, %s; want %d of %v", u, tone, off, impl.CodeName(code), want, differences)
		}
	}
}

func TestBeatingOf(t *testing.T) {
	just := impl.JustTuning()
	cases := []struct{ base, a, m, b, n, beats, code int64 }{
		{240000, 0, 3, 7, 2, 0, impl.OK}, {240000, 7, 2, 0, 3, 0, impl.OK}, {240000, 0, 1, 7, 1, 120000, impl.OK}, {240000, 7, 1, 0, 1, 120000, impl.OK},
		{240000, 0, 2, 7, 3, 600000, impl.OK}, {240000, 0, 16, 0, 16, 0, impl.OK}, {240000, 0, 16, 0, 1, 3600000, impl.OK},
		{240000, -12, 1, 23, 16, 14280000, impl.OK}, {10001, -12, 2, 0, 1, 1, impl.OK}, {10001, 0, 1, -12, 2, 1, impl.OK},
		{2000000, 23, 16, -12, 1, 119000000, impl.OK}, {240000, -12, 2, 12, 1, 240000, impl.OK},
		{9999, 0, 3, 7, 2, 0, impl.ErrRange}, {2000001, 0, 3, 7, 2, 0, impl.ErrRange}, {240000, -13, 3, 7, 2, 0, impl.ErrRange},
		{240000, 24, 3, 7, 2, 0, impl.ErrRange}, {240000, 0, 0, 7, 2, 0, impl.ErrRange}, {240000, 0, 17, 7, 2, 0, impl.ErrRange},
		{240000, 0, -3, 7, 2, 0, impl.ErrRange}, {240000, 0, 3, -13, 2, 0, impl.ErrRange}, {240000, 0, 3, 24, 2, 0, impl.ErrRange},
		{240000, 0, 3, 7, 0, 0, impl.ErrRange}, {240000, 0, 3, 7, 17, 0, impl.ErrRange}, {240000, 0, 3, 7, -2, 0, impl.ErrRange},
	}
	for _, c := range cases {
		if beats, code := impl.BeatingOf(just, c.base, c.a, c.m, c.b, c.n); beats != c.beats || code != c.code {
			t.Errorf("BeatingOf(just, %d, %d, %d, %d, %d) = %d, %s; want %d", c.base, c.a, c.m, c.b, c.n, beats, impl.CodeName(code), c.beats)
		}
	}
	for _, n := range tuningNumbers {
		for place := range 5 {
			with := []int64{240000, 0, 3, 7, 2}
			with[place] = n
			within := [][2]int64{{10000, 2000000}, {-12, 23}, {1, 16}, {-12, 23}, {1, 16}}[place]
			wanted := int64(impl.OK)
			if n < within[0] || n > within[1] {
				wanted = impl.ErrRange
			}
			beats, code := impl.BeatingOf(just, with[0], with[1], with[2], with[3], with[4])
			if code != wanted || code != impl.OK && beats != 0 {
				t.Errorf("BeatingOf(just, %v) = %d, %s", with, beats, impl.CodeName(code))
			}
		}
	}
}

// beatsAsWritten returns the beats of two frequencies with harmonics.
func beatsAsWritten(a, m, b, n int64) int64 { return max(m*a-n*b, n*b-m*a) }

func TestPureBeats(t *testing.T) {
	just := impl.JustTuning()
	cases := []struct {
		t                             impl.Tuning
		base, a, b, m, n, beats, code int64
	}{
		{just, 240000, 0, 7, 3, 2, 0, impl.OK}, {just, 240000, 7, 0, 2, 3, 0, impl.OK}, {just, 240000, 0, 0, 1, 1, 0, impl.OK},
		{just, 240000, 0, 12, 2, 1, 0, impl.OK}, {just, 240000, 12, 0, 1, 2, 0, impl.OK}, {just, 240000, -12, 12, 4, 1, 0, impl.OK},
		{just, 240000, 0, 4, 5, 4, 0, impl.OK}, {just, 240000, 0, 1, 16, 15, 0, impl.OK}, {just, 240000, 1, 0, 15, 16, 0, impl.OK},
		{just, 10001, 0, -12, 1, 2, 1, impl.OK}, {just, 10001, -12, -12, 1, 1, 0, impl.OK}, {just, 240000, -12, 23, 15, 2, 0, impl.OK},
		{just, 9999, 0, 7, 0, 0, 0, impl.ErrRange}, {just, 2000001, 0, 7, 0, 0, 0, impl.ErrRange}, {just, 240000, -13, 7, 0, 0, 0, impl.ErrRange},
		{just, 240000, 24, 7, 0, 0, 0, impl.ErrRange}, {just, 240000, 0, -13, 0, 0, 0, impl.ErrRange}, {just, 240000, 0, 24, 0, 0, 0, impl.ErrRange},
		{just, math.MaxInt64, 0, 7, 0, 0, 0, impl.ErrRange}, {just, 240000, math.MinInt64, 7, 0, 0, 0, impl.ErrRange},
		{just, 240000, 0, math.MaxInt64, 0, 0, 0, impl.ErrRange},
	}
	for _, c := range cases {
		m, n, beats, code := impl.PureBeats(c.t, c.base, c.a, c.b)
		if m != c.m || n != c.n || beats != c.beats || code != c.code {
			t.Errorf("PureBeats(%s, %d, %d, %d) = %d, %d, %d, %s; want %d, %d, %d", c.t.Name, c.base, c.a, c.b, m, n, beats, impl.CodeName(code), c.m, c.n, c.beats)
		}
	}
}

// TestNoHarmonicsBeatLessThanThePurest is the second half of promise 5.
func TestNoHarmonicsBeatLessThanThePurest(t *testing.T) {
	ties := 0
	for k, u := range slices.Concat(namedTunings(), drawnTunings(40)) {
		for _, base := range []int64{10000, 19 * 23 * 29, 230000, 240000, 2000000}[k%2:] {
			for a := int64(-12); a <= 23; a++ {
				for b := int64(-12); b <= 23; b++ {
					ties += checkPureBeats(t, u, base, a, b)
				}
			}
		}
	}
	if ties == 0 {
		t.Error("no two pairs of harmonics had the same fewest beats, but some")
	}
}

// checkPureBeats holds PureBeats against all harmonics, and returns how many others with a greater m have the same beats, if these are some.
func checkPureBeats(t *testing.T, u impl.Tuning, base, a, b int64) int {
	first, second := frequencyAsWritten(u, base, a), frequencyAsWritten(u, base, b)
	wantM, wantN, least, ties := int64(0), int64(0), int64(math.MaxInt64), 0
	for m := int64(1); m <= 16; m++ {
		for n := int64(1); n <= 16; n++ {
			switch beats := beatsAsWritten(first, m, second, n); {
			case beats < least:
				wantM, wantN, least, ties = m, n, beats, 0
			case beats == least && least > 0:
				ties++
			}
		}
	}
	m, n, beats, code := impl.PureBeats(u, base, a, b)
	if m != wantM || n != wantN || beats != least || code != impl.OK {
		t.Fatalf("PureBeats(%v, %d, %d, %d) = %d, %d, %d, %s; want %d, %d, %d", u, base, a, b, m, n, beats, impl.CodeName(code), wantM, wantN, least)
	}
	if same, code := impl.BeatingOf(u, base, a, m, b, n); same != beats || code != impl.OK {
		t.Fatalf("BeatingOf(%v, %d, %d, %d, %d, %d) = %d, %s; PureBeats has %d", u, base, a, m, b, n, same, impl.CodeName(code), beats)
	}
	return ties
}

func TestTuningText(t *testing.T) {
	if got := impl.TuningText(impl.JustTuning()); got != justText {
		t.Errorf("TuningText(just) = %q", got)
	}
	for _, u := range slices.Concat(namedTunings(), drawnTunings(60)) {
		text := u.Name
		for _, r := range u.Ratios {
			text += " " + strconv.FormatInt(r.Num, 10) + "/" + strconv.FormatInt(r.Den, 10)
		}
		if got := impl.TuningText(u); got != text {
			t.Errorf("TuningText(%v) = %q", u, got)
		}
		if got, ok := impl.ReadTuning(text); !reflect.DeepEqual(got, u) || !ok {
			t.Errorf("ReadTuning(%q) = %v, %v", text, got, ok)
		}
	}
	for _, u := range invalidTunings() {
		if got := impl.TuningText(u); got != "" {
			t.Errorf("TuningText(%v) = %q", u, got)
		}
	}
}

func TestReadTuningRefuses(t *testing.T) {
	bad := []string{
		"just", "just ", " " + justText, justText + " ", justText + " 31/16", justText + " 2/1", justText + " x", justText + "\n", justText + "/",
		strings.TrimPrefix(justText, "just "), strings.TrimPrefix(justText, "just"), strings.Replace(justText, " ", "  ", 1),
		strings.Replace(justText, " 3/2", "  3/2", 1), strings.Replace(justText, " 3/2", "\t3/2", 1), strings.Replace(justText, " 3/2", "", 1),
		strings.Replace(justText, "3/2", "6/4", 1), strings.Replace(justText, "3/2", "3:2", 1), strings.Replace(justText, "3/2", "3", 1),
		strings.Replace(justText, "3/2", "03/2", 1), strings.Replace(justText, "3/2", "+3/2", 1), strings.Replace(justText, "3/2", "-3/-2", 1),
		strings.Replace(justText, "3/2", "3/2/1", 1), strings.Replace(justText, "3/2", "3/0", 1), strings.Replace(justText, "3/2", "1/1", 1),
		strings.Replace(justText, "3/2", "8/5", 1), strings.Replace(justText, "1/1", "2/2", 1), strings.Replace(justText, "1/1", "17/16", 1),
		strings.Replace(justText, "15/8", "2/1", 1), strings.Replace(justText, "15/8", "1000001/500001", 1), strings.Replace(justText, "just", "Just", 1),
		strings.Replace(justText, "just", "j t", 1), strings.Replace(justText, "just", "abcdefghijk", 1), strings.Replace(justText, "just", "1", 1),
		justText + " " + justText, justText + strings.Repeat(" 15/8", 20000), "just" + strings.Repeat(" 1/1", 12), "just" + strings.Repeat(" ", 12),
		"just" + strings.Repeat(" ", 13), strings.ReplaceAll(justText, " ", ","), strings.ToUpper(justText), "just " + strings.Repeat("1", 100000),
	}
	for _, text := range append(bad, oddTexts...) {
		if u, ok := impl.ReadTuning(text); !reflect.DeepEqual(u, impl.Tuning{}) || ok {
			t.Errorf("ReadTuning(%q) = %v, %v", text, u, ok)
		}
	}
}

// hasTuning tells without the program whether a tuning has a text, by writing down what is read.
func hasTuning(text string) bool {
	u := tuningOf(text)
	again := u.Name
	for _, r := range u.Ratios {
		again += " " + strconv.FormatInt(r.Num, 10) + "/" + strconv.FormatInt(r.Den, 10)
	}
	return again == text && isTuning(u)
}

// TestReadTuningTakesTextsOfTuningsOnly changes, inserts and removes each byte of texts.
func TestReadTuningTakesTextsOfTuningsOnly(t *testing.T) {
	check := func(text string) {
		u, ok := impl.ReadTuning(text)
		want := impl.Tuning{}
		if hasTuning(text) {
			want = tuningOf(text)
		}
		if ok != hasTuning(text) || !reflect.DeepEqual(u, want) {
			t.Errorf("ReadTuning(%q) = %v, %v", text, u, ok)
		}
	}
	for _, u := range namedTunings() {
		text := impl.TuningText(u)
		for _, edited := range editsOf(text, strings.Split(" /0159-+aZ\n\xff", "")...) {
			check(edited)
		}
	}
}

// TestInvalidTunings holds that ErrInvalid comes before all other errors.
func TestInvalidTunings(t *testing.T) {
	for _, bad := range invalidTunings() {
		for _, n := range []int64{math.MinInt64, -13, -12, 0, 1, 7, 24, 240000, 240001, math.MaxInt64} {
			answers := map[string][]int64{}
			tuned, code := impl.TuneTone(bad, n, ratio(3, 2))
			answers["TuneTone"] = []int64{int64(len(tuned.Name) + len(tuned.Ratios)), code}
			tuned, code = impl.TuneTone(bad, n, ratio(0, 0))
			answers["TuneTone of no ratio"] = []int64{int64(len(tuned.Name) + len(tuned.Ratios)), code}
			cents, code := impl.PitchCents(bad, n)
			answers["PitchCents"] = []int64{cents, code}
			frequency, code := impl.FrequencyOf(bad, n, n)
			answers["FrequencyOf"] = []int64{frequency, code}
			frequency, code = impl.FrequencyOf(bad, 240000, n)
			answers["FrequencyOf a pitch"] = []int64{frequency, code}
			pitch, off, code := impl.NearestTone(bad, n)
			answers["NearestTone"] = []int64{pitch, off, code}
			differences, code := impl.EqualErrors(bad)
			answers["EqualErrors"] = []int64{int64(len(differences)), code}
			worst, off, code := impl.WorstFifth(bad)
			answers["WorstFifth"] = []int64{worst, off, code}
			beats, code := impl.BeatingOf(bad, 240000, n, n, n, n)
			answers["BeatingOf"] = []int64{beats, code}
			beats, code = impl.BeatingOf(bad, n, 0, 3, 7, 2)
			answers["BeatingOf a base"] = []int64{beats, code}
			m, k, beats, code := impl.PureBeats(bad, 240000, n, n)
			answers["PureBeats"] = []int64{m, k, beats, code}
			m, k, beats, code = impl.PureBeats(bad, n, 0, 7)
			answers["PureBeats of a base"] = []int64{m, k, beats, code}
			for what, answer := range answers {
				last := len(answer) - 1
				if answer[last] != impl.ErrInvalid || slices.Max(answer[:last]) != 0 || slices.Min(answer[:last]) != 0 {
					t.Fatalf("%s of %v and %d: %v", what, bad, n, answer)
				}
			}
		}
	}
}

// answersOfTunings returns what chapter 4 answers to many arguments.
func answersOfTunings() []any {
	var all []any
	keep := func(answers ...any) { all = append(all, answers...) }
	for _, u := range slices.Concat(namedTunings(), invalidTunings()) {
		differences, one := impl.EqualErrors(u)
		worst, off, two := impl.WorstFifth(u)
		keep(differences, one, worst, off, two, impl.ValidTuning(u), impl.TuningText(u), impl.SameTuning(u, impl.JustTuning()))
		for k, n := range tuningNumbers {
			other := tuningNumbers[len(tuningNumbers)-1-k]
			cents, one := impl.PitchCents(u, n)
			frequency, two := impl.FrequencyOf(u, 240000, n)
			high, three := impl.FrequencyOf(u, n, 7)
			pitch, off, four := impl.NearestTone(u, n)
			tuned, five := impl.TuneTone(u, n, ratio(40, 27))
			keep(cents, one, frequency, two, high, three, pitch, off, four, tuned, five)
			beats, six := impl.BeatingOf(u, 240000, n, n, other, n)
			fewer, seven := impl.BeatingOf(u, n, other, 3, 7, other)
			m, h, least, eight := impl.PureBeats(u, 240000, n, other)
			keep(beats, six, fewer, seven, m, h, least, eight)
		}
	}
	for _, text := range append([]string{justText, "just", "x 1/1"}, oddTexts...) {
		u, ok := impl.ReadTuning(text)
		keep(u, ok)
	}
	return append(all, impl.JustTuning())
}

func TestTuningsReturnEqualResults(t *testing.T) {
	if !reflect.DeepEqual(answersOfTunings(), answersOfTunings()) {
		t.Error("equal arguments, other results")
	}
}

// useTuning calls all functions of chapter 4 that take a tuning and returns the tunings and the list that they return.
func useTuning(u impl.Tuning) ([]impl.Tuning, []int64) {
	impl.ValidTuning(u)
	impl.SameTuning(u, u)
	impl.TuningText(u)
	impl.PitchCents(u, -5)
	impl.FrequencyOf(u, 240000, 7)
	impl.NearestTone(u, 70000)
	impl.WorstFifth(u)
	impl.BeatingOf(u, 240000, 0, 3, 7, 2)
	impl.PureBeats(u, 240000, 0, 7)
	differences, _ := impl.EqualErrors(u)
	tuned, _ := impl.TuneTone(u, 7, ratio(40, 27))
	var own impl.Tuning
	if len(u.Ratios) > 7 {
		own, _ = impl.TuneTone(u, 7, u.Ratios[7])
	}
	refused, _ := impl.TuneTone(u, 7, ratio(6, 4))
	read, _ := impl.ReadTuning(justText)
	return []impl.Tuning{tuned, own, refused, read, impl.JustTuning()}, differences
}

func TestTuningsModifyNoArgument(t *testing.T) {
	for _, u := range slices.Concat(namedTunings(), invalidTunings()) {
		whole := append(slices.Clone(u.Ratios), ratio(91, 92), ratio(93, 94), ratio(95, 96))
		before := slices.Clone(whole)
		useTuning(impl.Tuning{Name: u.Name, Ratios: whole[:len(u.Ratios)]})
		if !slices.Equal(whole, before) {
			t.Errorf("the memory of %v was changed: %v", u, whole)
		}
	}
}

func TestTuningsReturnNewMemory(t *testing.T) {
	for _, u := range namedTunings() {
		before := slices.Clone(u.Ratios)
		wanted, differencesWanted := useTuning(u)
		tunings, differences := useTuning(u)
		second, differencesSecond := useTuning(u)
		for _, list := range tunings {
			ratios := list.Ratios[:cap(list.Ratios)]
			for k := range ratios {
				ratios[k] = ratio(99, 98)
			}
		}
		for k := range differences[:cap(differences)] {
			differences[:cap(differences)][k] = 99
		}
		third, differencesThird := useTuning(u)
		same := reflect.DeepEqual(second, wanted) && slices.Equal(differencesSecond, differencesWanted)
		again := reflect.DeepEqual(third, wanted) && slices.Equal(differencesThird, differencesWanted)
		if !same || !again || !slices.Equal(u.Ratios, before) {
			t.Errorf("results for %v share memory", before)
		}
	}
}
