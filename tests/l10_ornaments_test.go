package tests

import (
	"math"
	"math/rand"
	"reflect"
	"slices"
	"strconv"
	"strings"
	"testing"

	"loop.example/g01033/impl"
)

// centsAround are numbers at and around the limits of curves and of depths, and at the ends of int64.
var centsAround = []int64{
	math.MinInt64, math.MinInt64 + 1, -impl.MaxValue, -3000, -2001, -2000, -1999, -1201, -1200, -1199, -100, -51, -50, -49, -1, 0, 1, 49, 50, 51, 100,
	1199, 1200, 1201, 1999, 2000, 2001, 2999, 3000, 3001, impl.MaxValue, math.MaxInt64 - 1, math.MaxInt64,
}

// timesAround are numbers at and around the limits of times, and at the ends of int64.
var timesAround = []int64{math.MinInt64, -impl.MaxValue, -16, -1, 0, 1, 2, 15, 16, 17, 32, impl.MaxValue, math.MaxInt64}

// notLengths are numbers that are no lengths.
var notLengths = []int64{math.MinInt64, math.MinInt64 + 1, -impl.MaxValue, -64, -1, 0, 65, 66, 128, impl.MaxValue, math.MaxInt64}

var kindNames = []string{"", "glide", "shake", "grace", "swell"}

func ornament(kind, depth, times int64) impl.Ornament {
	return impl.Ornament{Kind: kind, Depth: depth, Times: times}
}

// isOrnament is what the document calls an ornament.
func isOrnament(x impl.Ornament) bool {
	return x.Kind >= 1 && x.Kind <= 4 && x.Depth >= -1200 && x.Depth <= 1200 && x.Times >= 1 && x.Times <= 16
}

// ornamentAsWritten is the text of an ornament.
func ornamentAsWritten(x impl.Ornament) string {
	return kindNames[x.Kind] + " " + strconv.FormatInt(x.Depth, 10) + " " + strconv.FormatInt(x.Times, 10)
}

// ornamentsAround have numbers at and around all limits.
func ornamentsAround() []impl.Ornament {
	var all []impl.Ornament
	for _, kind := range []int64{math.MinInt64, -1, 0, 1, 2, 3, 4, 5, 6, 1 << 32, math.MaxInt64} {
		for _, depth := range centsAround {
			for _, times := range timesAround {
				all = append(all, ornament(kind, depth, times))
			}
		}
	}
	return all
}

// goodOrnaments and badOrnaments are those of them that are ornaments, and the others.
func goodOrnaments() []impl.Ornament {
	return slices.DeleteFunc(ornamentsAround(), func(x impl.Ornament) bool { return !isOrnament(x) })
}

func badOrnaments() []impl.Ornament { return slices.DeleteFunc(ornamentsAround(), isOrnament) }

// isNearestTo tells whether a number is the integer that is nearest to num / den, the one that is farther from 0 if two are; den is positive.
func isNearestTo(n, num, den int64) bool {
	away := max(num-n*den, n*den-num)
	return 2*away < den || 2*away == den && max(n*den, -n*den) > max(num, -num)
}

// isCurve is what the document calls a curve.
func isCurve(curve []int64) bool {
	for k, n := range curve {
		if k >= 3072 || n < -2000 || n > 3000 {
			return false
		}
	}
	return true
}

// checkCurve holds a curve and a code against what is wanted.
func checkCurve(t *testing.T, what string, got []int64, code int64, want []int64, wantCode int64) {
	t.Helper()
	if code != wantCode || !slices.Equal(got, want) {
		t.Errorf("%s = %v, %d, want %v, %d", what, got, code, want, wantCode)
	}
}

// drawOrnament draws an ornament.
func drawOrnament(draw *rand.Rand) impl.Ornament {
	most := []int64{3, 100, 1200}[draw.Intn(3)]
	return ornament(1+draw.Int63n(4), draw.Int63n(2*most+1)-most, 1+draw.Int63n(16))
}

// drawCurve draws a curve: all over the range, near to one pitch, in long runs, or in steps.
func drawCurve(draw *rand.Rand, count int) []int64 {
	curve := []int64{}
	last, way := draw.Int63n(5001)-2000, draw.Intn(4)
	for range count {
		switch way {
		case 0:
			last = draw.Int63n(5001) - 2000
		case 1:
			last = 700 + draw.Int63n(99) - 49
		case 2:
			if draw.Intn(90) == 0 {
				last = draw.Int63n(3500) - 1200
			}
		default:
			last = min(max(last+draw.Int63n(41)-20, -2000), 3000)
		}
		curve = append(curve, last)
	}
	return curve
}

// curves are curves without numbers, with the limits, and drawn ones, of all sizes.
func curves(seed int64, count int) [][]int64 {
	draw := rand.New(rand.NewSource(seed))
	all := [][]int64{nil, {}, {0}, {-2000}, {3000}, {-2000, 3000}, {3000, -2000, 3000}, {0, 1, 0}, {0, 100, 0}, {1, 0, 0, 1}, {0, 50, -20}, {0, 50, 51, 449}, make([]int64, 3072), slices.Repeat([]int64{-2000, 3000}, 1536)}
	for range count {
		all = append(all, drawCurve(draw, draw.Intn([]int{4, 20, 200, 3073}[draw.Intn(4)])))
	}
	return all
}

// invalidCurves are lists of numbers that are no curves.
func invalidCurves() [][]int64 {
	all := [][]int64{make([]int64, 3073), make([]int64, 10000), append(make([]int64, 3072), 5000)}
	for _, n := range centsAround {
		if n < -2000 || n > 3000 {
			all = append(all, []int64{n}, []int64{n, 0}, []int64{0, n}, []int64{0, n, 0}, []int64{n, n, n}, append(make([]int64, 3071), n), append([]int64{n}, make([]int64, 3072)...))
		}
	}
	return all
}

func TestOrnamentConstants(t *testing.T) {
	got := []int64{impl.OrGlide, impl.OrShake, impl.OrGrace, impl.OrSwell, impl.MaxDepth, impl.MaxCurve}
	if !slices.Equal(got, []int64{1, 2, 3, 4, 1200, 3072}) {
		t.Errorf("constants: %v", got)
	}
}

func TestOrnamentName(t *testing.T) {
	for kind := int64(-300); kind <= 300; kind++ {
		want := ""
		if kind >= 1 && kind <= 4 {
			want = kindNames[kind]
		}
		if got := impl.OrnamentName(kind); got != want {
			t.Errorf("OrnamentName(%d) = %q, want %q", kind, got, want)
		}
	}
	for _, kind := range []int64{math.MinInt64, math.MinInt64 + 1, -1 << 32, 1<<32 + 1, 1 << 62, math.MaxInt64} {
		if got := impl.OrnamentName(kind); got != "" {
			t.Errorf("OrnamentName(%d) = %q", kind, got)
		}
	}
}

func TestValidOrnament(t *testing.T) {
	count := map[bool]int{}
	for _, x := range ornamentsAround() {
		count[isOrnament(x)]++
		if impl.ValidOrnament(x) != isOrnament(x) {
			t.Errorf("ValidOrnament(%v) = %v", x, !isOrnament(x))
		}
	}
	if count[true] < 100 || count[false] < 1000 {
		t.Errorf("ornaments and others: %v", count)
	}
}

func TestOrnamentCurve(t *testing.T) {
	cases := []struct {
		x      impl.Ornament
		length int64
		want   []int64
	}{
		{ornament(2, 50, 1), 4, []int64{0, 0, 50, 50}}, {ornament(1, 100, 1), 4, []int64{80, 60, 40, 20}}, {ornament(3, -30, 2), 4, []int64{-30, -30, 0, 0}}, {ornament(4, 100, 1), 4, []int64{0, 25, 25, 0}},
		{ornament(1, 100, 1), 1, []int64{50}}, {ornament(2, 100, 1), 1, []int64{0}}, {ornament(3, 100, 1), 1, []int64{100}}, {ornament(4, 100, 1), 1, []int64{0}},
		{ornament(1, 1, 1), 1, []int64{1}}, {ornament(1, -1, 1), 1, []int64{-1}}, {ornament(1, -3, 9), 3, []int64{-2, -2, -1}}, {ornament(1, 1200, 16), 2, []int64{800, 400}}, {ornament(1, 0, 1), 3, []int64{0, 0, 0}},
		{ornament(2, 50, 1), 3, []int64{0, 0, 50}}, {ornament(2, 50, 1), 5, []int64{0, 0, 0, 50, 50}}, {ornament(2, 50, 2), 4, []int64{0, 50, 0, 50}}, {ornament(2, -7, 2), 8, []int64{0, 0, -7, -7, 0, 0, -7, -7}},
		{ornament(2, 50, 2), 5, []int64{0, 0, 50, 0, 50}}, {ornament(2, 50, 16), 2, []int64{0, 0}}, {ornament(2, 50, 3), 4, []int64{0, 50, 50, 0}}, {ornament(2, 50, 4), 4, []int64{0, 0, 0, 0}}, {ornament(2, 50, 16), 3, []int64{0, 0, 50}},
		{ornament(3, 5, 4), 4, []int64{5, 5, 5, 5}}, {ornament(3, 5, 16), 3, []int64{5, 5, 5}}, {ornament(3, 5, 3), 4, []int64{5, 5, 5, 0}}, {ornament(3, -1200, 1), 2, []int64{-1200, 0}},
		{ornament(4, 100, 1), 2, []int64{0, 0}}, {ornament(4, 100, 1), 3, []int64{0, 33, 0}}, {ornament(4, -5, 1), 5, []int64{0, -1, -2, -1, 0}}, {ornament(4, 1, 1), 4, []int64{0, 0, 0, 0}}, {ornament(4, 2, 1), 4, []int64{0, 1, 1, 0}}, {ornament(4, -2, 1), 4, []int64{0, -1, -1, 0}},
	}
	for _, c := range cases {
		got, code := impl.OrnamentCurve(c.x, c.length)
		checkCurve(t, "OrnamentCurve "+ornamentAsWritten(c.x), got, code, c.want, impl.OK)
	}
}

// isChange tells whether a number is how much an ornament changes a unit of a note, without dividing.
func isChange(n int64, x impl.Ornament, unit, length int64) bool {
	switch x.Kind {
	case 1:
		return isNearestTo(n, x.Depth*(length-unit), length+1)
	case 2:
		part := int64(0)
		for (part+1)*length <= unit*2*x.Times {
			part++
		}
		return n == x.Depth*(part%2)
	case 3:
		if unit+1 > x.Times {
			return n == 0
		}
		return n == x.Depth
	}
	behind := length - 1 - unit
	return isNearestTo(n, x.Depth*min(unit, behind), length)
}

// checkOrnamentCurve holds all units of the curve of an ornament.
func checkOrnamentCurve(t *testing.T, x impl.Ornament, length int64) {
	t.Helper()
	curve, code := impl.OrnamentCurve(x, length)
	if code != impl.OK || int64(len(curve)) != length {
		t.Fatalf("OrnamentCurve(%v, %d) = %v, %d", x, length, curve, code)
	}
	for unit, n := range curve {
		if !isChange(n, x, int64(unit), length) {
			t.Errorf("OrnamentCurve(%v, %d) = %v: the unit %d", x, length, curve, unit)
		}
	}
}

// TestOrnamentCurveAsWritten holds the curves of all depths, times and lengths, as far as they matter.
func TestOrnamentCurveAsWritten(t *testing.T) {
	for length := int64(1); length <= 64; length++ {
		for depth := int64(-1200); depth <= 1200; depth++ {
			times := 1 + (depth+1200)%16
			checkOrnamentCurve(t, ornament(1, depth, times), length)
			checkOrnamentCurve(t, ornament(4, depth, times), length)
		}
		for times := int64(1); times <= 16; times++ {
			for _, depth := range []int64{-1200, -7, -1, 0, 1, 50, 1200} {
				for kind := int64(1); kind <= 4; kind++ {
					checkOrnamentCurve(t, ornament(kind, depth, times), length)
				}
			}
		}
	}
}

// TestFirstAndLastUnit holds what the document's formulas give at both ends of a note.
func TestFirstAndLastUnit(t *testing.T) {
	for length := int64(1); length <= 64; length++ {
		for _, depth := range []int64{-1200, -65, -1, 1, 65, 1200} {
			for times := int64(1); times <= 16; times++ {
				ends := func(kind int64) (int64, int64) {
					curve, _ := impl.OrnamentCurve(ornament(kind, depth, times), length)
					return curve[0], curve[length-1]
				}
				if first, last := ends(1); !isNearestTo(first, depth*length, length+1) || !isNearestTo(last, depth, length+1) {
					t.Errorf("a glide of %d, %d long: %d, %d", depth, length, first, last)
				}
				if first, last := ends(4); first != 0 || last != 0 {
					t.Errorf("a swell of %d, %d long: %d, %d", depth, length, first, last)
				}
				if first, last := ends(2); first != 0 || length >= 2*times && last != depth {
					t.Errorf("a shake of %d, %d times, %d long: %d, %d", depth, times, length, first, last)
				}
				if first, last := ends(3); first != depth || (last == depth) != (times >= length) {
					t.Errorf("a grace of %d, %d times, %d long: %d, %d", depth, times, length, first, last)
				}
			}
		}
	}
}

func TestOrnamentCurveErrors(t *testing.T) {
	for _, x := range badOrnaments() {
		for _, length := range append([]int64{1, 4, 64}, notLengths...) {
			got, code := impl.OrnamentCurve(x, length)
			checkCurve(t, "OrnamentCurve of no ornament", got, code, nil, impl.ErrInvalid)
		}
	}
	for _, x := range goodOrnaments() {
		for _, length := range notLengths {
			got, code := impl.OrnamentCurve(x, length)
			checkCurve(t, "OrnamentCurve of no length", got, code, nil, impl.ErrRange)
		}
	}
}

func TestGlideCurve(t *testing.T) {
	cases := []struct {
		from, to, length int64
		want             []int64
	}{
		{0, 100, 4, []int64{0, 25, 50, 75}}, {100, 0, 4, []int64{100, 75, 50, 25}}, {0, 100, 1, []int64{0}}, {-7, -7, 3, []int64{-7, -7, -7}}, {0, 1, 2, []int64{0, 1}}, {0, -1, 2, []int64{0, -1}},
		{-2000, 3000, 2, []int64{-2000, 500}}, {3000, -2000, 4, []int64{3000, 1750, 500, -750}}, {3000, 3000, 1, []int64{3000}}, {-1, 2, 3, []int64{-1, 0, 1}}, {-1, 0, 2, []int64{-1, -1}}, {1, 0, 2, []int64{1, 1}},
	}
	for _, c := range cases {
		got, code := impl.GlideCurve(c.from, c.to, c.length)
		checkCurve(t, "GlideCurve", got, code, c.want, impl.OK)
	}
	draw := rand.New(rand.NewSource(112))
	for length := int64(1); length <= 64; length++ {
		for _, from := range centsAround {
			for _, to := range centsAround {
				checkGlideCurve(t, from, to, length)
			}
		}
		for range 500 {
			checkGlideCurve(t, draw.Int63n(5001)-2000, draw.Int63n(5001)-2000, length)
			from := draw.Int63n(21) - 10
			checkGlideCurve(t, from, from+draw.Int63n(5)-2, length)
		}
	}
	for _, length := range notLengths {
		for _, from := range centsAround {
			got, code := impl.GlideCurve(from, 0, length)
			checkCurve(t, "GlideCurve of no length", got, code, nil, impl.ErrRange)
			got, code = impl.GlideCurve(3000, from, length)
			checkCurve(t, "GlideCurve of no length", got, code, nil, impl.ErrRange)
		}
	}
}

// checkGlideCurve holds all units of a way between two numbers.
func checkGlideCurve(t *testing.T, from, to, length int64) {
	t.Helper()
	got, code := impl.GlideCurve(from, to, length)
	if !isCurve([]int64{from, to}) {
		checkCurve(t, "GlideCurve out of the range", got, code, nil, impl.ErrRange)
		return
	}
	if code != impl.OK || int64(len(got)) != length || got[0] != from {
		t.Fatalf("GlideCurve(%d, %d, %d) = %v, %d", from, to, length, got, code)
	}
	for k, n := range got {
		unit := int64(k)
		if !isNearestTo(n, from*(length-unit)+to*unit, length) {
			t.Errorf("GlideCurve(%d, %d, %d) = %v: the unit %d", from, to, length, got, k)
		}
	}
}

// plainCurve is the curve of a melody without ornaments.
func plainCurve(m []impl.Note) []int64 {
	var curve []int64
	for _, pitch := range soundOf(m) {
		curve = append(curve, 100*pitch)
	}
	return curve
}

func TestMelodyCurve(t *testing.T) {
	got, code := impl.MelodyCurve(melodyFrom("S2 G4"))
	checkCurve(t, "MelodyCurve of S2 G4", got, code, []int64{0, 0, 400, 400, 400, 400}, impl.OK)
	got, code = impl.MelodyCurve(melodyFrom("S, N' r"))
	checkCurve(t, "MelodyCurve of S, N' r", got, code, []int64{-1200, 2300, 100}, impl.OK)
	for _, m := range melodies(113, 300) {
		got, code := impl.MelodyCurve(m)
		checkCurve(t, "MelodyCurve of "+melodyAsWritten(m), got, code, plainCurve(m), impl.OK)
	}
	for _, m := range invalidMelodies() {
		got, code := impl.MelodyCurve(m)
		checkCurve(t, "MelodyCurve of no melody", got, code, nil, impl.ErrInvalid)
	}
}

// untied tells whether no two notes of a melody that follow one another have the same pitch.
func untied(m []impl.Note) bool {
	for k := 1; k < len(m); k++ {
		if m[k].Pitch == m[k-1].Pitch {
			return false
		}
	}
	return true
}

// withoutOrnaments are as many ornaments of the Kind 0, whatever their other fields are.
func withoutOrnaments(draw *rand.Rand, count int) []impl.Ornament {
	list := []impl.Ornament{}
	for range count {
		list = append(list, ornament(0, centsAround[draw.Intn(len(centsAround))], timesAround[draw.Intn(len(timesAround))]))
	}
	return list
}

// TestMelodiesWithoutOrnaments holds that a melody without ornaments has its own curve, which leads back to it.
func TestMelodiesWithoutOrnaments(t *testing.T) {
	draw := rand.New(rand.NewSource(114))
	count := map[bool]int{}
	for _, m := range melodies(115, 1000) {
		own, code := impl.MelodyCurve(m)
		checkCurve(t, "MelodyCurve", own, code, plainCurve(m), impl.OK)
		for _, list := range [][]impl.Ornament{make([]impl.Ornament, len(m)), withoutOrnaments(draw, len(m))} {
			got, code := impl.OrnamentMelody(m, list)
			checkCurve(t, "OrnamentMelody without ornaments", got, code, own, impl.OK)
		}
		back, code := impl.CurveNotes(own)
		if code != impl.OK || !slices.Equal(soundOf(back), soundOf(m)) {
			t.Errorf("CurveNotes of the curve of %v = %v, %d", m, back, code)
		}
		count[untied(m)]++
		if untied(m) {
			checkMelody(t, "CurveNotes of the curve", m, back, code, m, impl.OK)
		}
		if off, code := impl.CurveError(own); off != 0 || code != impl.OK {
			t.Errorf("CurveError of the curve of %v = %d, %d", m, off, code)
		}
	}
	if count[true] < 100 || count[false] < 100 {
		t.Errorf("melodies without equal pitches in a row and others: %v", count)
	}
}

func TestOrnamentMelody(t *testing.T) {
	none := impl.Ornament{}
	cases := []struct {
		text string
		list []impl.Ornament
		want []int64
		code int64
	}{
		{"S2 G4", []impl.Ornament{none, ornament(2, 50, 1)}, []int64{0, 0, 400, 400, 450, 450}, impl.OK}, {"S2 G4", nil, nil, impl.ErrOrder}, {"S2 G4", make([]impl.Ornament, 1), nil, impl.ErrOrder}, {"S2 G4", make([]impl.Ornament, 3), nil, impl.ErrOrder},
		{"S2 G4", []impl.Ornament{ornament(3, -30, 1), ornament(4, 100, 1)}, []int64{-30, 0, 400, 425, 425, 400}, impl.OK}, {"S2 G4", []impl.Ornament{ornament(4, 100, 1), ornament(1, -100, 1)}, []int64{0, 0, 320, 340, 360, 380}, impl.OK},
		{"-", nil, nil, impl.OK}, {"-", []impl.Ornament{none}, nil, impl.ErrOrder}, {"-", []impl.Ornament{ornament(1, 1201, 1)}, nil, impl.ErrInvalid}, {"S2 G4", []impl.Ornament{ornament(1, 0, 0)}, nil, impl.ErrInvalid},
		{"S", []impl.Ornament{ornament(0, math.MaxInt64, math.MinInt64)}, []int64{0}, impl.OK}, {"S", []impl.Ornament{ornament(-1, 0, 1)}, nil, impl.ErrInvalid}, {"S", []impl.Ornament{ornament(5, 0, 1)}, nil, impl.ErrInvalid},
		{"N'2", []impl.Ornament{ornament(3, 700, 1)}, []int64{3000, 2300}, impl.OK}, {"N'2", []impl.Ornament{ornament(3, 701, 1)}, nil, impl.ErrState}, {"N'8", []impl.Ornament{ornament(3, 1200, 1)}, nil, impl.ErrState},
		{"S,2", []impl.Ornament{ornament(3, -800, 1)}, []int64{-2000, -1200}, impl.OK}, {"S,2", []impl.Ornament{ornament(3, -801, 1)}, nil, impl.ErrState}, {"S,2", []impl.Ornament{ornament(2, -801, 1)}, nil, impl.ErrState},
		{"N'", []impl.Ornament{ornament(1, 1200, 1)}, []int64{2900}, impl.OK}, {"N'", []impl.Ornament{ornament(2, 1200, 1)}, []int64{2300}, impl.OK}, {"N'", []impl.Ornament{ornament(4, 1200, 1)}, []int64{2300}, impl.OK}, {"N'2", []impl.Ornament{ornament(1, 1200, 1)}, nil, impl.ErrState},
		{"N'2", []impl.Ornament{ornament(1, 1050, 1)}, []int64{3000, 2650}, impl.OK}, {"N'2", []impl.Ornament{ornament(1, 1051, 1)}, nil, impl.ErrState}, {"S N'2 S", []impl.Ornament{none, ornament(2, 701, 1), none}, nil, impl.ErrState}, {"N'2 S", []impl.Ornament{ornament(3, 701, 1)}, nil, impl.ErrOrder},
		{"N'2 S", []impl.Ornament{ornament(3, 701, 1), ornament(3, 0, 17)}, nil, impl.ErrInvalid}, {"S N'2", []impl.Ornament{ornament(3, 701, 1), none}, []int64{701, 2300, 2300}, impl.OK},
	}
	for _, c := range cases {
		got, code := impl.OrnamentMelody(melodyFrom(c.text), c.list)
		checkCurve(t, "OrnamentMelody of "+c.text, got, code, c.want, c.code)
	}
}

// TestOrnamentMelodyAsWritten holds drawn ornaments against the curves of each one.
func TestOrnamentMelodyAsWritten(t *testing.T) {
	draw := rand.New(rand.NewSource(116))
	count := map[int64]int{}
	for which, m := range melodies(117, 1500) {
		list := withoutOrnaments(draw, len(m))
		for k := range list {
			if which%2 == 0 {
				m[k].Pitch = []int64{-12, -9, 19, 23}[draw.Intn(4)]
			}
			if draw.Intn(3) > 0 {
				list[k] = drawOrnament(draw)
			}
		}
		var want []int64
		for k, n := range m {
			change := make([]int64, n.Length)
			if list[k].Kind != 0 {
				change, _ = impl.OrnamentCurve(list[k], n.Length)
			}
			for _, by := range change {
				want = append(want, 100*n.Pitch+by)
			}
		}
		wantCode := int64(impl.OK)
		if !isCurve(want) {
			want, wantCode = nil, impl.ErrState
		}
		got, code := impl.OrnamentMelody(m, list)
		checkCurve(t, "OrnamentMelody of "+melodyAsWritten(m), got, code, want, wantCode)
		count[code]++
	}
	if len(count) != 2 || count[impl.OK] < 100 || count[impl.ErrState] < 100 {
		t.Errorf("codes: %v", count)
	}
}

func TestOrnamentMelodyErrors(t *testing.T) {
	for _, m := range invalidMelodies() {
		for _, list := range [][]impl.Ornament{nil, make([]impl.Ornament, len(m)), {ornament(1, 5, 1)}, {ornament(9, 0, 0)}} {
			got, code := impl.OrnamentMelody(m, list)
			checkCurve(t, "OrnamentMelody of no melody", got, code, nil, impl.ErrInvalid)
		}
	}
	for _, x := range badOrnaments() {
		if x.Kind == 0 {
			continue
		}
		for _, list := range [][]impl.Ornament{{x, {}, {}}, {{}, {}, x}, {x}, {{}, {}, {}, x}, {ornament(3, 1200, 1), x, {}}} {
			got, code := impl.OrnamentMelody(melodyFrom("N' S R2"), list)
			checkCurve(t, "OrnamentMelody with no ornament", got, code, nil, impl.ErrInvalid)
		}
	}
	for _, m := range melodies(118, 50) {
		for _, count := range []int{0, 1, len(m) - 1, len(m) + 1, 48, 49, 5000} {
			if count < 0 || count == len(m) {
				continue
			}
			for _, list := range [][]impl.Ornament{make([]impl.Ornament, count), slices.Repeat([]impl.Ornament{ornament(3, 1200, 16)}, count)} {
				got, code := impl.OrnamentMelody(m, list)
				checkCurve(t, "OrnamentMelody with too many or few ornaments", got, code, nil, impl.ErrOrder)
			}
		}
	}
}

func TestSmoothCurve(t *testing.T) {
	cases := []struct {
		curve []int64
		times int64
		want  []int64
	}{
		{[]int64{0, 100, 0}, 1, []int64{0, 50, 0}}, {[]int64{0, 100, 0}, 0, []int64{0, 100, 0}}, {[]int64{0, 100, 0}, 2, []int64{0, 25, 0}}, {[]int64{0, 100, 0}, 3, []int64{0, 13, 0}}, {[]int64{0, -100, 0}, 3, []int64{0, -13, 0}},
		{nil, 0, nil}, {nil, 100, nil}, {[]int64{7}, 100, []int64{7}}, {[]int64{7, -9}, 100, []int64{7, -9}}, {[]int64{0, 0, 100, 0, 0}, 1, []int64{0, 25, 50, 25, 0}}, {[]int64{0, 0, 100, 0, 0}, 2, []int64{0, 25, 38, 25, 0}},
		{[]int64{-2000, 3000, -2000, 3000}, 1, []int64{-2000, 500, 500, 3000}}, {[]int64{100, 0, 0, 100}, 1, []int64{100, 25, 25, 100}}, {[]int64{0, 1, 0}, 1, []int64{0, 1, 0}}, {[]int64{0, -1, 0}, 100, []int64{0, -1, 0}}, {[]int64{0, 0, 1, 0, 0}, 1, []int64{0, 0, 1, 0, 0}},
		{[]int64{3000, 3000, 3000}, 100, []int64{3000, 3000, 3000}}, {[]int64{1, 0, 0}, 1, []int64{1, 0, 0}}, {[]int64{1, 0, 1}, 1, []int64{1, 1, 1}}, {[]int64{0, 2, 4, 6}, 100, []int64{0, 2, 4, 6}},
	}
	for _, c := range cases {
		got, code := impl.SmoothCurve(c.curve, c.times)
		checkCurve(t, "SmoothCurve", got, code, c.want, impl.OK)
	}
}

// smoothedAsWritten smooths a curve once.
func smoothedAsWritten(curve []int64) []int64 {
	smooth := slices.Clone(curve)
	for k := 1; k < len(curve)-1; k++ {
		sum := curve[k-1] + 2*curve[k] + curve[k+1]
		for n := sum/4 - 1; n <= sum/4+1; n++ {
			if isNearestTo(n, sum, 4) {
				smooth[k] = n
			}
		}
	}
	return smooth
}

// TestSmoothCurveAsWritten smooths curves up to 100 times; long ones are slow to go through, so that only some numbers of times are held.
func TestSmoothCurveAsWritten(t *testing.T) {
	for _, curve := range curves(119, 120) {
		want := curve
		for times := int64(0); times <= 100; times++ {
			if len(curve) < 300 || times < 3 || times%33 == 0 || times == 100 {
				got, code := impl.SmoothCurve(curve, times)
				checkCurve(t, "SmoothCurve "+strconv.FormatInt(times, 10), got, code, want, impl.OK)
			}
			want = smoothedAsWritten(want)
		}
		for _, times := range []int64{math.MinInt64, -impl.MaxValue, -100, -1, 101, 102, 200, impl.MaxValue, math.MaxInt64} {
			got, code := impl.SmoothCurve(curve, times)
			checkCurve(t, "SmoothCurve with wrong times", got, code, nil, impl.ErrRange)
		}
	}
}

// nearestBySearch tries all integers from -30 to 40, and takes the least one of several.
func nearestBySearch(cents int64) int64 {
	best := int64(-30)
	for n := int64(-30); n <= 40; n++ {
		if max(100*n-cents, cents-100*n) < max(100*best-cents, cents-100*best) {
			best = n
		}
	}
	return best
}

// notesAsWritten are the notes of a curve, and the code.
func notesAsWritten(curve []int64) ([]impl.Note, int64) {
	var m []impl.Note
	for _, cents := range curve {
		pitch := nearestBySearch(cents)
		if pitch < -12 || pitch > 23 {
			return nil, impl.ErrState
		}
		if last := len(m) - 1; last >= 0 && m[last].Pitch == pitch && m[last].Length < 64 {
			m[last].Length++
		} else {
			m = append(m, note(pitch, 1))
		}
	}
	if len(m) > 48 {
		return nil, impl.ErrFull
	}
	return m, impl.OK
}

func TestCurveNotes(t *testing.T) {
	steps := func(count int) []int64 {
		curve := []int64{}
		for k := range count {
			curve = append(curve, int64(k%2)*100)
		}
		return curve
	}
	cases := []struct {
		curve []int64
		want  string
		code  int64
	}{
		{[]int64{0, 50, 51, 449}, "S2 r G", impl.OK}, {nil, "-", impl.OK}, {[]int64{-50, -49, -51, -150, -151}, "N, S N, n,2", impl.OK}, {[]int64{-1251}, "", impl.ErrState}, {[]int64{-1250}, "", impl.ErrState}, {[]int64{-1249}, "S,", impl.OK},
		{[]int64{2350}, "N'", impl.OK}, {[]int64{2351}, "", impl.ErrState}, {[]int64{-2000}, "", impl.ErrState}, {[]int64{3000}, "", impl.ErrState}, {[]int64{0, 0, 3000}, "", impl.ErrState}, {[]int64{-2000, 0, 0}, "", impl.ErrState},
		{make([]int64, 64), "S64", impl.OK}, {make([]int64, 65), "S64 S", impl.OK}, {make([]int64, 128), "S64 S64", impl.OK}, {make([]int64, 130), "S64 S64 S2", impl.OK}, {append(make([]int64, 65), 100, 0), "S64 S r S", impl.OK},
		{steps(48), strings.Repeat("S r ", 23) + "S r", impl.OK}, {steps(49), "", impl.ErrFull}, {append(steps(49), 2351), "", impl.ErrState}, {append(steps(3071), -1250), "", impl.ErrState}, {append(steps(48), 100, 100), strings.Repeat("S r ", 23) + "S r3", impl.OK},
		{append(steps(48), slices.Repeat([]int64{100}, 63)...), strings.Repeat("S r ", 23) + "S r64", impl.OK}, {append(steps(48), slices.Repeat([]int64{100}, 64)...), "", impl.ErrFull}, {[]int64{0, 1200, 0, -1200}, "S S' S S,", impl.OK},
	}
	for _, c := range cases {
		var want []impl.Note
		if c.code == impl.OK {
			want = melodyFrom(c.want)
		}
		got, code := impl.CurveNotes(c.curve)
		checkMelody(t, "CurveNotes", nil, got, code, want, c.code)
	}
	if got, code := impl.CurveNotes(make([]int64, 3072)); code != impl.OK || !slices.Equal(got, sameNotes(48, 0, 64)) {
		t.Errorf("CurveNotes of 3072 numbers = %v, %d", got, code)
	}
}

// TestCurveNotesAsWritten goes through all numbers, and drawn curves.
func TestCurveNotesAsWritten(t *testing.T) {
	all := curves(120, 1000)
	for cents := int64(-2000); cents <= 3000; cents++ {
		all = append(all, []int64{cents}, []int64{cents, max(cents-1, -2000)})
	}
	count := map[int64]int{}
	for _, curve := range all {
		want, wantCode := notesAsWritten(curve)
		got, code := impl.CurveNotes(curve)
		if code != wantCode || !slices.Equal(got, want) {
			t.Errorf("CurveNotes(%v) = %v, %d, want %v, %d", curve, got, code, want, wantCode)
		}
		count[code]++
	}
	if len(count) != 3 || count[impl.OK] < 300 || count[impl.ErrState] < 300 || count[impl.ErrFull] < 20 {
		t.Errorf("codes: %v", count)
	}
}

func TestCurveError(t *testing.T) {
	cases := []struct {
		curve []int64
		want  int64
	}{
		{[]int64{0, 50, -20}, 50}, {nil, 0}, {[]int64{100, -1200, 2300}, 0}, {[]int64{-50}, 50}, {[]int64{51}, 49}, {[]int64{-51}, 49}, {[]int64{-2000}, 0}, {[]int64{3000}, 0}, {[]int64{2351}, 49}, {[]int64{2999, -1999}, 1},
		{[]int64{-1251}, 49}, {[]int64{-1250, 0}, 50}, {[]int64{0, 30, -40, 20}, 40}, {[]int64{-40, 0}, 40}, {[]int64{0, -40}, 40}, {[]int64{199}, 1}, {make([]int64, 3072), 0}, {append(make([]int64, 3071), -2), 2}, {[]int64{2950}, 50},
	}
	for _, c := range cases {
		if got, code := impl.CurveError(c.curve); got != c.want || code != impl.OK {
			t.Errorf("CurveError(%v) = %d, %d, want %d", c.curve, got, code, c.want)
		}
	}
	all := curves(121, 300)
	for cents := int64(-2000); cents <= 3000; cents++ {
		all = append(all, []int64{cents}, []int64{0, cents, 10})
	}
	for _, curve := range all {
		want := int64(0)
		for _, cents := range curve {
			nearest := nearestBySearch(cents)
			want = max(want, 100*nearest-cents, cents-100*nearest)
		}
		if got, code := impl.CurveError(curve); got != want || code != impl.OK {
			t.Errorf("CurveError(%v) = %d, %d, want %d", curve, got, code, want)
		}
	}
}

func TestInvalidCurves(t *testing.T) {
	for _, curve := range invalidCurves() {
		for _, times := range []int64{math.MinInt64, -1, 0, 1, 100, 101, math.MaxInt64} {
			got, code := impl.SmoothCurve(curve, times)
			checkCurve(t, "SmoothCurve of no curve", got, code, nil, impl.ErrInvalid)
		}
		notes, code := impl.CurveNotes(curve)
		checkMelody(t, "CurveNotes of no curve", nil, notes, code, nil, impl.ErrInvalid)
		if off, code := impl.CurveError(curve); off != 0 || code != impl.ErrInvalid {
			t.Errorf("CurveError of no curve = %d, %d", off, code)
		}
	}
}

// divideCase is a note of a melody that is divided by another one, and what becomes of the melody.
type divideCase struct {
	text             string
	k, pitch, length int64
	want             string
	code             int64
}

func (c divideCase) check(t *testing.T, name string, divide func([]impl.Note, int64, int64, int64) ([]impl.Note, int64)) {
	t.Helper()
	var want []impl.Note
	if c.code == impl.OK {
		want = melodyFrom(c.want)
	}
	got, code := divide(melodyFrom(c.text), c.k, c.pitch, c.length)
	checkMelody(t, name+" "+strconv.FormatInt(c.k, 10)+" "+strconv.FormatInt(c.pitch, 10)+" "+strconv.FormatInt(c.length, 10), melodyFrom(c.text), got, code, want, c.code)
}

func TestGraceNotes(t *testing.T) {
	forty8, forty7 := strings.Repeat("S2 ", 47)+"S2", strings.Repeat("S2 ", 46)+"S2"
	cases := []divideCase{
		{"S2 G4", 1, 5, 1, "S2 m G3", impl.OK}, {"S2 G4", 1, 5, 3, "S2 m3 G", impl.OK}, {"S2 G4", 1, 5, 4, "", impl.ErrState}, {"S2 G4", 1, 5, 5, "", impl.ErrState}, {"S2 G4", 0, 5, 1, "m S G4", impl.OK}, {"S2 G4", 0, 5, 2, "", impl.ErrState},
		{"S2 G4", 2, 5, 1, "", impl.ErrRange}, {"S2 G4", -1, 5, 1, "", impl.ErrRange}, {"S2 G4", math.MinInt64, 5, 1, "", impl.ErrRange}, {"S2 G4", math.MaxInt64, 5, 1, "", impl.ErrRange}, {"S2 G4", 1 << 32, 5, 1, "", impl.ErrRange},
		{"S2 G4", 0, 24, 1, "", impl.ErrRange}, {"S2 G4", 0, -13, 1, "", impl.ErrRange}, {"S2 G4", 0, 23, 1, "N' S G4", impl.OK}, {"S2 G4", 0, -12, 1, "S, S G4", impl.OK}, {"S2 G4", 0, 5, 0, "", impl.ErrRange}, {"S2 G4", 0, 5, -1, "", impl.ErrRange},
		{"S2 G4", 0, 5, 64, "", impl.ErrState}, {"S2 G4", 0, 5, 65, "", impl.ErrRange}, {"S", 0, 5, 1, "", impl.ErrState}, {"-", 0, 5, 1, "", impl.ErrRange}, {"S64", 0, 0, 63, "S63 S", impl.OK}, {"S64", 0, 0, 64, "", impl.ErrState},
		{forty7, 0, 5, 1, "m S" + forty7[2:], impl.OK}, {forty7, 46, 5, 1, forty7[:len(forty7)-2] + "m S", impl.OK}, {forty8, 0, 5, 1, "", impl.ErrFull}, {forty8, 47, 5, 1, "", impl.ErrFull}, {forty8, 0, 5, 2, "", impl.ErrState}, {forty8, 48, 5, 1, "", impl.ErrRange}, {forty8, 0, 5, 65, "", impl.ErrRange},
	}
	for _, c := range cases {
		c.check(t, "GraceNotes", impl.GraceNotes)
	}
}

func TestTrillNote(t *testing.T) {
	forty7 := strings.Repeat("S2 ", 46) + "S2"
	cases := []divideCase{
		{"S2 G4", 1, 5, 1, "S2 G m G m", impl.OK}, {"S2 G4", 1, 5, 2, "S2 G2 m2", impl.OK}, {"S2 G4", 1, 5, 3, "", impl.ErrState}, {"S2 G4", 1, 5, 4, "", impl.ErrState}, {"S2 G4", 1, 5, 8, "", impl.ErrState}, {"S2 G4", 0, 5, 1, "S m G4", impl.OK},
		{"S2 G4", 2, 5, 1, "", impl.ErrRange}, {"S2 G4", -1, 5, 1, "", impl.ErrRange}, {"S2 G4", math.MinInt64, 5, 1, "", impl.ErrRange}, {"S2 G4", math.MaxInt64, 5, 1, "", impl.ErrRange}, {"S2 G4", 1 << 32, 5, 1, "", impl.ErrRange},
		{"S2 G4", 0, 24, 1, "", impl.ErrRange}, {"S2 G4", 0, -13, 1, "", impl.ErrRange}, {"S2 G4", 0, 23, 1, "S N' G4", impl.OK}, {"S2 G4", 0, -12, 1, "S S, G4", impl.OK}, {"S2 G4", 0, 5, 0, "", impl.ErrRange}, {"S2 G4", 0, 5, -1, "", impl.ErrRange},
		{"S2 G4", 0, 5, 64, "", impl.ErrState}, {"S2 G4", 0, 5, 65, "", impl.ErrRange}, {"S", 0, 5, 1, "", impl.ErrState}, {"-", 0, 5, 1, "", impl.ErrRange}, {"S3", 0, 5, 1, "S m S", impl.OK}, {"S3", 0, 0, 1, "S S S", impl.OK}, {"S3", 0, 5, 2, "", impl.ErrState},
		{"S64", 0, 5, 1, "", impl.ErrFull}, {"S64", 0, 5, 2, strings.Repeat("S2 m2 ", 15) + "S2 m2", impl.OK}, {"S48", 0, 5, 1, strings.Repeat("S m ", 23) + "S m", impl.OK}, {"S49", 0, 5, 1, "", impl.ErrFull}, {"R S48", 1, 5, 1, "", impl.ErrFull}, {"R S47", 1, 5, 1, "R " + strings.Repeat("S m ", 23) + "S", impl.OK},
		{"S47 R", 0, 5, 1, strings.Repeat("S m ", 23) + "S R", impl.OK}, {forty7, 46, 5, 1, forty7[:len(forty7)-2] + "S m", impl.OK}, {forty7 + " S2", 47, 5, 1, "", impl.ErrFull}, {forty7 + " S3", 47, 5, 2, "", impl.ErrState}, {forty7 + " S2", 47, 5, 2, "", impl.ErrState}, {forty7 + " S2", 47, 24, 1, "", impl.ErrRange},
	}
	for _, c := range cases {
		c.check(t, "TrillNote", impl.TrillNote)
	}
}

// dividedAsWritten replaces the note k of a melody by other ones.
func dividedAsWritten(m []impl.Note, k int, parts []impl.Note) ([]impl.Note, int64) {
	all := append(append(slices.Clone(m[:k]), parts...), m[k+1:]...)
	if len(all) > 48 {
		return nil, impl.ErrFull
	}
	return all, impl.OK
}

// graceAsWritten and trillAsWritten build the parts unit by unit.
func graceAsWritten(m []impl.Note, k int, pitch, length int64) ([]impl.Note, int64) {
	rest := m[k]
	for range length {
		rest.Length--
	}
	if rest.Length < 1 {
		return nil, impl.ErrState
	}
	return dividedAsWritten(m, k, []impl.Note{note(pitch, length), rest})
}

func trillAsWritten(m []impl.Note, k int, pitch, length int64) ([]impl.Note, int64) {
	var parts []impl.Note
	left := m[k].Length
	for ; left >= length; left -= length {
		if len(parts)%2 == 0 {
			parts = append(parts, note(m[k].Pitch, length))
		} else {
			parts = append(parts, note(pitch, length))
		}
	}
	if left > 0 || len(parts) < 2 {
		return nil, impl.ErrState
	}
	return dividedAsWritten(m, k, parts)
}

// TestDividedNotesAsWritten divides all notes of melodies by notes of all lengths.
func TestDividedNotesAsWritten(t *testing.T) {
	draw := rand.New(rand.NewSource(122))
	count := map[int64]int{}
	for _, m := range melodies(123, 60) {
		for k := range m {
			for length := int64(1); length <= 64; length++ {
				pitch := draw.Int63n(36) - 12
				want, wantCode := graceAsWritten(m, k, pitch, length)
				got, code := impl.GraceNotes(m, int64(k), pitch, length)
				checkMelody(t, "GraceNotes", m, got, code, want, wantCode)
				count[code]++
				want, wantCode = trillAsWritten(m, k, pitch, length)
				got, code = impl.TrillNote(m, int64(k), pitch, length)
				checkMelody(t, "TrillNote", m, got, code, want, wantCode)
				count[code]++
			}
		}
	}
	if len(count) != 3 || count[impl.OK] < 1000 || count[impl.ErrState] < 1000 || count[impl.ErrFull] < 100 {
		t.Errorf("codes: %v", count)
	}
}

func TestDividedNotesErrors(t *testing.T) {
	check := func(m []impl.Note, k, pitch, length, want int64) {
		t.Helper()
		got, code := impl.GraceNotes(m, k, pitch, length)
		checkMelody(t, "GraceNotes", m, got, code, nil, want)
		got, code = impl.TrillNote(m, k, pitch, length)
		checkMelody(t, "TrillNote", m, got, code, nil, want)
	}
	for _, m := range invalidMelodies() {
		for _, k := range []int64{-1, 0, 47, 48, math.MinInt64, math.MaxInt64} {
			check(m, k, 5, 1, impl.ErrInvalid)
			check(m, k, 24, 0, impl.ErrInvalid)
			check(m, k, 0, 64, impl.ErrInvalid)
		}
	}
	for _, m := range melodies(124, 60) {
		size := int64(len(m))
		for _, k := range []int64{math.MinInt64, -impl.MaxValue, -size - 1, -1, size, size + 1, 48, 1 << 32, impl.MaxValue, math.MaxInt64} {
			check(m, k, 5, 1, impl.ErrRange)
			check(m, k, 5, 64, impl.ErrRange)
		}
		for k := range size {
			for _, n := range numbersAround {
				if n < -12 || n > 23 {
					check(m, k, n, 1, impl.ErrRange)
					check(m, k, n, 64, impl.ErrRange)
				}
			}
			for _, n := range notLengths {
				check(m, k, 5, n, impl.ErrRange)
				check(m, k, 24, n, impl.ErrRange)
			}
		}
	}
}

func TestOrnamentText(t *testing.T) {
	cases := []struct {
		x    impl.Ornament
		want string
	}{
		{ornament(2, 50, 1), "shake 50 1"}, {ornament(1, -1200, 16), "glide -1200 16"}, {ornament(3, 1200, 9), "grace 1200 9"}, {ornament(4, 0, 10), "swell 0 10"}, {ornament(4, -7, 2), "swell -7 2"},
		{ornament(0, 50, 1), ""}, {ornament(5, 50, 1), ""}, {ornament(2, 1201, 1), ""}, {ornament(2, -1201, 1), ""}, {ornament(2, 50, 0), ""}, {ornament(2, 50, 17), ""}, {impl.Ornament{}, ""},
	}
	for _, c := range cases {
		if got := impl.OrnamentText(c.x); got != c.want {
			t.Errorf("OrnamentText(%v) = %q, want %q", c.x, got, c.want)
		}
	}
	for _, x := range badOrnaments() {
		if got := impl.OrnamentText(x); got != "" {
			t.Errorf("OrnamentText(%v) = %q", x, got)
		}
	}
	for kind := int64(1); kind <= 4; kind++ {
		for depth := int64(-1200); depth <= 1200; depth++ {
			for times := int64(1); times <= 16; times++ {
				x := ornament(kind, depth, times)
				text := impl.OrnamentText(x)
				if text != ornamentAsWritten(x) {
					t.Fatalf("OrnamentText(%v) = %q", x, text)
				}
				if back, ok := impl.ReadOrnament(text); !ok || back != x {
					t.Fatalf("ReadOrnament(%q) = %v, %v", text, back, ok)
				}
			}
		}
	}
}

func TestReadOrnamentRefuses(t *testing.T) {
	bad := []string{
		"shake", "shake ", "shake 50", "shake 50 ", "shake  50 1", "shake 50  1", " shake 50 1", "shake 50 1 ", "shake 50 1 1", "shake 50 1\n", "shake\t50 1", "shake 50\t1", "shake,50,1", "shake 50,1", "shake50 1", "shake 501",
		"50 1", " 50 1", "2 50 1", "Shake 50 1", "SHAKE 50 1", "shak 50 1", "shakes 50 1", "none 50 1", "- 50 1", "turn 50 1", "shake 050 1", "shake +50 1", "shake -0 1", "shake - 1", "shake 50 01", "shake 50 +1", "shake 50 -1", "shake 50 0",
		"shake 50 17", "shake 1201 1", "shake -1201 1", "shake 50.0 1", "shake a 1", "shake 50 a", "shake  1", "shake 50 1\x00", "shake\x00 50 1", "shake 18446744073709551666 1", "shake 50 18446744073709551617", "shake 4294967346 1", "shake 50 4294967297",
		"shake 50 9223372036854775808", "shake 50 1;shake 50 1", "shake 1 50", "1 50 shake", "glideshake 50 1", "glide shake 50 1", strings.Repeat("shake ", 5000), "shake 50 1" + strings.Repeat(" 1", 5000), "shake " + strings.Repeat("5", 5000) + " 1",
		"shake 50 1" + strings.Repeat(" ", 5000), strings.Repeat("a", 5000) + " 50 1",
	}
	for _, text := range append(bad, oddTexts...) {
		if x, ok := impl.ReadOrnament(text); ok || x != (impl.Ornament{}) {
			t.Errorf("ReadOrnament(%.100q) = %v, %v", text, x, ok)
		}
	}
}

// TestReadOrnamentTakesTextsOfOrnamentsOnly holds texts with each byte changed, inserted or removed, and all short numbers, against the texts of all ornaments.
func TestReadOrnamentTakesTextsOfOrnamentsOnly(t *testing.T) {
	texts := map[string]impl.Ornament{}
	for kind := int64(1); kind <= 4; kind++ {
		for depth := int64(-1200); depth <= 1200; depth++ {
			for times := int64(1); times <= 16; times++ {
				texts[ornamentAsWritten(ornament(kind, depth, times))] = ornament(kind, depth, times)
			}
		}
	}
	count := map[bool]int{}
	check := func(text string) {
		want, has := texts[text]
		count[has]++
		if x, ok := impl.ReadOrnament(text); ok != has || x != want {
			t.Errorf("ReadOrnament(%q) = %v, %v", text, x, ok)
		}
	}
	for _, text := range textsOver("012- ", 5) {
		check("shake " + text + " 1")
		check("swell 1 " + text)
		check("grace" + text)
		check("glide " + text)
	}
	for _, x := range goodOrnaments() {
		text := ornamentAsWritten(x)
		for _, edited := range editsOf(text, " ", ",", "-", "0", "1", "6", "9", "a", "e", "l", "G", "+", "\t", "\xff", ";") {
			check(edited)
		}
	}
	if count[true] < 500 || count[false] < 5000 {
		t.Errorf("texts of ornaments and others: %v", count)
	}
}

// answersOfOrnaments returns what chapter 10 answers to many arguments.
func answersOfOrnaments() []any {
	var all []any
	keep := func(answers ...any) { all = append(all, answers...) }
	draw := rand.New(rand.NewSource(125))
	for _, x := range append(badOrnaments()[:200], goodOrnaments()...) {
		length := draw.Int63n(70)
		curve, one := impl.OrnamentCurve(x, length)
		read, ok := impl.ReadOrnament(impl.OrnamentText(x))
		keep(curve, one, read, ok, impl.OrnamentName(x.Kind), impl.ValidOrnament(x))
		glide, two := impl.GlideCurve(x.Depth, x.Depth+x.Times, length)
		keep(glide, two)
	}
	for _, m := range append(melodies(126, 50), invalidMelodies()[:20]...) {
		list := []impl.Ornament{}
		for range len(m) {
			list = append(list, drawOrnament(draw))
		}
		curves, notes, codes := useOrnaments(m, list, drawCurve(draw, draw.Intn(300)))
		keep(curves, notes, codes)
	}
	for _, text := range oddTexts {
		read, ok := impl.ReadOrnament(text)
		keep(read, ok)
	}
	return all
}

func TestOrnamentsReturnEqualResults(t *testing.T) {
	first := answersOfOrnaments()
	for range 20 {
		if !reflect.DeepEqual(answersOfOrnaments(), first) {
			t.Error("equal arguments, other results")
		}
	}
}

// useOrnaments calls all functions of chapter 10 that take or return lists, and returns what they return.
func useOrnaments(m []impl.Note, list []impl.Ornament, curve []int64) ([][]int64, [][]impl.Note, []int64) {
	var curves [][]int64
	var notes [][]impl.Note
	var codes []int64
	keep := func(out []int64, code int64) { curves, codes = append(curves, out), append(codes, code) }
	keepNotes := func(out []impl.Note, code int64) { notes, codes = append(notes, out), append(codes, code) }
	for kind := int64(0); kind <= 4; kind++ {
		keep(impl.OrnamentCurve(ornament(kind, 90, 2), 9))
	}
	keep(impl.GlideCurve(-70, 900, 12))
	keep(impl.MelodyCurve(m))
	keep(impl.OrnamentMelody(m, list))
	keep(impl.OrnamentMelody(m, make([]impl.Ornament, len(m))))
	for times := int64(0); times <= 3; times++ {
		keep(impl.SmoothCurve(curve, times))
	}
	own, _ := impl.MelodyCurve(m)
	keepNotes(impl.CurveNotes(curve))
	keepNotes(impl.CurveNotes(own))
	for k := range int64(3) {
		keepNotes(impl.GraceNotes(m, k, 5, 1))
		keepNotes(impl.TrillNote(m, k, 5, 1))
	}
	off, code := impl.CurveError(curve)
	return curves, notes, append(codes, off, code)
}

// spareOrnaments returns the same ornaments with others behind them in their capacity, and all of their memory.
func spareOrnaments(list []impl.Ornament) ([]impl.Ornament, []impl.Ornament) {
	whole := append(slices.Clone(list), ornament(1, 2, 3), ornament(9, 9, 9), ornament(0, 0, 0))
	return whole[:len(list)], whole
}

func TestOrnamentsModifyNoArgument(t *testing.T) {
	draw := rand.New(rand.NewSource(127))
	allCurves := append(curves(128, 30), invalidCurves()...)
	for k, notes := range append(melodies(129, 60), invalidMelodies()...) {
		var ornaments []impl.Ornament
		for range notes {
			ornaments = append(ornaments, drawOrnament(draw))
		}
		m, wholeNotes := spareNotes(notes)
		list, wholeList := spareOrnaments(ornaments)
		curve, wholeCurve := spare(allCurves[k%len(allCurves)])
		beforeNotes, beforeList, beforeCurve := slices.Clone(wholeNotes), slices.Clone(wholeList), slices.Clone(wholeCurve)
		useOrnaments(m, list, curve)
		if !slices.Equal(wholeNotes, beforeNotes) || !slices.Equal(wholeList, beforeList) || !slices.Equal(wholeCurve, beforeCurve) {
			t.Fatalf("the memory of %v, %v or %v was changed", notes, ornaments, curve)
		}
	}
}

// TestOrnamentsReturnNewMemory spoils one curve or melody that was returned after the other, and holds that all others, and the arguments, stay.
func TestOrnamentsReturnNewMemory(t *testing.T) {
	draw := rand.New(rand.NewSource(130))
	for _, notes := range melodies(131, 20) {
		m, wholeNotes := spareNotes(notes)
		var ornaments []impl.Ornament
		for range m {
			ornaments = append(ornaments, ornament(1+draw.Int63n(4), draw.Int63n(700), 2))
		}
		curve, wholeCurve := spare(drawCurve(draw, 40))
		beforeNotes, beforeCurve := slices.Clone(wholeNotes), slices.Clone(wholeCurve)
		use := func() ([][]int64, [][]impl.Note) {
			all, notes, _ := useOrnaments(m, ornaments, curve)
			return all, notes
		}
		wanted, wantedNotes := use()
		spoilings := len(wanted) + len(wantedNotes)
		for k := range spoilings {
			got, gotNotes := use()
			if k < len(wanted) {
				spoil(got[k])
				got[k] = wanted[k]
			} else {
				spoilNotes(gotNotes[k-len(wanted)])
				gotNotes[k-len(wanted)] = wantedNotes[k-len(wanted)]
			}
			again, againNotes := use()
			if !sameMemories(got, wanted, gotNotes, wantedNotes) || !sameMemories(again, wanted, againNotes, wantedNotes) {
				t.Errorf("result %d shares memory with another one", k)
			}
			if !slices.Equal(wholeNotes, beforeNotes) || !slices.Equal(wholeCurve, beforeCurve) {
				t.Fatalf("result %d shares memory with an argument", k)
			}
		}
	}
}

// sameMemories tells whether curves and melodies are those that are wanted.
func sameMemories(got, wanted [][]int64, notes, wantedNotes [][]impl.Note) bool {
	return slices.EqualFunc(got, wanted, slices.Equal[[]int64]) && slices.EqualFunc(notes, wantedNotes, slices.Equal[[]impl.Note])
}
