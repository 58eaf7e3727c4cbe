package tests

import (
	"math"
	"math/rand"
	"reflect"
	"slices"
	"strings"
	"testing"

	"loop.example/g01033/impl"
)

const (
	bhupaliText = "bhupali SRGPD SRGPD GD"
	deshText    = "desh SRmPN SRGmPDn RP GR"
	yamanText   = "yaman SRGMPDN SRGMPDN GN SR"
)

// numbersAround are numbers at and around the limits of tones and pitches, and at the ends of int64.
var numbersAround = []int64{
	math.MinInt64, math.MinInt64 + 1, math.MinInt64 + 12, -impl.MaxValue, -64, -25, -24, -14, -13, -12, -11, -1, 0, 1, 2, 5, 7, 10, 11, 12, 13, 14,
	22, 23, 24, 25, 35, 36, 63, 64, impl.MaxValue, math.MaxInt64 - 12, math.MaxInt64 - 1, math.MaxInt64,
}

// ragaOf reads the parts of a text without the functions of the program.
func ragaOf(text string) impl.Raga {
	words := strings.Split(text, " ")
	main := scale(words[3])
	r := impl.Raga{Name: words[0], Up: scale(words[1]), Down: scale(words[2]), Strong: main[0], Weak: main[1], Forbidden: [][]int64{}}
	for _, word := range words[4:] {
		r.Forbidden = append(r.Forbidden, scale(word))
	}
	return r
}

// textAsWritten is the text of a raga with tones and pairs of tones.
func textAsWritten(r impl.Raga) string {
	letters := func(tones ...int64) string {
		text := ""
		for _, tone := range tones {
			text += toneLetters[tone : tone+1]
		}
		return text
	}
	text := r.Name + " " + letters(r.Up...) + " " + letters(r.Down...) + " " + letters(r.Strong, r.Weak)
	for _, pair := range r.Forbidden {
		text += " " + letters(pair...)
	}
	return text
}

// cloneRaga returns a raga that shares no memory with r.
func cloneRaga(r impl.Raga) impl.Raga {
	r.Up, r.Down, r.Forbidden = slices.Clone(r.Up), slices.Clone(r.Down), slices.Clone(r.Forbidden)
	for k, pair := range r.Forbidden {
		r.Forbidden[k] = slices.Clone(pair)
	}
	return r
}

// namedRagas are ragas with the same tones and different ones both ways, with many, few and useless pairs.
func namedRagas() []impl.Raga {
	var all []impl.Raga
	for _, text := range []string{
		bhupaliText, deshText, yamanText,
		"a SRGPD SRGPD SR", "z123456789 SRGPD SRGPD DS", "a1 SRGPD SRGPD SR RG", "a2 SRGPD SRGPD SR RG GR",
		"full SrRgGmMPdDnN SrRgGmMPdDnN SN", "fullup SrRgGmMPdDnN SRGPD rn", "fulldown SRGPD SrRgGmMPdDnN nr",
		"apart SrRgG SmMPd rd", "apart2 SMPdD SrRgG Dr rR Rr MP PM", "marwa SrGMDN SrGMDN rD GP",
		"eight SRGmPDN SRGmPDn GN SR SG RS RG GS GR mP NS", "octave SRGPD SRGPD GD SP PS", "useless SRGPD SRGPD GD rM mn nN",
		"first SRGPD SRGPD GD Sr", "last SRGPDN SRGPDN GN Nn", "ends SRGPD SRGPD GD SN NS",
	} {
		all = append(all, ragaOf(text))
	}
	return all
}

// drawScale draws a scale of any size.
func drawScale(draw *rand.Rand) []int64 {
	size := impl.MinScale + draw.Intn(impl.Tones-impl.MinScale+1)
	s := []int64{0}
	for _, tone := range draw.Perm(impl.Tones - 1)[:size-1] {
		s = append(s, int64(tone)+1)
	}
	slices.Sort(s)
	return s
}

// drawPairs draws pairs of tones in lexicographic order.
func drawPairs(draw *rand.Rand, count int) [][]int64 {
	pairs := [][]int64{}
	for _, k := range draw.Perm(impl.Tones * impl.Tones) {
		if k/impl.Tones != k%impl.Tones && len(pairs) < count {
			pairs = append(pairs, []int64{int64(k / impl.Tones), int64(k % impl.Tones)})
		}
	}
	slices.SortFunc(pairs, slices.Compare[[]int64])
	return pairs
}

func drawnRagas(count int) []impl.Raga {
	draw := rand.New(rand.NewSource(5))
	var all []impl.Raga
	for range count {
		r := impl.Raga{Name: "drawn", Up: drawScale(draw), Down: drawScale(draw)}
		tones := tonesAsWritten(r)
		two := draw.Perm(len(tones))
		r.Strong, r.Weak = tones[two[0]], tones[two[1]]
		r.Forbidden = drawPairs(draw, draw.Intn(impl.MaxForbidden+1))
		all = append(all, r)
	}
	return all
}

// tonesAsWritten are the tones of either scale.
func tonesAsWritten(r impl.Raga) []int64 {
	tones := slices.Concat(r.Up, r.Down)
	slices.Sort(tones)
	return slices.Compact(tones)
}

// isRaga is what the document calls a raga.
func isRaga(r impl.Raga) bool {
	tones := tonesAsWritten(r)
	if !impl.IsName(r.Name) || !impl.ValidScale(r.Up) || !impl.ValidScale(r.Down) || len(r.Forbidden) > 8 {
		return false
	}
	if !slices.Contains(tones, r.Strong) || !slices.Contains(tones, r.Weak) || r.Strong == r.Weak {
		return false
	}
	last := int64(-1)
	for _, pair := range r.Forbidden {
		if len(pair) != 2 || min(pair[0], pair[1]) < 0 || max(pair[0], pair[1]) > 11 || pair[0] == pair[1] || pair[0]*12+pair[1] <= last {
			return false
		}
		last = pair[0]*12 + pair[1]
	}
	return true
}

// with returns a copy of a raga that was changed.
func with(r impl.Raga, change func(*impl.Raga)) impl.Raga {
	r = cloneRaga(r)
	change(&r)
	return r
}

// wrongPairs are lists that no raga forbids.
func wrongPairs() [][][]int64 {
	nine := drawPairs(rand.New(rand.NewSource(9)), 9)
	all := [][][]int64{
		{nil}, {{}}, {{0}}, {{11}}, {{0, 2, 4}}, {{0, 2}, {}}, {{}, {0, 2}}, {{0, 2}, {2}}, {{0}, {0, 2}}, {{0, 2}, {0, 2, 4}}, {{0, 2}, {2, 4, 7}},
		{{0, 0}}, {{11, 11}}, {{5, 5}}, {{0, 2}, {4, 4}}, {{0, 2}, {2, 2}, {4, 2}}, {{-1, -1}}, {{12, 12}},
		{{0, 2}, {0, 2}}, {{2, 0}, {0, 2}}, {{0, 4}, {0, 2}}, {{0, 2}, {4, 2}, {2, 4}}, {{0, 11}, {1, 0}, {1, 0}}, {{11, 10}, {0, 1}}, {{2, 4}, {2, 4}, {4, 2}},
		nine, nine[:9:9], append(slices.Clone(nine), []int64{11, 10}), make([][]int64, 1), make([][]int64, 8), make([][]int64, 9), make([][]int64, 5000),
	}
	for _, n := range []int64{math.MinInt64, -13, -12, -1, 12, 13, 24, math.MaxInt64} {
		all = append(all, [][]int64{{n, 0}}, [][]int64{{0, n}}, [][]int64{{0, 1}, {n, 2}}, [][]int64{{0, 1}, {11, n}}, [][]int64{{n, n}})
	}
	return all
}

// invalidRagas are invalid for one reason each, or for several.
func invalidRagas() []impl.Raga {
	b, d := ragaOf(bhupaliText), ragaOf(deshText)
	all := []impl.Raga{{}, {Name: "x"}, {Up: b.Up, Down: b.Down, Strong: 4, Weak: 9}, {Name: "x", Up: b.Up, Strong: 4, Weak: 9}, {Name: "x", Down: b.Down, Strong: 4, Weak: 9}}
	for _, name := range []string{"", "Bhupali", "1a", "a b", " a", "a ", "abcdefghijk", "ä", "a\n", "-", "a-b", "\x00", strings.Repeat("a", 5000)} {
		all = append(all, with(b, func(r *impl.Raga) { r.Name = name }), with(d, func(r *impl.Raga) { r.Name = name }))
	}
	for _, s := range invalidScales {
		all = append(all, with(b, func(r *impl.Raga) { r.Up = s }), with(b, func(r *impl.Raga) { r.Down = s }))
		all = append(all, with(b, func(r *impl.Raga) { r.Up, r.Down = s, s }))
	}
	for _, n := range []int64{math.MinInt64, -12, -8, -3, -1, 1, 3, 5, 6, 8, 10, 11, 12, 14, 16, 21, 24, math.MaxInt64} {
		all = append(all, with(b, func(r *impl.Raga) { r.Strong = n }), with(b, func(r *impl.Raga) { r.Weak = n }))
		all = append(all, with(b, func(r *impl.Raga) { r.Strong, r.Weak = n, n }))
	}
	for _, tone := range tonesAsWritten(d) {
		all = append(all, with(d, func(r *impl.Raga) { r.Strong, r.Weak = tone, tone }))
	}
	for _, pairs := range wrongPairs() {
		all = append(all, with(b, func(r *impl.Raga) { r.Forbidden = pairs }), with(d, func(r *impl.Raga) { r.Forbidden = pairs }))
	}
	return all
}

// reasonAsWritten is the first reason of the document that applies to a move, 0 if there is none.
func reasonAsWritten(r impl.Raga, from, to int64) int64 {
	a, b := (from+12)%12, (to+12)%12
	tones := tonesAsWritten(r)
	isPair := slices.ContainsFunc(r.Forbidden, func(pair []int64) bool { return pair[0] == a && pair[1] == b })
	applies := []bool{
		!slices.Contains(tones, a) || !slices.Contains(tones, b),
		to-from > 12 || from-to > 12,
		to > from && !slices.Contains(r.Up, b),
		to < from && !slices.Contains(r.Down, b),
		isPair,
	}
	return int64(slices.Index(applies, true) + 1)
}

func TestRagaConstants(t *testing.T) {
	got := []int64{impl.WrTone, impl.WrLeap, impl.WrUp, impl.WrDown, impl.WrPair, impl.MaxLeap, impl.MaxForbidden}
	if want := []int64{1, 2, 3, 4, 5, 12, 8}; !slices.Equal(got, want) {
		t.Errorf("constants: got %v, want %v", got, want)
	}
}

func TestValidRaga(t *testing.T) {
	b, d := ragaOf(bhupaliText), ragaOf(deshText)
	for _, r := range slices.Concat(namedRagas(), drawnRagas(300)) {
		if !impl.ValidRaga(r) {
			t.Errorf("ValidRaga(%v) = false", r)
		}
	}
	for _, r := range invalidRagas() {
		if impl.ValidRaga(r) {
			t.Errorf("ValidRaga(%v) = true", r)
		}
	}
	valid := []impl.Raga{
		// 11 and 10 are tones of one scale only, and so are 4 and 9.
		with(d, func(r *impl.Raga) { r.Strong, r.Weak = 11, 10 }), with(d, func(r *impl.Raga) { r.Strong, r.Weak = 10, 11 }),
		with(d, func(r *impl.Raga) { r.Strong, r.Weak = 4, 9 }), with(b, func(r *impl.Raga) { r.Strong, r.Weak = 0, 2 }),
		with(b, func(r *impl.Raga) { r.Forbidden = nil }), with(b, func(r *impl.Raga) { r.Forbidden = [][]int64{} }),
		with(b, func(r *impl.Raga) { r.Forbidden = [][]int64{{0, 11}, {11, 0}} }), with(b, func(r *impl.Raga) { r.Forbidden = [][]int64{{10, 11}, {11, 10}} }),
		with(b, func(r *impl.Raga) {
			r.Forbidden = [][]int64{{0, 1}, {0, 2}, {0, 3}, {0, 4}, {1, 0}, {1, 2}, {2, 0}, {2, 1}}
		}),
	}
	for _, r := range valid {
		if !impl.ValidRaga(r) {
			t.Errorf("ValidRaga(%v) = false", r)
		}
	}
}

// TestValidRagaAsWritten draws parts that are mostly, but not always, those of a raga.
func TestValidRagaAsWritten(t *testing.T) {
	draw := rand.New(rand.NewSource(55))
	number := func() int64 { return int64(draw.Intn(15)) - 1 }
	count := map[bool]int{}
	for _, r := range drawnRagas(6000) {
		switch draw.Intn(6) {
		case 0:
			r.Strong = number()
		case 1:
			r.Weak = number()
		case 2:
			r.Up[draw.Intn(len(r.Up))] = number()
		case 3:
			r.Down[draw.Intn(len(r.Down))] = number()
		case 4:
			if k := len(r.Forbidden); k > 0 {
				r.Forbidden[draw.Intn(k)][draw.Intn(2)] = number()
			}
		case 5:
			r.Forbidden = append(r.Forbidden, []int64{number(), number()})
		}
		want := isRaga(r)
		count[want]++
		if got := impl.ValidRaga(r); got != want {
			t.Errorf("ValidRaga(%v) = %v", r, got)
		}
	}
	if count[true] < 500 || count[false] < 500 {
		t.Errorf("ragas and others: %v", count)
	}
}

func TestSameRaga(t *testing.T) {
	changes := []func(*impl.Raga){
		func(r *impl.Raga) { r.Name = "other" },
		func(r *impl.Raga) { r.Name += "x" },
		func(r *impl.Raga) { r.Strong++ },
		func(r *impl.Raga) { r.Weak-- },
		func(r *impl.Raga) { r.Strong, r.Weak = r.Weak+1, r.Strong },
		func(r *impl.Raga) { r.Up = append(r.Up, 11) },
		func(r *impl.Raga) { r.Down = append(r.Down, 11) },
		func(r *impl.Raga) { r.Up = append(slices.Clone(r.Up), r.Down...); r.Down = nil; r.Name += "y" },
		func(r *impl.Raga) { r.Forbidden = append(r.Forbidden, []int64{11, 0}) },
		func(r *impl.Raga) { r.Forbidden = append(r.Forbidden, nil) },
		func(r *impl.Raga) { r.Forbidden = append(r.Forbidden, []int64{}) },
	}
	all := slices.Concat(namedRagas(), drawnRagas(20), invalidRagas())
	for _, r := range all {
		if !impl.SameRaga(r, r) || !impl.SameRaga(r, cloneRaga(r)) || !impl.SameRaga(cloneRaga(r), r) {
			t.Errorf("SameRaga(%v and itself) = false", r)
		}
		for k, change := range changes {
			other := with(r, change)
			if impl.SameRaga(r, other) || impl.SameRaga(other, r) {
				t.Errorf("change %d of %v: the same", k, r)
			}
		}
		for part := range 3 {
			lists := [][]int64{r.Up, r.Down, slices.Concat(r.Forbidden...)}
			for k := range lists[part] {
				other := cloneRaga(r)
				switch at := k; part {
				case 0:
					other.Up[at]++
				case 1:
					other.Down[at]++
				case 2:
					pair := 0
					for at >= len(other.Forbidden[pair]) {
						at -= len(other.Forbidden[pair])
						pair++
					}
					other.Forbidden[pair][at]++
				}
				if impl.SameRaga(r, other) || impl.SameRaga(other, r) {
					t.Fatalf("another number, but the same: %v", r)
				}
			}
		}
	}
	for k, a := range namedRagas() {
		for h, b := range namedRagas() {
			if got := impl.SameRaga(a, b); got != (k == h) {
				t.Errorf("SameRaga(%v, %v) = %v", a, b, got)
			}
		}
	}
}

func TestSameRagaTakesNilAsEmpty(t *testing.T) {
	empty := impl.Raga{Up: []int64{}, Down: []int64{}, Forbidden: [][]int64{}}
	if !impl.SameRaga(impl.Raga{}, empty) || !impl.SameRaga(empty, impl.Raga{}) {
		t.Error("nil and empty lists: not the same")
	}
	a, b := impl.Raga{Forbidden: [][]int64{nil, {1}}}, impl.Raga{Forbidden: [][]int64{{}, {1}}}
	if !impl.SameRaga(a, b) || !impl.SameRaga(b, a) {
		t.Error("nil and empty pairs: not the same")
	}
	if impl.SameRaga(impl.Raga{Forbidden: [][]int64{{1, 2}}}, impl.Raga{Forbidden: [][]int64{{1}, {2}}}) {
		t.Error("a pair and two single tones: the same")
	}
}

func TestTonesOfAndKindOf(t *testing.T) {
	want := map[string]string{
		bhupaliText: "SRGPD", deshText: "SRGmPDnN", yamanText: "SRGMPDN", "x SrRgG SMPdD SP": "SrRgGMPdD",
		"x SrRgGmMPdDnN SRGPD rn": toneLetters, "x SRGPD SrRgGmMPdDnN nr": toneLetters, "x SrRgGm SMPdDnN SP": toneLetters,
	}
	for text, letters := range want {
		tones, code := impl.TonesOf(ragaOf(text))
		if !slices.Equal(tones, scale(letters)) || code != impl.OK {
			t.Errorf("TonesOf(%s) = %v, %d", text, tones, code)
		}
	}
	for _, r := range slices.Concat(namedRagas(), drawnRagas(300)) {
		tones, code := impl.TonesOf(r)
		if !slices.Equal(tones, tonesAsWritten(r)) || code != impl.OK {
			t.Errorf("TonesOf(%v) = %v, %d", r, tones, code)
		}
		up, down, code := impl.KindOf(r)
		if up != int64(len(r.Up)) || down != int64(len(r.Down)) || code != impl.OK {
			t.Errorf("KindOf(%v) = %d, %d, %d", r, up, down, code)
		}
	}
}

func TestReasonOf(t *testing.T) {
	type moves map[[2]int64]int64
	want := map[string]moves{
		bhupaliText: {
			{4, 5}: impl.WrTone, {5, 4}: impl.WrTone, {5, 5}: impl.WrTone, {-11, 23}: impl.WrTone, {-7, 5}: impl.WrTone, {4, 4}: 0, {0, 12}: 0, {12, 0}: 0,
			{-12, 0}: 0, {-12, 2}: impl.WrLeap, {2, -12}: impl.WrLeap, {-12, 21}: impl.WrLeap, {9, 21}: 0, {7, 21}: impl.WrLeap, {21, 21}: 0, {-12, -12}: 0,
		},
		deshText: {
			{2, 4}: impl.WrUp, {2, 16}: impl.WrLeap, {4, 2}: impl.WrPair, {16, 2}: impl.WrLeap, {16, 14}: impl.WrPair, {-8, -10}: impl.WrPair, {4, 14}: impl.WrPair,
			{0, -1}: impl.WrDown, {0, -2}: 0, {0, 11}: 0, {0, 10}: impl.WrUp, {11, 10}: 0, {10, 11}: 0, {12, 11}: impl.WrDown, {12, 10}: 0, {11, 11}: 0, {10, 10}: 0,
			{23, 22}: 0, {0, 13}: impl.WrTone, {0, 14}: impl.WrLeap, {2, 7}: 0, {-8, 4}: impl.WrUp, {4, -8}: 0, {-1, 11}: 0, {11, -1}: impl.WrDown, {2, 5}: 0, {4, 5}: 0, {2, 0}: 0,
		},
		// The pair holds up and down, and in this order only.
		"x SRGPD SRGPD GD RG": {{2, 4}: impl.WrPair, {14, 4}: impl.WrPair, {2, 16}: impl.WrLeap, {2, -8}: impl.WrPair, {4, 2}: 0, {2, 2}: 0, {2, 14}: 0},
		// A tone that is none of the raga comes before a pair, and so do leaps and tones that the way does not have.
		"x SRGPD SRGPD GD Rm mR":      {{2, 5}: impl.WrTone, {5, 2}: impl.WrTone},
		"x SRGPD SRmPD GD RG Rm mG":   {{2, 5}: impl.WrUp, {4, 2}: 0, {2, 4}: impl.WrPair, {5, 4}: impl.WrDown, {14, 5}: impl.WrPair, {5, 16}: impl.WrPair, {-10, 4}: impl.WrLeap},
		"x SrRgG SMPdD SP SM rM MS":   {{0, 6}: impl.WrUp, {6, 0}: 5, {6, 1}: impl.WrDown, {0, 1}: 0, {1, 0}: 0, {1, 13}: 0, {13, 1}: impl.WrDown, {12, 6}: 5, {13, 6}: 5, {0, 12}: 0},
		"x SrRgGmMPdDnN SRGPD SR SN":  {{0, 11}: impl.WrPair, {0, -1}: impl.WrDown, {12, 23}: impl.WrPair, {-12, -1}: impl.WrPair, {-12, 11}: impl.WrLeap, {11, 0}: 0},
		"x SRGPD SrRgGmMPdDnN SR nN":  {{10, 11}: impl.WrUp, {22, 11}: impl.WrPair, {10, -1}: impl.WrPair, {11, 10}: 0},
		"x SRGPDN SRGPDN SR SP PS NS": {{11, 12}: 5, {11, 0}: 5, {-1, 0}: 5, {0, 7}: 5, {7, 0}: 5, {0, 19}: 2, {7, 12}: 5, {0, -5}: 5, {0, 12}: 0, {7, 19}: 0, {23, 12}: 5},
	}
	for text, moves := range want {
		for move, reason := range moves {
			code := int64(impl.OK)
			if reason == 0 {
				code = impl.ErrNotFound
			}
			r := ragaOf(text)
			if got, c := impl.ReasonOf(r, move[0], move[1]); got != reason || c != code {
				t.Errorf("ReasonOf(%s, %v) = %d, %d, want %d", text, move, got, c, reason)
			}
			if got := impl.IsAllowed(r, move[0], move[1]); got != (reason == 0) {
				t.Errorf("IsAllowed(%s, %v) = %v", text, move, got)
			}
		}
	}
}

// TestMovesAsWritten tries all moves of many ragas.
func TestMovesAsWritten(t *testing.T) {
	count := map[int64]int{}
	for _, r := range slices.Concat(namedRagas(), drawnRagas(60)) {
		for from := int64(-12); from <= 23; from++ {
			for to := int64(-12); to <= 23; to++ {
				want := reasonAsWritten(r, from, to)
				count[want]++
				wantCode := int64(impl.OK)
				if want == 0 {
					wantCode = impl.ErrNotFound
				}
				if got, code := impl.ReasonOf(r, from, to); got != want || code != wantCode {
					t.Fatalf("ReasonOf(%v, %d, %d) = %d, %d, want %d", r, from, to, got, code, want)
				}
				if got := impl.IsAllowed(r, from, to); got != (want == 0) {
					t.Fatalf("IsAllowed(%v, %d, %d) = %v", r, from, to, got)
				}
			}
		}
	}
	for reason := range int64(6) {
		if count[reason] < 100 {
			t.Errorf("reason %d: only %d moves", reason, count[reason])
		}
	}
}

func TestMovesOfNoPitch(t *testing.T) {
	for _, r := range namedRagas() {
		for _, n := range numbersAround {
			next, code := impl.NextPitches(r, n)
			if n >= -12 && n <= 23 {
				if code != impl.OK {
					t.Errorf("NextPitches(%v, %d) has code %d", r, n, code)
				}
				continue
			}
			if len(next) != 0 || code != impl.ErrRange {
				t.Errorf("NextPitches(%v, %d) = %v, %d", r, n, next, code)
			}
			for _, other := range append([]int64{0, -12, 23}, numbersAround...) {
				for _, move := range [][2]int64{{n, other}, {other, n}} {
					if reason, code := impl.ReasonOf(r, move[0], move[1]); reason != 0 || code != impl.ErrRange {
						t.Errorf("ReasonOf(%v, %v) = %d, %d", r, move, reason, code)
					}
					if impl.IsAllowed(r, move[0], move[1]) {
						t.Errorf("IsAllowed(%v, %v) = true", r, move)
					}
				}
			}
		}
	}
}

func TestNextPitches(t *testing.T) {
	type ways map[int64][]int64
	want := map[string]ways{
		bhupaliText: {
			0: {-12, -10, -8, -5, -3, 0, 2, 4, 7, 9, 12}, -12: {-12, -10, -8, -5, -3, 0}, 21: {9, 12, 14, 16, 19, 21}, 5: {}, -11: {}, 23: {}, 22: {},
			12: {0, 2, 4, 7, 9, 12, 14, 16, 19, 21},
		},
		deshText: {
			0: {-12, -10, -8, -7, -5, -3, -2, 0, 2, 5, 7, 11, 12}, 4: {-8, -7, -5, -3, -2, 0, 4, 5, 7, 11, 12}, 23: {12, 14, 16, 17, 19, 21, 22, 23},
			-12: {-12, -10, -7, -5, -1, 0}, 1: {}, 6: {}, 10: {-2, 0, 2, 4, 5, 7, 9, 10, 11, 12, 14, 17, 19},
		},
	}
	for text, ways := range want {
		for from, list := range ways {
			if got, code := impl.NextPitches(ragaOf(text), from); !slices.Equal(got, list) || code != impl.OK {
				t.Errorf("NextPitches(%s, %d) = %v, %d", text, from, got, code)
			}
		}
	}
}

// TestNextPitchesAreThoseThatAreAllowed is the first half of promise 6.
func TestNextPitchesAreThoseThatAreAllowed(t *testing.T) {
	for _, r := range slices.Concat(namedRagas(), drawnRagas(60)) {
		for from := int64(-12); from <= 23; from++ {
			var allowed, right []int64
			for to := int64(-40); to <= 50; to++ {
				if impl.IsAllowed(r, from, to) {
					allowed = append(allowed, to)
				}
				if to >= -12 && to <= 23 && reasonAsWritten(r, from, to) == 0 {
					right = append(right, to)
				}
			}
			got, code := impl.NextPitches(r, from)
			if !slices.Equal(got, allowed) || !slices.Equal(got, right) || code != impl.OK {
				t.Fatalf("NextPitches(%v, %d) = %v, %d", r, from, got, code)
			}
		}
	}
}

func TestFirstWrong(t *testing.T) {
	long := slices.Repeat([]int64{0, 2, 4, 7}, 16)
	cases := []struct {
		text             string
		pitches          []int64
		at, reason, code int64
	}{
		{deshText, nil, 0, 0, impl.ErrNotFound},
		{deshText, []int64{}, 0, 0, impl.ErrNotFound},
		{deshText, []int64{4}, 0, 0, impl.ErrNotFound},
		{deshText, []int64{10}, 0, 0, impl.ErrNotFound},
		{deshText, []int64{11}, 0, 0, impl.ErrNotFound},
		{deshText, []int64{1}, 0, impl.WrTone, impl.OK},
		{deshText, []int64{-11}, 0, impl.WrTone, impl.OK},
		{deshText, []int64{1, 2, 4}, 0, impl.WrTone, impl.OK},
		{deshText, []int64{0, 1, 2}, 1, impl.WrTone, impl.OK},
		{deshText, []int64{0, 2, 5, 7, 4}, 0, 0, impl.ErrNotFound},
		{deshText, []int64{0, 2, 4}, 2, impl.WrUp, impl.OK},
		{deshText, []int64{0, 2, 4, 2, 1}, 2, impl.WrUp, impl.OK},
		{deshText, []int64{7, 4, 2}, 2, impl.WrPair, impl.OK},
		{deshText, []int64{12, 11, 10}, 1, impl.WrDown, impl.OK},
		{deshText, []int64{-12, 0, 12, -12}, 3, impl.WrLeap, impl.OK},
		{bhupaliText, long, 0, 0, impl.ErrNotFound},
		{bhupaliText, append(slices.Clone(long[:63]), 5), 63, impl.WrTone, impl.OK},
		{bhupaliText, append(slices.Clone(long[:63]), 21), 63, impl.WrLeap, impl.OK},
		{bhupaliText, append(slices.Clone(long), 0), 0, 0, impl.ErrOrder},
		{bhupaliText, append([]int64{1}, long...), 0, 0, impl.ErrOrder},
		{bhupaliText, []int64{24}, 0, 0, impl.ErrOrder},
		{bhupaliText, []int64{-13}, 0, 0, impl.ErrOrder},
		{bhupaliText, []int64{1, 24}, 0, 0, impl.ErrOrder},
		{bhupaliText, []int64{0, 21, 2, -13}, 0, 0, impl.ErrOrder},
		{bhupaliText, []int64{0, math.MaxInt64}, 0, 0, impl.ErrOrder},
		{bhupaliText, []int64{math.MinInt64, 0}, 0, 0, impl.ErrOrder},
		{bhupaliText, make([]int64, 5000), 0, 0, impl.ErrOrder},
	}
	for _, c := range cases {
		at, reason, code := impl.FirstWrong(ragaOf(c.text), c.pitches)
		if at != c.at || reason != c.reason || code != c.code {
			t.Errorf("FirstWrong(%s, %v) = %d, %d, %d, want %d, %d, %d", c.text, c.pitches, at, reason, code, c.at, c.reason, c.code)
		}
	}
}

// walk draws pitches to which moves are allowed, by the functions of the program.
func walk(draw *rand.Rand, r impl.Raga, length int) []int64 {
	tones := tonesAsWritten(r)
	pitches := []int64{tones[draw.Intn(len(tones))]}
	for len(pitches) < length {
		next, _ := impl.NextPitches(r, pitches[len(pitches)-1])
		pitches = append(pitches, next[draw.Intn(len(next))])
	}
	return pitches
}

// TestFirstWrongIsTheFirstNotAllowed is the second half of promise 6: walks, and walks into which other pitches were put.
func TestFirstWrongIsTheFirstNotAllowed(t *testing.T) {
	draw := rand.New(rand.NewSource(6))
	count := map[int64]int{}
	for _, r := range slices.Concat(namedRagas(), drawnRagas(200)) {
		for range 12 {
			pitches := walk(draw, r, 1+draw.Intn(impl.MaxList))
			if at, reason, code := impl.FirstWrong(r, pitches); at != 0 || reason != 0 || code != impl.ErrNotFound {
				t.Fatalf("FirstWrong(%v, %v) = %d, %d, %d", r, pitches, at, reason, code)
			}
			for range draw.Intn(3) {
				pitches[draw.Intn(len(pitches))] = int64(draw.Intn(36) - 12)
			}
			count[checkFirstWrong(t, r, pitches)]++
		}
	}
	for code := range int64(6) {
		if count[code] < 20 {
			t.Errorf("reason %d: only %d lists", code, count[code])
		}
	}
}

// checkFirstWrong tries all pitches of a list, one after the other, and returns the reason.
func checkFirstWrong(t *testing.T, r impl.Raga, pitches []int64) int64 {
	t.Helper()
	wantAt, want, wantCode := int64(0), int64(0), int64(impl.ErrNotFound)
	for k := len(pitches) - 1; k >= 0; k-- {
		reason := int64(0)
		if k > 0 {
			reason = reasonAsWritten(r, pitches[k-1], pitches[k])
			next, _ := impl.NextPitches(r, pitches[k-1])
			if slices.Contains(next, pitches[k]) != (reason == 0) {
				t.Errorf("NextPitches(%v, %d) = %v", r, pitches[k-1], next)
			}
		} else if !slices.Contains(tonesAsWritten(r), (pitches[0]+12)%12) {
			reason = impl.WrTone
		}
		if reason != 0 {
			wantAt, want, wantCode = int64(k), reason, impl.OK
		}
	}
	at, reason, code := impl.FirstWrong(r, pitches)
	if at != wantAt || reason != want || code != wantCode {
		t.Errorf("FirstWrong(%v, %v) = %d, %d, %d, want %d, %d", r, pitches, at, reason, code, wantAt, want)
	}
	return want
}

func TestStrengthOf(t *testing.T) {
	cases := []struct {
		text               string
		pitches            []int64
		strong, weak, code int64
	}{
		{deshText, []int64{0, 2, 5, 7, 14}, 2, 1, impl.OK},
		{deshText, nil, 0, 0, impl.OK},
		{deshText, []int64{}, 0, 0, impl.OK},
		{deshText, []int64{1, 3, 6}, 0, 0, impl.OK},
		{deshText, []int64{-10, 2, 14, -5, 7, 19, 7, 1}, 3, 4, impl.OK},
		{deshText, slices.Repeat([]int64{2}, 64), 64, 0, impl.OK},
		{deshText, slices.Repeat([]int64{7}, 64), 0, 64, impl.OK},
		{deshText, slices.Repeat([]int64{7}, 65), 0, 0, impl.ErrOrder},
		{deshText, []int64{2, 7, 24}, 0, 0, impl.ErrOrder},
		{deshText, []int64{-13}, 0, 0, impl.ErrOrder},
		{"x SRGPD SRGPDN SN", []int64{0, -12, 12, 11, 23}, 3, 2, impl.OK},
		{"x SRGPD SRGPDN NS", []int64{0, -12, 12, 11, -1, 23, 4}, 3, 3, impl.OK},
	}
	for _, c := range cases {
		strong, weak, code := impl.StrengthOf(ragaOf(c.text), c.pitches)
		if strong != c.strong || weak != c.weak || code != c.code {
			t.Errorf("StrengthOf(%s, %v) = %d, %d, %d", c.text, c.pitches, strong, weak, code)
		}
	}
	draw := rand.New(rand.NewSource(7))
	for _, r := range slices.Concat(namedRagas(), drawnRagas(100)) {
		var pitches []int64
		strong, weak := int64(0), int64(0)
		for range draw.Intn(impl.MaxList + 1) {
			pitch := int64(draw.Intn(36) - 12)
			pitches = append(pitches, pitch)
			switch (pitch + 12) % 12 {
			case r.Strong:
				strong++
			case r.Weak:
				weak++
			}
		}
		if a, b, code := impl.StrengthOf(r, pitches); a != strong || b != weak || code != impl.OK {
			t.Errorf("StrengthOf(%v, %v) = %d, %d, %d", r, pitches, a, b, code)
		}
	}
}

// TestListsOfNoPitches holds each number at each place of a list against the limits of pitches.
func TestListsOfNoPitches(t *testing.T) {
	r := ragaOf(deshText)
	for _, n := range numbersAround {
		for length := 1; length <= 66; length += 13 {
			for _, at := range []int{0, length / 2, length - 1} {
				pitches := make([]int64, length)
				pitches[at] = n
				isList := n >= -12 && n <= 23 && length <= 64
				a, b, code := impl.StrengthOf(r, pitches)
				if (code == impl.OK) != isList || !isList && (a != 0 || b != 0 || code != impl.ErrOrder) {
					t.Errorf("StrengthOf(%v) = %d, %d, %d", pitches, a, b, code)
				}
				a, b, code = impl.FirstWrong(r, pitches)
				if (code == impl.OK || code == impl.ErrNotFound) != isList || !isList && (a != 0 || b != 0 || code != impl.ErrOrder) {
					t.Errorf("FirstWrong(%v) = %d, %d, %d", pitches, a, b, code)
				}
			}
		}
	}
}

func TestSharedMoves(t *testing.T) {
	b, y := ragaOf(bhupaliText), ragaOf(yamanText)
	cases := []struct {
		a, b         impl.Raga
		both, either int64
	}{
		{b, b, 135, 135}, {b, y, 130, 259}, {y, b, 130, 259},
		// 36 pitches, with 12 more above and below each, as far as they are pitches.
		{ragaOf("x SrRgGmMPdDnN SrRgGmMPdDnN SR"), ragaOf("y SrRgGmMPdDnN SrRgGmMPdDnN SP"), 744, 744},
		{ragaOf("x SrRgGmMPdDnN SrRgGmMPdDnN SR"), b, 135, 744},
	}
	for _, c := range cases {
		if both, either, code := impl.SharedMoves(c.a, c.b); both != c.both || either != c.either || code != impl.OK {
			t.Errorf("SharedMoves(%v, %v) = %d, %d, %d, want %d, %d", c.a, c.b, both, either, code, c.both, c.either)
		}
	}
}

func TestSharedMovesAsWritten(t *testing.T) {
	all := slices.Concat(namedRagas(), drawnRagas(20))
	allowed := map[int]map[[2]int64]bool{}
	for k, r := range all {
		allowed[k] = map[[2]int64]bool{}
		for from := int64(-12); from <= 23; from++ {
			for to := int64(-12); to <= 23; to++ {
				if reasonAsWritten(r, from, to) == 0 {
					allowed[k][[2]int64{from, to}] = true
				}
			}
		}
	}
	for k, a := range all {
		for h, b := range all {
			shared := int64(0)
			for move := range allowed[k] {
				if allowed[h][move] {
					shared++
				}
			}
			joined := int64(len(allowed[k])+len(allowed[h])) - shared
			if both, either, code := impl.SharedMoves(a, b); both != shared || either != joined || code != impl.OK {
				t.Errorf("SharedMoves(%v, %v) = %d, %d, %d", a, b, both, either, code)
			}
		}
	}
}

func TestRagaText(t *testing.T) {
	for _, text := range []string{bhupaliText, deshText, yamanText, "z123456789 SrRgGmMPdDnN SrRgGmMPdDnN nN Sr rS gG Gg NS Nr Nd Nn"} {
		if got := impl.RagaText(ragaOf(text)); got != text {
			t.Errorf("RagaText(%q) = %q", text, got)
		}
		if got, ok := impl.ReadRaga(text); !ok || !reflect.DeepEqual(got, ragaOf(text)) {
			t.Errorf("ReadRaga(%q) = %v, %v", text, got, ok)
		}
	}
	for _, r := range slices.Concat(namedRagas(), drawnRagas(400)) {
		text := impl.RagaText(r)
		if want := textAsWritten(r); text != want {
			t.Errorf("RagaText(%v) = %q, want %q", r, text, want)
		}
		if got, ok := impl.ReadRaga(text); !ok || !impl.SameRaga(got, r) || !reflect.DeepEqual(got, r) {
			t.Errorf("ReadRaga(%q) = %v, %v", text, got, ok)
		}
	}
	for _, r := range invalidRagas() {
		if got := impl.RagaText(r); got != "" {
			t.Errorf("RagaText(%v) = %q", r, got)
		}
	}
}

func TestReadRagaRefuses(t *testing.T) {
	nine := bhupaliText + " Sr SR Sg SG Sm SM SP Sd SD"
	bad := []string{
		"a", "a SRGPD", "a SRGPD SRGPD", "a SRGPD SRGPD ", "a SRGPD SRGPD S", "a SRGPD SRGPD SRG", "a SRGPD SRGPD SS", "a SRGPD SRGPD Sr", "a SRGPD SRGPD rS",
		"a SRGPD SRGPD S R", "a SRGPD SRGPD sr", "a SRGPD SRGPD 02", "a SRGPD SRGPD SR RR", "a SRGPD SRGPD SR R", "a SRGPD SRGPD SR RGP", "a SRGPD SRGPD SR RGGR",
		"a SRGPD SRGPD SR RG RG", "a SRGPD SRGPD SR GR RG", "a SRGPD SRGPD SR RX", "a SRGPD SRGPD SR Xr", "a SRGPD SRGPD SR RG,GR", "a SRGPD SRGPD SR -",
		"A SRGPD SRGPD SR", "1a SRGPD SRGPD SR", "abcdefghijk SRGPD SRGPD SR", "a SRGP SRGPD SR", "a SRGPD SRGP SR", "a RGPDN SRGPD SR", "a SGRPD SRGPD SR",
		"a SRGPDD SRGPD SR", "a SRGPD SRGPDS SR", "a - SRGPD SR", "a SRGPD - SR", "a SRGPDx SRGPD SR", " SRGPD SRGPD SR", "SRGPD SRGPD SR",
		" " + bhupaliText, bhupaliText + " ", bhupaliText + "\n", "\t" + bhupaliText, strings.Replace(bhupaliText, " ", "  ", 1), strings.Replace(bhupaliText, " ", "\t", 1),
		strings.Replace(bhupaliText, " ", "\n", 2), strings.Replace(bhupaliText, " ", "\u00a0", 1), strings.Replace(deshText, " GR", "  GR", 1),
		strings.Replace(deshText, " GR", "\tGR", 1), deshText + "  ", deshText + " \xff\xff", deshText + " é", strings.ToLower(deshText), strings.ToUpper(deshText),
		nine, nine + " Sn", bhupaliText + strings.Repeat(" SR", 20000), bhupaliText + strings.Repeat("D", 20000), bhupaliText + strings.Repeat(" ", 20000),
		strings.Repeat("a ", 20000), "a " + strings.Repeat("S", 20000) + " SRGPD SR", bhupaliText + " " + bhupaliText, "a SRGPD,SRGPD,SR",
	}
	for _, text := range append(bad, oddTexts...) {
		if r, ok := impl.ReadRaga(text); ok || !reflect.DeepEqual(r, impl.Raga{}) {
			t.Errorf("ReadRaga(%q) = %v, %v", text, r, ok)
		}
	}
	if eight := strings.TrimSuffix(nine, " SD"); impl.RagaText(ragaOf(eight)) != eight {
		t.Errorf("RagaText(%q) = %q", eight, impl.RagaText(ragaOf(eight)))
	}
}

// hasRaga tells without the program whether a raga has a text: only letters of tones stand where tones are named.
func hasRaga(text string) bool {
	words := strings.Split(text, " ")
	if len(words) < 4 || len(words[3]) != 2 {
		return false
	}
	for _, word := range words[1:] {
		if strings.Trim(word, toneLetters) != "" {
			return false
		}
	}
	return isRaga(ragaOf(text))
}

// TestReadRagaTakesTextsOfRagasOnly changes, inserts and removes each byte of texts.
func TestReadRagaTakesTextsOfRagasOnly(t *testing.T) {
	count := map[bool]int{}
	check := func(text string) {
		want, has := impl.Raga{}, hasRaga(text)
		if has {
			want = ragaOf(text)
		}
		count[has]++
		if r, ok := impl.ReadRaga(text); ok != has || !reflect.DeepEqual(r, want) {
			t.Errorf("ReadRaga(%q) = %v, %v", text, r, ok)
		}
	}
	for _, r := range slices.Concat(namedRagas(), drawnRagas(20)) {
		text := textAsWritten(r)
		for _, edited := range editsOf(text, strings.Split(" SrGMPNad0-\t\xff", "")...) {
			check(edited)
		}
	}
	if count[true] < 500 || count[false] < 500 {
		t.Errorf("texts of ragas and others: %v", count)
	}
}

// TestInvalidRagas holds that ErrInvalid comes before all other errors.
func TestInvalidRagas(t *testing.T) {
	b := ragaOf(bhupaliText)
	for _, bad := range invalidRagas() {
		tones, code := impl.TonesOf(bad)
		up, down, kind := impl.KindOf(bad)
		if len(tones) != 0 || code != impl.ErrInvalid || up != 0 || down != 0 || kind != impl.ErrInvalid {
			t.Errorf("TonesOf and KindOf of %v: %v, %d, %d, %d, %d", bad, tones, code, up, down, kind)
		}
		for _, pair := range [][2]impl.Raga{{bad, b}, {b, bad}, {bad, bad}} {
			if both, either, code := impl.SharedMoves(pair[0], pair[1]); both != 0 || either != 0 || code != impl.ErrInvalid {
				t.Errorf("SharedMoves(%v) = %d, %d, %d", pair, both, either, code)
			}
		}
		for _, n := range []int64{math.MinInt64, -13, -12, 0, 4, 23, 24, math.MaxInt64} {
			reason, code := impl.ReasonOf(bad, n, 0)
			next, nextCode := impl.NextPitches(bad, n)
			if reason != 0 || code != impl.ErrInvalid || len(next) != 0 || nextCode != impl.ErrInvalid || impl.IsAllowed(bad, n, n) || impl.IsAllowed(bad, 0, n) {
				t.Errorf("moves of %v and %d: %d, %d, %v, %d", bad, n, reason, code, next, nextCode)
			}
			for _, length := range []int{0, 1, 64, 65} {
				pitches := slices.Repeat([]int64{n}, length)
				at, reason, code := impl.FirstWrong(bad, pitches)
				strong, weak, other := impl.StrengthOf(bad, pitches)
				if at != 0 || reason != 0 || code != impl.ErrInvalid || strong != 0 || weak != 0 || other != impl.ErrInvalid {
					t.Errorf("pitches %v of %v: %d, %d, %d, %d, %d, %d", pitches, bad, at, reason, code, strong, weak, other)
				}
			}
		}
	}
}

// answersOfRagas returns what chapter 5 answers to many arguments.
func answersOfRagas() []any {
	var all []any
	keep := func(answers ...any) { all = append(all, answers...) }
	b := ragaOf(bhupaliText)
	for _, r := range slices.Concat(namedRagas(), drawnRagas(10), invalidRagas()) {
		tones, one := impl.TonesOf(r)
		up, down, two := impl.KindOf(r)
		both, either, three := impl.SharedMoves(r, b)
		keep(tones, one, up, down, two, both, either, three, impl.ValidRaga(r), impl.SameRaga(r, b), impl.RagaText(r))
		for _, n := range numbersAround {
			next, one := impl.NextPitches(r, n)
			reason, two := impl.ReasonOf(r, 4, n)
			at, why, three := impl.FirstWrong(r, []int64{0, n, 4})
			strong, weak, four := impl.StrengthOf(r, []int64{n, 0, 4, n})
			keep(next, one, reason, two, at, why, three, strong, weak, four, impl.IsAllowed(r, n, 4))
		}
	}
	for _, text := range append([]string{bhupaliText, deshText, "desh", "x S S SR"}, oddTexts...) {
		r, ok := impl.ReadRaga(text)
		keep(r, ok)
	}
	return all
}

func TestRagasReturnEqualResults(t *testing.T) {
	if !reflect.DeepEqual(answersOfRagas(), answersOfRagas()) {
		t.Error("equal arguments, other results")
	}
}

// useRaga calls all functions of chapter 5 that take a raga and returns the raga that is read and the lists that are returned.
func useRaga(r impl.Raga, pitches []int64) (impl.Raga, [][]int64) {
	impl.ValidRaga(r)
	impl.SameRaga(r, r)
	impl.KindOf(r)
	impl.IsAllowed(r, 0, 2)
	impl.ReasonOf(r, 0, 2)
	impl.FirstWrong(r, pitches)
	impl.StrengthOf(r, pitches)
	impl.SharedMoves(r, r)
	read, _ := impl.ReadRaga(impl.RagaText(r))
	tones, _ := impl.TonesOf(r)
	low, _ := impl.NextPitches(r, 0)
	high, _ := impl.NextPitches(r, 12)
	return read, [][]int64{tones, low, high}
}

// spare returns a list with the same numbers and others behind them in its capacity, and all of its memory.
func spare(list []int64) ([]int64, []int64) {
	whole := append(slices.Clone(list), 91, 92, 93)
	return whole[:len(list)], whole
}

func TestRagasModifyNoArgument(t *testing.T) {
	for _, r := range slices.Concat(namedRagas(), invalidRagas()) {
		var wholes [][]int64
		room := func(list []int64) []int64 {
			list, whole := spare(list)
			wholes = append(wholes, whole)
			return list
		}
		own := impl.Raga{Name: r.Name, Up: room(r.Up), Down: room(r.Down), Strong: r.Strong, Weak: r.Weak}
		for _, pair := range r.Forbidden {
			own.Forbidden = append(own.Forbidden, room(pair))
		}
		pairs := append(own.Forbidden, room([]int64{81, 82}))
		own.Forbidden = pairs[:len(r.Forbidden)]
		pitches := room([]int64{0, 4, 2, 1, 9})
		before, pairsBefore := cloneRaga(impl.Raga{Forbidden: wholes}).Forbidden, cloneRaga(impl.Raga{Forbidden: pairs}).Forbidden
		useRaga(own, pitches)
		if !reflect.DeepEqual(wholes, before) || !reflect.DeepEqual(pairs, pairsBefore) {
			t.Errorf("the memory of %v was changed: %v", r, wholes)
		}
	}
}

// spoil overwrites the memory of lists.
func spoil(lists ...[]int64) {
	for _, list := range lists {
		for k := range list[:cap(list)] {
			list[:cap(list)][k] = 99
		}
	}
}

func TestRagasReturnNewMemory(t *testing.T) {
	pitches := []int64{0, 2, 4}
	for _, r := range namedRagas() {
		before := cloneRaga(r)
		wanted, listsWanted := useRaga(r, pitches)
		first, lists := useRaga(r, pitches)
		second, listsSecond := useRaga(r, pitches)
		spoil(lists...)
		spoil(first.Forbidden...)
		spoil(first.Up, first.Down)
		for k := range first.Forbidden {
			first.Forbidden[k] = nil
		}
		third, listsThird := useRaga(r, pitches)
		same := reflect.DeepEqual(second, wanted) && reflect.DeepEqual(listsSecond, listsWanted)
		again := reflect.DeepEqual(third, wanted) && reflect.DeepEqual(listsThird, listsWanted)
		if !same || !again || !reflect.DeepEqual(r, before) {
			t.Errorf("results for %v share memory", before)
		}
	}
}

// TestReadRagaSharesNoMemory spoils one list of a raga that is read, and holds that the others stay.
func TestReadRagaSharesNoMemory(t *testing.T) {
	text := "x SRGPD SRGPD SR RG GR PD"
	for k := range 5 {
		r, _ := impl.ReadRaga(text)
		lists := append([][]int64{r.Up, r.Down}, r.Forbidden...)
		want := ragaOf(text)
		wanted := append([][]int64{want.Up, want.Down}, want.Forbidden...)
		spoil(lists[k])
		for h, list := range lists {
			if h != k && !slices.Equal(list, wanted[h]) {
				t.Errorf("list %d shares memory with list %d", h, k)
			}
		}
	}
}
