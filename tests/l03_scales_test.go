package tests

import (
	"math"
	"math/big"
	"reflect"
	"slices"
	"strings"
	"testing"

	"loop.example/g01033/impl"
)

const toneLetters = "SrRgGmMPdDnN"

// invalidScales are too short, do not begin with the tonic, do not rise strictly, or have numbers that are no tones.
var invalidScales = [][]int64{
	nil, {}, {0}, {0, 2, 4, 7}, {0, 1, 2, 3},
	{1, 2, 3, 4, 5}, {2, 4, 5, 7, 9, 11}, {-1, 0, 1, 2, 3}, {-12, 2, 4, 7, 9}, {12, 13, 14, 15, 16},
	{0, 0, 2, 4, 7}, {0, 2, 2, 4, 7, 9}, {0, 2, 4, 7, 7}, {0, 4, 2, 7, 9}, {0, 2, 4, 9, 7}, {9, 7, 4, 2, 0}, {0, 0, 0, 0, 0},
	{0, 2, 4, 7, 12}, {0, 1, 2, 3, 12}, {0, 2, 4, 7, 24}, {0, 14, 16, 19, 21}, {0, -3, 2, 4, 7}, {0, 2, 4, 7, -3}, {0, 2, 4, -1, 7, 9},
	{0, 1, 2, 3, 4, 5, 6, 7, 8, 9, 10, 11, 12}, {0, 1, 2, 3, 4, 5, 6, 7, 8, 9, 10, 11, 0},
	{0, 2, 4, 7, math.MaxInt64}, {math.MinInt64, 2, 4, 7, 9}, {0, math.MinInt64, 4, 7, 9}, {0, 2, 4, 7, math.MinInt64},
	make([]int64, 1000), slices.Repeat([]int64{0, 2, 4, 7, 9}, 2),
}

// degreeExtremes are numbers at and around every limit of pitches, degrees and scale sizes.
var degreeExtremes = []int64{
	math.MinInt64, math.MinInt64 + 1, math.MinInt64 + 12, -impl.MaxValue, -25, -24, -23, -13, -12, -11, -6, -5, -4, -1, 0, 1, 4, 5, 6, 9, 10, 11, 12, 13,
	22, 23, 24, 25, 35, 36, 329, 330, 461, 462, impl.MaxValue, math.MaxInt64 - 12, math.MaxInt64 - 1, math.MaxInt64,
}

// scalesOf returns all scales with n tones in lexicographic order, each built tone by tone.
func scalesOf(n int) [][]int64 {
	var all [][]int64
	var goOn func(begin []int64)
	goOn = func(begin []int64) {
		if len(begin) == n {
			all = append(all, slices.Clone(begin))
			return
		}
		for tone := begin[len(begin)-1] + 1; tone < impl.Tones; tone++ {
			goOn(append(slices.Clip(begin), tone))
		}
	}
	goOn([]int64{0})
	return all
}

func allScales() [][]int64 {
	var all [][]int64
	for n := impl.MinScale; n <= impl.Tones; n++ {
		all = append(all, scalesOf(n)...)
	}
	return all
}

// someScales are scales of every size, symmetrical ones among them.
func someScales() [][]int64 {
	var some [][]int64
	for k, s := range allScales() {
		if k%61 == 0 {
			some = append(some, s)
		}
	}
	return append(some, scale("SRGPD"), scale("SRGMdn"), scale("SrgGMPDn"), scale("SrGmMDn"), scale("SRGmPDN"), scale(toneLetters))
}

// scale returns the tones with the letters of a text.
func scale(text string) []int64 {
	var s []int64
	for k := range len(text) {
		s = append(s, int64(strings.IndexByte(toneLetters, text[k])))
	}
	return s
}

func TestScaleConstants(t *testing.T) {
	got := []int64{impl.Tones, impl.MinPitch, impl.MaxPitch, impl.MinScale}
	if want := []int64{12, -12, 23, 5}; !slices.Equal(got, want) {
		t.Errorf("constants: got %v, want %v", got, want)
	}
}

func TestToneOf(t *testing.T) {
	want := map[int64]int64{
		0: 0, 1: 1, 11: 11, 12: 0, 13: 1, 23: 11, 24: 0, 25: 1, -1: 11, -2: 10, -11: 1, -12: 0, -13: 11, -23: 1, -24: 0, -25: 11,
		math.MaxInt64: 7, math.MinInt64: 4, math.MinInt64 + 1: 5,
	}
	for pitch, tone := range want {
		if got := impl.ToneOf(pitch); got != tone {
			t.Errorf("ToneOf(%d) = %d, want %d", pitch, got, tone)
		}
	}
	numbers := slices.Concat(extremes, degreeExtremes)
	for n := int64(-200); n <= 200; n++ {
		numbers = append(numbers, n)
	}
	for _, n := range numbers {
		want := new(big.Int).Mod(big.NewInt(n), big.NewInt(12)).Int64()
		if got := impl.ToneOf(n); got != want {
			t.Errorf("ToneOf(%d) = %d, want %d", n, got, want)
		}
	}
}

func TestToneName(t *testing.T) {
	for tone := range int64(12) {
		name := toneLetters[tone : tone+1]
		if got := impl.ToneName(tone); got != name {
			t.Errorf("ToneName(%d) = %q, want %q", tone, got, name)
		}
		if got, ok := impl.ToneNamed(name); got != tone || !ok {
			t.Errorf("ToneNamed(%q) = %d, %v", name, got, ok)
		}
	}
	for _, n := range slices.Concat(extremes, degreeExtremes) {
		if got := impl.ToneName(n); (n < 0 || n > 11) && got != "" {
			t.Errorf("ToneName(%d) = %q, want none", n, got)
		}
	}
}

func TestToneNamedRefuses(t *testing.T) {
	bad := []string{"", "s", "p", "D ", " D", "SS", "Sr", "SrR", toneLetters, "x", "0", "S\x00", "\x00", "\xff", "é", "Ｓ", "\n", "S\n"}
	for b := range 256 {
		if !strings.Contains(toneLetters, string(rune(b))) {
			bad = append(bad, string([]byte{byte(b)}))
		}
	}
	for _, name := range append(bad, oddTexts...) {
		if tone, ok := impl.ToneNamed(name); tone != 0 || ok {
			t.Errorf("ToneNamed(%q) = %d, %v", name, tone, ok)
		}
	}
}

func TestValidScale(t *testing.T) {
	for _, s := range allScales() {
		if !impl.ValidScale(s) {
			t.Errorf("ValidScale(%v) = false", s)
		}
	}
	for _, s := range invalidScales {
		if impl.ValidScale(s) {
			t.Errorf("ValidScale(%v) = true", s)
		}
	}
	if !impl.ValidScale([]int64{0, 1, 2, 3, 4}) || !impl.ValidScale([]int64{0, 8, 9, 10, 11}) {
		t.Error("ValidScale refuses the first or the last scale of five tones")
	}
}

// TestValidScaleAsWritten tries all lists of five numbers from -1 to 12.
func TestValidScaleAsWritten(t *testing.T) {
	for code := range 14 * 14 * 14 * 14 * 14 {
		s := make([]int64, 5)
		for k, rest := 0, code; k < 5; k++ {
			s[k] = int64(rest%14) - 1
			rest /= 14
		}
		want := s[0] == 0 && s[0] < s[1] && s[1] < s[2] && s[2] < s[3] && s[3] < s[4] && s[4] < 12
		if got := impl.ValidScale(s); got != want {
			t.Fatalf("ValidScale(%v) = %v", s, got)
		}
	}
}

func TestScaleText(t *testing.T) {
	for _, text := range []string{"SRGPD", "SrRgG", "SdDnN", "SrRgGm", "SRGmPDN", "SrGmPdN", "SRGMPDN", toneLetters} {
		if got := impl.ScaleText(scale(text)); got != text {
			t.Errorf("ScaleText(%v) = %q, want %q", scale(text), got, text)
		}
	}
	for _, s := range allScales() {
		if got, ok := impl.ReadScale(impl.ScaleText(s)); !slices.Equal(got, s) || !ok {
			t.Errorf("ReadScale(ScaleText(%v)) = %v, %v", s, got, ok)
		}
	}
	for _, s := range invalidScales {
		if got := impl.ScaleText(s); got != "" {
			t.Errorf("ScaleText(%v) = %q", s, got)
		}
	}
}

func TestReadScaleRefuses(t *testing.T) {
	bad := []string{
		"S", "SRGP", "SRGm", "RGmPD", "rRgGm", "SSRGmP", "SGRPD", "SRGPP", "SRGPR", "DPGRS", "SRGPDS", "SRGPx", "xSRGPD", "SRxGPD", "srgpd",
		"SRGPD ", " SRGPD", "SRG PD", "SRGPD\n", "SRGPD\x00", "SRGPD\xff", "\xffSRGPD", "SRGPDé", "SRGPＤ", "S,R,G,P,D", "0,2,4,7,9", "-",
		toneLetters + "S", toneLetters + toneLetters, strings.Repeat("S", 5000), strings.Repeat("SRGPD", 1000), "SRGPD" + strings.Repeat("D", 100000),
	}
	for _, text := range append(bad, oddTexts...) {
		if s, ok := impl.ReadScale(text); len(s) != 0 || ok {
			t.Errorf("ReadScale(%q) = %v, %v", text, s, ok)
		}
	}
}

func TestReadScaleTakesTextsOfScalesOnly(t *testing.T) {
	texts := map[string]bool{}
	for _, s := range allScales() {
		texts[impl.ScaleText(s)] = true
	}
	for _, text := range textsOver("SrGPDN s", 6) {
		s, ok := impl.ReadScale(text)
		if ok != texts[text] || ok && !slices.Equal(s, scale(text)) || !ok && len(s) != 0 {
			t.Errorf("ReadScale(%q) = %v, %v", text, s, ok)
		}
	}
}

func TestDegreeOf(t *testing.T) {
	cases := []struct {
		text                string
		pitch, degree, code int64
	}{
		{"SRGPD", 0, 0, impl.OK}, {"SRGPD", 2, 1, impl.OK}, {"SRGPD", 9, 4, impl.OK}, {"SRGPD", 12, 5, impl.OK}, {"SRGPD", 14, 6, impl.OK},
		{"SRGPD", 21, 9, impl.OK}, {"SRGPD", -3, -1, impl.OK}, {"SRGPD", -5, -2, impl.OK}, {"SRGPD", -8, -3, impl.OK}, {"SRGPD", -10, -4, impl.OK},
		{"SRGPD", -12, -5, impl.OK},
		{"SRGPD", 1, 0, impl.ErrNotFound}, {"SRGPD", 5, 0, impl.ErrNotFound}, {"SRGPD", -1, 0, impl.ErrNotFound}, {"SRGPD", -2, 0, impl.ErrNotFound},
		{"SRGPD", -11, 0, impl.ErrNotFound}, {"SRGPD", 13, 0, impl.ErrNotFound}, {"SRGPD", 23, 0, impl.ErrNotFound},
		{"SRGPD", 24, 0, impl.ErrRange}, {"SRGPD", -13, 0, impl.ErrRange}, {"SRGPD", -15, 0, impl.ErrRange}, {"SRGPD", 29, 0, impl.ErrRange},
		{"SRGPD", math.MinInt64, 0, impl.ErrRange}, {"SRGPD", math.MaxInt64, 0, impl.ErrRange},
		{toneLetters, 23, 23, impl.OK}, {toneLetters, -12, -12, impl.OK}, {toneLetters, -1, -1, impl.OK}, {toneLetters, 24, 0, impl.ErrRange},
		{"SdDnN", -1, -1, impl.OK}, {"SdDnN", -4, -4, impl.OK}, {"SdDnN", -5, 0, impl.ErrNotFound}, {"SdDnN", 23, 9, impl.OK},
	}
	for _, c := range cases {
		if got, code := impl.DegreeOf(scale(c.text), c.pitch); got != c.degree || code != c.code {
			t.Errorf("DegreeOf(%s, %d) = %d, %s", c.text, c.pitch, got, impl.CodeName(code))
		}
	}
}

func TestToneAt(t *testing.T) {
	cases := []struct {
		text                string
		degree, pitch, code int64
	}{
		{"SRGPD", 0, 0, impl.OK}, {"SRGPD", 4, 9, impl.OK}, {"SRGPD", 5, 12, impl.OK}, {"SRGPD", 6, 14, impl.OK}, {"SRGPD", 9, 21, impl.OK},
		{"SRGPD", -1, -3, impl.OK}, {"SRGPD", -2, -5, impl.OK}, {"SRGPD", -4, -10, impl.OK}, {"SRGPD", -5, -12, impl.OK},
		{"SRGPD", -6, 0, impl.ErrRange}, {"SRGPD", 10, 0, impl.ErrRange}, {"SRGPD", math.MinInt64, 0, impl.ErrRange}, {"SRGPD", math.MaxInt64, 0, impl.ErrRange},
		{"SRGmPDN", -7, -12, impl.OK}, {"SRGmPDN", -8, 0, impl.ErrRange}, {"SRGmPDN", 13, 23, impl.OK}, {"SRGmPDN", 14, 0, impl.ErrRange},
		{toneLetters, -12, -12, impl.OK}, {toneLetters, -13, 0, impl.ErrRange}, {toneLetters, 23, 23, impl.OK}, {toneLetters, 24, 0, impl.ErrRange},
	}
	for _, c := range cases {
		if got, code := impl.ToneAt(scale(c.text), c.degree); got != c.pitch || code != c.code {
			t.Errorf("ToneAt(%s, %d) = %d, %s", c.text, c.degree, got, impl.CodeName(code))
		}
	}
}

// pitchesOf returns all pitches whose tones are in a scale, from the lowest one on.
func pitchesOf(s []int64) []int64 {
	var all []int64
	for octave := int64(-1); octave <= 1; octave++ {
		for _, tone := range s {
			all = append(all, 12*octave+tone)
		}
	}
	return all
}

// TestDegreesAndPitchesLeadToEachOther is the first half of promise 4.
func TestDegreesAndPitchesLeadToEachOther(t *testing.T) {
	for _, s := range allScales() {
		pitches, n := pitchesOf(s), int64(len(s))
		for k, pitch := range pitches {
			degree := int64(k) - n
			if got, code := impl.DegreeOf(s, pitch); got != degree || code != impl.OK {
				t.Fatalf("DegreeOf(%v, %d) = %d, %s; want %d", s, pitch, got, impl.CodeName(code), degree)
			}
			if got, code := impl.ToneAt(s, degree); got != pitch || code != impl.OK {
				t.Fatalf("ToneAt(%v, %d) = %d, %s; want %d", s, degree, got, impl.CodeName(code), pitch)
			}
		}
		for pitch := int64(-40); pitch <= 40; pitch++ {
			want := int64(impl.OK)
			if pitch < -12 || pitch > 23 {
				want = impl.ErrRange
			} else if !slices.Contains(pitches, pitch) {
				want = impl.ErrNotFound
			}
			if got, code := impl.DegreeOf(s, pitch); code != want || want != impl.OK && got != 0 {
				t.Fatalf("DegreeOf(%v, %d) = %d, %s", s, pitch, got, impl.CodeName(code))
			}
		}
		for _, degree := range []int64{math.MinInt64, -n - 2, -n - 1, 2 * n, 2*n + 1, math.MaxInt64} {
			if got, code := impl.ToneAt(s, degree); got != 0 || code != impl.ErrRange {
				t.Fatalf("ToneAt(%v, %d) = %d, %s", s, degree, got, impl.CodeName(code))
			}
		}
	}
}

func TestIntervalsOf(t *testing.T) {
	want := map[string][]int64{
		"SRGPD": {2, 2, 3, 2, 3}, "SrRgG": {1, 1, 1, 1, 8}, "SdDnN": {8, 1, 1, 1, 1}, "SRGmPDN": {2, 2, 1, 2, 2, 2, 1},
		"SRGMdn": {2, 2, 2, 2, 2, 2}, toneLetters: {1, 1, 1, 1, 1, 1, 1, 1, 1, 1, 1, 1},
	}
	for text, intervals := range want {
		if got, code := impl.IntervalsOf(scale(text)); !slices.Equal(got, intervals) || code != impl.OK {
			t.Errorf("IntervalsOf(%s) = %v, %s", text, got, impl.CodeName(code))
		}
	}
	for _, s := range allScales() {
		intervals, code := impl.IntervalsOf(s)
		if len(intervals) != len(s) || code != impl.OK {
			t.Fatalf("IntervalsOf(%v) = %v, %s", s, intervals, impl.CodeName(code))
		}
		for k, at := 0, int64(0); k < len(s); k++ {
			at += intervals[k]
			if next := append(slices.Clip(s), 12)[k+1]; at != next {
				t.Fatalf("IntervalsOf(%v) = %v", s, intervals)
			}
		}
	}
}

// rotatedBySearch finds the tones of a rotated scale by stepping up from the tone with the index k.
func rotatedBySearch(s []int64, k int) []int64 {
	var rotated []int64
	for up := range int64(12) {
		if slices.Contains(s, (s[k]+up)%12) {
			rotated = append(rotated, up)
		}
	}
	return rotated
}

func TestRotateScale(t *testing.T) {
	cases := []struct {
		text string
		k    int64
		want string
		code int64
	}{
		{"SRGPD", 0, "SRGPD", impl.OK}, {"SRGPD", 1, "SRmPn", impl.OK}, {"SRGPD", 2, "Sgmdn", impl.OK}, {"SRGPD", 3, "SRmPD", impl.OK},
		{"SRGPD", 4, "SgmPn", impl.OK}, {"SRGPD", 5, "", impl.ErrRange}, {"SRGPD", -1, "", impl.ErrRange}, {"SRGPD", 12, "", impl.ErrRange},
		{"SRGPD", math.MinInt64, "", impl.ErrRange}, {"SRGPD", math.MaxInt64, "", impl.ErrRange}, {"SRGPD", 1 << 32, "", impl.ErrRange},
		{"SRGmPDN", 6, "SrgmMdn", impl.OK}, {"SRGmPDN", 7, "", impl.ErrRange}, {"SdDnN", 1, "SrRgG", impl.OK},
		{toneLetters, 11, toneLetters, impl.OK}, {toneLetters, 12, "", impl.ErrRange},
	}
	for _, c := range cases {
		got, code := impl.RotateScale(scale(c.text), c.k)
		if !slices.Equal(got, scale(c.want)) || code != c.code {
			t.Errorf("RotateScale(%s, %d) = %v, %s", c.text, c.k, got, impl.CodeName(code))
		}
	}
	for _, s := range allScales() {
		for k := range s {
			got, code := impl.RotateScale(s, int64(k))
			if !slices.Equal(got, rotatedBySearch(s, k)) || code != impl.OK {
				t.Fatalf("RotateScale(%v, %d) = %v, %s", s, k, got, impl.CodeName(code))
			}
		}
	}
}

// TestRotationsThatMakeUpAllTonesChangeNothing is the second half of promise 4.
func TestRotationsThatMakeUpAllTonesChangeNothing(t *testing.T) {
	for _, s := range allScales() {
		n := len(s)
		ways := [][]int64{{0}, slices.Repeat([]int64{1}, n)}
		for k := 1; k < n; k++ {
			ways = append(ways, []int64{int64(k), int64(n - k)})
			for j := 1; j < n-k; j++ {
				ways = append(ways, []int64{int64(k), int64(j), int64(n - k - j)})
			}
		}
		for _, way := range ways {
			rotated := s
			for _, k := range way {
				var code int64
				if rotated, code = impl.RotateScale(rotated, k); code != impl.OK {
					t.Fatalf("RotateScale of %v by each of %v: %s", s, way, impl.CodeName(code))
				}
			}
			if !slices.Equal(rotated, s) {
				t.Fatalf("%v, rotated by each of %v, is %v", s, way, rotated)
			}
		}
	}
}

func TestRotationTo(t *testing.T) {
	cases := []struct {
		a, b    string
		k, code int64
	}{
		{"SRGPD", "SRGPD", 0, impl.OK}, {"SRGPD", "SRmPn", 1, impl.OK}, {"SRmPn", "SRGPD", 4, impl.OK}, {"SRGPD", "SrRgG", 0, impl.ErrNotFound},
		{"SRGPD", "SRGmPDN", 0, impl.ErrNotFound}, {"SRGmPDN", "SRGPD", 0, impl.ErrNotFound}, {"SRGmPDN", "SRGMPDN", 3, impl.OK},
		// These come round before all their tones are through, so several k lead to b.
		{"SRGMdn", "SRGMdn", 0, impl.OK}, {"SrgGMPDn", "SRgmMdDN", 1, impl.OK}, {toneLetters, toneLetters, 0, impl.OK},
		{"SRgmMdDN", "SrgGMPDn", 1, impl.OK}, {"SrGMPn", "SRgMdD", 2, impl.OK}, {"SrGMPn", "SgmMDN", 1, impl.OK},
	}
	for _, c := range cases {
		if got, code := impl.RotationTo(scale(c.a), scale(c.b)); got != c.k || code != c.code {
			t.Errorf("RotationTo(%s, %s) = %d, %s", c.a, c.b, got, impl.CodeName(code))
		}
	}
	for _, a := range allScales() {
		var rotations []string
		for k := range a {
			rotations = append(rotations, impl.ScaleText(rotatedBySearch(a, k)))
		}
		for _, text := range append(slices.Clone(rotations), "SrRgG", "SRGPD", "SRGmPDN", toneLetters) {
			k, want := slices.Index(rotations, text), int64(impl.OK)
			if k < 0 {
				k, want = 0, impl.ErrNotFound
			}
			if got, code := impl.RotationTo(a, scale(text)); got != int64(k) || code != want {
				t.Fatalf("RotationTo(%v, %s) = %d, %s", a, text, got, impl.CodeName(code))
			}
		}
	}
}

func TestCommonTones(t *testing.T) {
	cases := [][3]string{
		{"SRGPD", "SRmPn", "SRP"}, {"SRGPD", "SRGPD", "SRGPD"}, {"SRGPD", toneLetters, "SRGPD"}, {toneLetters, "SRGPD", "SRGPD"},
		{"SrRgG", "SdDnN", "S"}, {"SRGPDN", "SrGmPdN", "SGPN"},
	}
	for _, c := range cases {
		if got, code := impl.CommonTones(scale(c[0]), scale(c[1])); !slices.Equal(got, scale(c[2])) || code != impl.OK {
			t.Errorf("CommonTones(%s, %s) = %v, %s", c[0], c[1], got, impl.CodeName(code))
		}
	}
	others := someScales()
	for _, a := range allScales() {
		for _, b := range others {
			var want []int64
			for tone := range int64(12) {
				if slices.Contains(a, tone) && slices.Contains(b, tone) {
					want = append(want, tone)
				}
			}
			if got, code := impl.CommonTones(a, b); !slices.Equal(got, want) || code != impl.OK {
				t.Fatalf("CommonTones(%v, %v) = %v, %s", a, b, got, impl.CodeName(code))
			}
		}
	}
}

func TestCountScales(t *testing.T) {
	for n, want := range map[int64]int64{5: 330, 6: 462, 7: 462, 8: 330, 9: 165, 10: 55, 11: 11, 12: 1} {
		if got, code := impl.CountScales(n); got != want || code != impl.OK || got != int64(len(scalesOf(int(n)))) {
			t.Errorf("CountScales(%d) = %d, %s", n, got, impl.CodeName(code))
		}
	}
	for _, n := range []int64{math.MinInt64, -5, -1, 0, 1, 4, 13, 17, 1 << 32, math.MaxInt64} {
		if got, code := impl.CountScales(n); got != 0 || code != impl.ErrRange {
			t.Errorf("CountScales(%d) = %d, %s", n, got, impl.CodeName(code))
		}
	}
}

func TestScaleNumbers(t *testing.T) {
	for n := impl.MinScale; n <= impl.Tones; n++ {
		all := scalesOf(n)
		if !slices.IsSortedFunc(all, slices.Compare) {
			t.Fatalf("the scales of %d tones are not in order", n)
		}
		for number, s := range all {
			if got, code := impl.ScaleNumber(s); got != int64(number) || code != impl.OK {
				t.Errorf("ScaleNumber(%v) = %d, %s; want %d", s, got, impl.CodeName(code), number)
			}
			if got, code := impl.NumberedScale(int64(n), int64(number)); !slices.Equal(got, s) || code != impl.OK {
				t.Errorf("NumberedScale(%d, %d) = %v, %s; want %v", n, number, got, impl.CodeName(code), s)
			}
		}
		for _, number := range []int64{math.MinInt64, -2, -1, int64(len(all)), int64(len(all)) + 1, 1 << 32, math.MaxInt64} {
			if got, code := impl.NumberedScale(int64(n), number); len(got) != 0 || code != impl.ErrRange {
				t.Errorf("NumberedScale(%d, %d) = %v, %s", n, number, got, impl.CodeName(code))
			}
		}
	}
	for _, n := range []int64{math.MinInt64, -1, 0, 1, 4, 13, 14, math.MaxInt64} {
		for _, number := range []int64{math.MinInt64, -1, 0, 1, math.MaxInt64} {
			if got, code := impl.NumberedScale(n, number); len(got) != 0 || code != impl.ErrRange {
				t.Errorf("NumberedScale(%d, %d) = %v, %s", n, number, got, impl.CodeName(code))
			}
		}
	}
}

// TestInvalidScales holds that ErrInvalid comes before all other errors.
func TestInvalidScales(t *testing.T) {
	refuse := func(what string, s []int64, result int64, list []int64, code int64) {
		t.Helper()
		if result != 0 || len(list) != 0 || code != impl.ErrInvalid {
			t.Errorf("%s of %v = %d, %v, %s", what, s, result, list, impl.CodeName(code))
		}
	}
	good := scale("SRGPD")
	for _, bad := range invalidScales {
		for _, n := range degreeExtremes {
			degree, code := impl.DegreeOf(bad, n)
			refuse("DegreeOf", bad, degree, nil, code)
			pitch, code := impl.ToneAt(bad, n)
			refuse("ToneAt", bad, pitch, nil, code)
			rotated, code := impl.RotateScale(bad, n)
			refuse("RotateScale", bad, 0, rotated, code)
		}
		intervals, code := impl.IntervalsOf(bad)
		refuse("IntervalsOf", bad, 0, intervals, code)
		number, code := impl.ScaleNumber(bad)
		refuse("ScaleNumber", bad, number, nil, code)
		for _, pair := range [][2][]int64{{bad, good}, {good, bad}, {bad, bad}} {
			k, code := impl.RotationTo(pair[0], pair[1])
			refuse("RotationTo", bad, k, nil, code)
			common, code := impl.CommonTones(pair[0], pair[1])
			refuse("CommonTones", bad, 0, common, code)
		}
	}
}

// answersOfScales returns what chapter 3 answers to many arguments.
func answersOfScales() []any {
	var all []any
	keep := func(answers ...any) { all = append(all, answers...) }
	lists := slices.Concat(someScales(), invalidScales)
	for _, s := range lists {
		intervals, one := impl.IntervalsOf(s)
		number, two := impl.ScaleNumber(s)
		keep(intervals, one, number, two, impl.ValidScale(s), impl.ScaleText(s))
		for _, n := range degreeExtremes {
			degree, one := impl.DegreeOf(s, n)
			pitch, two := impl.ToneAt(s, n)
			rotated, three := impl.RotateScale(s, n)
			keep(degree, one, pitch, two, rotated, three)
		}
		for _, other := range lists {
			k, one := impl.RotationTo(s, other)
			common, two := impl.CommonTones(s, other)
			keep(k, one, common, two)
		}
	}
	for _, a := range slices.Concat(extremes, degreeExtremes) {
		count, code := impl.CountScales(a)
		keep(impl.ToneOf(a), impl.ToneName(a), count, code)
		for _, b := range degreeExtremes {
			numbered, code := impl.NumberedScale(a, b)
			keep(numbered, code)
		}
	}
	for _, text := range append([]string{"SRGPD", "SRGPP", "S", "s"}, oddTexts...) {
		tone, isTone := impl.ToneNamed(text)
		s, isScale := impl.ReadScale(text)
		keep(tone, isTone, s, isScale)
	}
	return all
}

func TestScalesReturnEqualResults(t *testing.T) {
	if !reflect.DeepEqual(answersOfScales(), answersOfScales()) {
		t.Error("equal arguments, other results")
	}
}

// useScale calls all functions of chapter 3 that take a scale and returns the lists that they return.
func useScale(s, other []int64) [][]int64 {
	impl.ValidScale(s)
	impl.ScaleText(s)
	impl.DegreeOf(s, -3)
	impl.ToneAt(s, -1)
	impl.ScaleNumber(s)
	impl.RotationTo(s, other)
	impl.RotationTo(other, s)
	intervals, _ := impl.IntervalsOf(s)
	same, _ := impl.RotateScale(s, 0)
	rotated, _ := impl.RotateScale(s, 2)
	common, _ := impl.CommonTones(s, other)
	own, _ := impl.CommonTones(s, s)
	read, _ := impl.ReadScale("SRGPD")
	numbered, _ := impl.NumberedScale(5, 160)
	return [][]int64{intervals, same, rotated, common, own, read, numbered}
}

func TestScalesModifyNoArgument(t *testing.T) {
	for _, s := range slices.Concat(someScales(), invalidScales) {
		whole := append(slices.Clone(s), 91, 92, 93, 94, 95)
		before := slices.Clone(whole)
		useScale(whole[:len(s)], scale("SRGPD"))
		useScale(scale("SRGPD"), whole[:len(s)])
		if !slices.Equal(whole, before) {
			t.Errorf("the memory of %v was changed: %v", s, whole)
		}
	}
}

func TestScalesReturnNewMemory(t *testing.T) {
	for _, s := range someScales() {
		before := slices.Clone(s)
		wanted := useScale(s, s)
		first, second := useScale(s, s), useScale(s, s)
		for _, list := range first {
			list = list[:cap(list)]
			for k := range list {
				list[k] = 99
			}
		}
		if !slices.Equal(s, before) || !reflect.DeepEqual(second, wanted) || !reflect.DeepEqual(useScale(s, s), wanted) {
			t.Errorf("results for %v share memory", before)
		}
	}
}
