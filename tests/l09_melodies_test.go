package tests

import (
	"math"
	"math/rand"
	"reflect"
	"slices"
	"strconv"
	"strings"
	"testing"

	"loop.example/g01033/impl"
)

func note(pitch, length int64) impl.Note { return impl.Note{Pitch: pitch, Length: length} }

// melodyFrom reads the text of a melody without the functions of the program.
func melodyFrom(text string) []impl.Note {
	m := []impl.Note{}
	if text == "-" {
		return m
	}
	for _, word := range strings.Split(text, " ") {
		n := note(int64(strings.IndexByte("SrRgGmMPdDnN", word[0])), 1)
		word = word[1:]
		if strings.HasPrefix(word, ",") {
			n.Pitch, word = n.Pitch-12, word[1:]
		} else if strings.HasPrefix(word, "'") {
			n.Pitch, word = n.Pitch+12, word[1:]
		}
		if word != "" {
			n.Length, _ = strconv.ParseInt(word, 10, 64)
		}
		m = append(m, n)
	}
	return m
}

// pitchNames are the names of the pitches, from MinPitch on.
var pitchNames = strings.Split("S, r, R, g, G, m, M, P, d, D, n, N, S r R g G m M P d D n N S' r' R' g' G' m' M' P' d' D' n' N'", " ")

// melodyAsWritten is the text of a melody.
func melodyAsWritten(m []impl.Note) string {
	if len(m) == 0 {
		return "-"
	}
	var words []string
	for _, n := range m {
		word := pitchNames[n.Pitch+12]
		if n.Length > 1 {
			word += strconv.FormatInt(n.Length, 10)
		}
		words = append(words, word)
	}
	return strings.Join(words, " ")
}

func isNote(n impl.Note) bool {
	return n.Pitch >= -12 && n.Pitch <= 23 && n.Length >= 1 && n.Length <= 64
}

// isMelody is what the document calls a valid melody.
func isMelody(m []impl.Note) bool {
	for k, n := range m {
		if k >= 48 || !isNote(n) {
			return false
		}
	}
	return true
}

// soundOf returns the pitch that sounds in each unit of a melody.
func soundOf(m []impl.Note) []int64 {
	sound := []int64{}
	for _, n := range m {
		for range n.Length {
			sound = append(sound, n.Pitch)
		}
	}
	return sound
}

// sameNotes are count equal notes.
func sameNotes(count int, pitch, length int64) []impl.Note {
	return slices.Repeat([]impl.Note{note(pitch, length)}, count)
}

// drawMelody draws count notes, often with few pitches, so that equal ones follow one another, and with short or long lengths.
func drawMelody(draw *rand.Rand, count int) []impl.Note {
	m := []impl.Note{}
	pitches, most := drawnNumbers(draw), []int64{1, 4, 40, 64}[draw.Intn(4)]
	for range count {
		m = append(m, note(pitches[draw.Intn(len(pitches))], 1+draw.Int63n(most)))
	}
	return m
}

// namedMelodies are melodies without notes, with one and with few notes, and with as many as there may be.
func namedMelodies() [][]impl.Note {
	all := [][]impl.Note{nil, {}, sameNotes(48, -12, 64), sameNotes(48, 23, 1), sameNotes(47, 0, 64), sameNotes(48, 7, 33), sameNotes(48, 7, 32)}
	for _, text := range []string{"S", "S64", "S,", "N'", "S,64", "N'64", "S R2 G'", "S R R S,", "S R2 R S S40 S40", "S S S", "P,3 P3 P'3", "N S' N S,", "r12 g7 m64 m n,10", "S63 S S", "S64 S S63 S2", "S N' S,"} {
		all = append(all, melodyFrom(text))
	}
	every := []impl.Note{}
	for pitch := int64(-12); pitch <= 23; pitch++ {
		every = append(every, note(pitch, pitch+13))
	}
	return append(all, every)
}

// melodies are named and drawn melodies of all sizes.
func melodies(seed int64, count int) [][]impl.Note {
	draw := rand.New(rand.NewSource(seed))
	all := namedMelodies()
	for range count {
		all = append(all, drawMelody(draw, draw.Intn([]int{4, 10, 49}[draw.Intn(3)])))
	}
	return all
}

// notNotes are no notes, for one reason each, or for both.
func notNotes() []impl.Note {
	all := []impl.Note{{}, note(-13, 0), note(24, 65), note(math.MinInt64, math.MinInt64), note(math.MaxInt64, math.MaxInt64)}
	for _, n := range []int64{math.MinInt64, math.MinInt64 + 12, -impl.MaxValue, -24, -14, -13, 24, 25, 36, impl.MaxValue, math.MaxInt64 - 12, math.MaxInt64} {
		all = append(all, note(n, 1), note(n, 64))
	}
	for _, n := range []int64{math.MinInt64, -impl.MaxValue, -64, -1, 0, 65, 66, 128, impl.MaxValue, math.MaxInt64 - 63, math.MaxInt64} {
		all = append(all, note(0, n), note(-12, n), note(23, n))
	}
	return all
}

// invalidMelodies are lists of notes that are no melodies.
func invalidMelodies() [][]impl.Note {
	all := [][]impl.Note{sameNotes(49, 0, 1), sameNotes(5000, 23, 64), make([]impl.Note, 48), make([]impl.Note, 5000), sameNotes(50, 24, 1)}
	for _, n := range notNotes() {
		all = append(all, []impl.Note{n}, []impl.Note{n, note(0, 1)}, []impl.Note{note(0, 1), n}, append(sameNotes(47, 2, 3), n), append(sameNotes(48, 2, 3), n))
	}
	return all
}

func TestMelodyConstants(t *testing.T) {
	if got := []int64{impl.MaxNotes, impl.MaxLength}; !slices.Equal(got, []int64{48, 64}) {
		t.Errorf("constants: %v", got)
	}
}

func TestValidMelody(t *testing.T) {
	for _, m := range melodies(96, 200) {
		if !impl.ValidMelody(m) {
			t.Errorf("ValidMelody(%v) = false", m)
		}
	}
	for _, m := range invalidMelodies() {
		if impl.ValidMelody(m) {
			t.Errorf("ValidMelody(%v) = true", m)
		}
	}
}

// TestValidMelodyAsWritten puts numbers around all limits into each place of melodies, of which some have one note too many.
func TestValidMelodyAsWritten(t *testing.T) {
	count := map[bool]int{}
	for _, size := range []int{1, 2, 5, 47, 48, 49} {
		for place := range size {
			for _, n := range numbersAround {
				for _, other := range []impl.Note{note(n, 1), note(n, 64), note(0, n), note(23, n), note(n, n)} {
					m := sameNotes(size, -12, 64)
					m[place] = other
					count[isMelody(m)]++
					if impl.ValidMelody(m) != isMelody(m) {
						t.Errorf("ValidMelody(%v) = %v", m, !isMelody(m))
					}
				}
			}
		}
	}
	if count[true] < 1000 || count[false] < 1000 {
		t.Errorf("melodies and others: %v", count)
	}
}

func TestSameMelody(t *testing.T) {
	all := append(namedMelodies()[1:], invalidMelodies()...)
	for _, a := range all {
		if !impl.SameMelody(a, slices.Clone(a)) {
			t.Errorf("SameMelody(%v) of the same = false", a)
		}
		for place := range a[:min(len(a), 50)] {
			for _, by := range []impl.Note{note(1, 0), note(0, 1), note(1, -1), note(math.MinInt64, 0), note(0, math.MinInt64)} {
				b := slices.Clone(a)
				b[place].Pitch += by.Pitch
				b[place].Length += by.Length
				if impl.SameMelody(a, b) || impl.SameMelody(b, a) {
					t.Errorf("SameMelody(%v, %v) = true", a, b)
				}
			}
		}
		for _, b := range all {
			if same := reflect.DeepEqual(a, b); impl.SameMelody(a, b) != same {
				t.Errorf("SameMelody(%v, %v) = %v", a, b, !same)
			}
		}
		if len(a) > 0 && (impl.SameMelody(a, a[1:]) || impl.SameMelody(a[:len(a)-1], a) || impl.SameMelody(a, nil)) {
			t.Errorf("SameMelody(%v) of a part = true", a)
		}
	}
	if !impl.SameMelody(nil, []impl.Note{}) || !impl.SameMelody([]impl.Note{}, nil) || !impl.SameMelody(nil, nil) {
		t.Error("no notes are not the same as no notes")
	}
}

func TestMelodyOfTheDocument(t *testing.T) {
	m := melodyFrom("S R2 G'")
	if duration, code := impl.DurationOf(m); duration != 4 || code != impl.OK {
		t.Errorf("DurationOf = %d, %d", duration, code)
	}
	if low, high, code := impl.RangeOf(m); low != 0 || high != 16 || code != impl.OK {
		t.Errorf("RangeOf = %d, %d, %d", low, high, code)
	}
}

// TestMelodyWithoutNotes holds all that is said of melodies for those that have none.
func TestMelodyWithoutNotes(t *testing.T) {
	for _, none := range [][]impl.Note{nil, {}, sameNotes(3, 0, 1)[:0]} {
		isNone := func(what string, m []impl.Note, code int64) {
			t.Helper()
			if len(m) != 0 || code != impl.OK {
				t.Errorf("%s = %v, %d", what, m, code)
			}
		}
		if !impl.ValidMelody(none) || impl.MelodyText(none) != "-" {
			t.Errorf("no notes: %v, %q", impl.ValidMelody(none), impl.MelodyText(none))
		}
		if duration, code := impl.DurationOf(none); duration != 0 || code != impl.OK {
			t.Errorf("DurationOf = %d, %d", duration, code)
		}
		if pitches, code := impl.PitchesOf(none); len(pitches) != 0 || code != impl.OK {
			t.Errorf("PitchesOf = %v, %d", pitches, code)
		}
		if low, high, code := impl.RangeOf(none); low != 0 || high != 0 || code != impl.ErrState {
			t.Errorf("RangeOf = %d, %d, %d", low, high, code)
		}
		if contour, code := impl.ContourOf(none); len(contour) != 0 || code != impl.OK {
			t.Errorf("ContourOf = %v, %d", contour, code)
		}
		for _, time := range numbersAround {
			if pitch, code := impl.PitchAt(none, time); pitch != 0 || code != impl.ErrRange {
				t.Errorf("PitchAt(%d) = %d, %d", time, pitch, code)
			}
		}
		m, code := impl.TransposeMelody(none, 35)
		isNone("TransposeMelody", m, code)
		m, code = impl.MirrorMelody(none, 23)
		isNone("MirrorMelody", m, code)
		m, code = impl.ReverseMelody(none)
		isNone("ReverseMelody", m, code)
		m, code = impl.StretchMelody(none, 1, 64)
		isNone("StretchMelody", m, code)
		m, code = impl.JoinMelodies(none, none)
		isNone("JoinMelodies", m, code)
		m, code = impl.CutMelody(none, 0, 0)
		isNone("CutMelody", m, code)
		m, code = impl.TieMelody(none)
		isNone("TieMelody", m, code)
		m, ok := impl.ReadMelody("-")
		if len(m) != 0 || !ok {
			t.Errorf("ReadMelody = %v, %v", m, ok)
		}
		for _, code := range wrongRanges(none) {
			if code != impl.ErrRange {
				t.Errorf("a number out of its range: %d", code)
			}
		}
	}
}

// wrongRanges returns the codes of all functions for numbers that are out of their ranges, as far as this does not depend on the melody.
func wrongRanges(m []impl.Note) []int64 {
	var codes []int64
	keep := func(out []impl.Note, code int64) {
		if len(out) > 0 {
			code = -1
		}
		codes = append(codes, code)
	}
	for _, n := range numbersAround {
		if n < -35 || n > 35 {
			keep(impl.TransposeMelody(m, n))
		}
		if n < -12 || n > 23 {
			keep(impl.MirrorMelody(m, n))
		}
		if n < 1 || n > 64 {
			keep(impl.StretchMelody(m, n, 1))
			keep(impl.StretchMelody(m, 1, n))
			keep(impl.StretchMelody(m, n, n))
			keep(impl.StretchMelody(m, n, 64))
			keep(impl.StretchMelody(m, 64, n))
		}
		if n < 0 || n > 48*64 {
			keep(impl.CutMelody(m, n, n))
			keep(impl.CutMelody(m, 0, n))
			keep(impl.CutMelody(m, n, 0))
			_, code := impl.PitchAt(m, n)
			keep(nil, code)
		}
	}
	keep(impl.CutMelody(m, 1, 0))
	return codes
}

func TestMelodyRanges(t *testing.T) {
	for _, m := range melodies(97, 50) {
		for _, code := range wrongRanges(m) {
			if code != impl.ErrRange {
				t.Errorf("%v with a number out of its range: %d", m, code)
			}
		}
	}
	for _, m := range invalidMelodies() {
		for _, code := range wrongRanges(m) {
			if code != impl.ErrInvalid {
				t.Errorf("%v with a number out of its range: %d", m, code)
			}
		}
	}
}

// melodyCodes returns the codes of all functions for a melody and for numbers that are in their ranges, and whether all other results are zero.
func melodyCodes(m []impl.Note) ([]int64, bool) {
	duration, a := impl.DurationOf(m)
	pitches, b := impl.PitchesOf(m)
	low, high, c := impl.RangeOf(m)
	contour, d := impl.ContourOf(m)
	pitch, e := impl.PitchAt(m, 0)
	codes := []int64{a, b, c, d, e}
	isZero := duration == 0 && len(pitches) == 0 && low == 0 && high == 0 && len(contour) == 0 && pitch == 0 && impl.MelodyText(m) == ""
	keep := func(out []impl.Note, code int64) {
		isZero = isZero && len(out) == 0
		codes = append(codes, code)
	}
	keep(impl.TransposeMelody(m, 0))
	keep(impl.MirrorMelody(m, 0))
	keep(impl.ReverseMelody(m))
	keep(impl.StretchMelody(m, 1, 1))
	keep(impl.JoinMelodies(m, nil))
	keep(impl.JoinMelodies(nil, m))
	keep(impl.JoinMelodies(m, m))
	keep(impl.JoinMelodies(sameNotes(48, 0, 1), m))
	keep(impl.CutMelody(m, 0, 0))
	keep(impl.CutMelody(m, 0, 1))
	keep(impl.TieMelody(m))
	return codes, isZero
}

func TestMelodiesInvalid(t *testing.T) {
	for _, m := range invalidMelodies() {
		codes, isZero := melodyCodes(m)
		for k, code := range codes {
			if code != impl.ErrInvalid {
				t.Errorf("function %d of %v: %d", k, m, code)
			}
		}
		if !isZero {
			t.Errorf("%v has results", m)
		}
	}
}

func TestContourOf(t *testing.T) {
	cases := []struct {
		text string
		want []int64
	}{
		{"-", nil}, {"S", nil}, {"S S2", []int64{0}}, {"S2 R", []int64{1}}, {"R S64", []int64{-1}}, {"S R R S,", []int64{1, 0, -1}}, {"S, N'", []int64{1}}, {"N' S,", []int64{-1}},
		{"N S' N N,", []int64{1, -1, -1}}, {"S S' S S, S", []int64{1, -1, -1, 1}},
	}
	for _, c := range cases {
		if got, code := impl.ContourOf(melodyFrom(c.text)); !slices.Equal(got, c.want) || code != impl.OK {
			t.Errorf("ContourOf(%s) = %v, %d", c.text, got, code)
		}
	}
}

// TestMelodiesAsWritten holds durations, pitches, ranges and contours, and the pitches at all times, against the units of melodies.
func TestMelodiesAsWritten(t *testing.T) {
	for _, m := range melodies(98, 300) {
		sound := soundOf(m)
		pitches, contour := []int64{}, []int64{}
		for k, n := range m {
			pitches = append(pitches, n.Pitch)
			if k > 0 {
				step := n.Pitch - m[k-1].Pitch
				contour = append(contour, max(min(step, 1), -1))
			}
		}
		if got, code := impl.DurationOf(m); got != int64(len(sound)) || code != impl.OK {
			t.Errorf("DurationOf(%v) = %d, %d", m, got, code)
		}
		if got, code := impl.PitchesOf(m); !slices.Equal(got, pitches) || code != impl.OK {
			t.Errorf("PitchesOf(%v) = %v, %d", m, got, code)
		}
		if got, code := impl.ContourOf(m); !slices.Equal(got, contour) || code != impl.OK {
			t.Errorf("ContourOf(%v) = %v, %d", m, got, code)
		}
		if len(m) > 0 {
			if low, high, code := impl.RangeOf(m); low != slices.Min(sound) || high != slices.Max(sound) || code != impl.OK {
				t.Errorf("RangeOf(%v) = %d, %d, %d", m, low, high, code)
			}
		}
		for time := int64(-2); time < int64(len(sound))+3; time++ {
			want, wantCode := int64(0), int64(impl.ErrRange)
			if time >= 0 && time < int64(len(sound)) {
				want, wantCode = sound[time], impl.OK
			}
			if got, code := impl.PitchAt(m, time); got != want || code != wantCode {
				t.Errorf("PitchAt(%v, %d) = %d, %d, want %d, %d", m, time, got, code, want, wantCode)
			}
		}
		for _, time := range extremes {
			if got, code := impl.PitchAt(m, time); (time < 0 || time > 48*64) && (got != 0 || code != impl.ErrRange) {
				t.Errorf("PitchAt(%v, %d) = %d, %d", m, time, got, code)
			}
		}
	}
}

// checkMelody holds a melody that was made of another one, and the code, against what is wanted.
func checkMelody(t *testing.T, what string, m, got []impl.Note, code int64, want []impl.Note, wantCode int64) {
	t.Helper()
	if code != wantCode || !slices.Equal(got, want) {
		t.Errorf("%s of %v = %v, %d, want %v, %d", what, m, got, code, want, wantCode)
	}
}

// changedNotes changes each note of a melody; impl.ErrState if one of the results is no note.
func changedNotes(m []impl.Note, change func(impl.Note) impl.Note) ([]impl.Note, int64) {
	var all []impl.Note
	for _, n := range m {
		all = append(all, change(n))
	}
	if !isMelody(all) {
		return nil, impl.ErrState
	}
	return all, impl.OK
}

func TestTransposeMelody(t *testing.T) {
	cases := []struct {
		text string
		by   int64
		want string
		code int64
	}{
		{"S R2 G'", 2, "R G2 M'", impl.OK}, {"S R2 G'", 7, "P D2 N'", impl.OK}, {"S R2 G'", 8, "", impl.ErrState}, {"S R2 G'", -12, "S, R,2 G", impl.OK}, {"S R2 G'", -13, "", impl.ErrState},
		{"S,", 35, "N'", impl.OK}, {"S,", 36, "", impl.ErrRange}, {"N'", -35, "S,", impl.OK}, {"N'", -36, "", impl.ErrRange}, {"S", 35, "", impl.ErrState}, {"S,", -1, "", impl.ErrState},
		{"N'", 1, "", impl.ErrState}, {"-", 35, "-", impl.OK}, {"-", -35, "-", impl.OK}, {"-", 36, "", impl.ErrRange}, {"-", -36, "", impl.ErrRange}, {"N,64 S", 1, "S64 r", impl.OK},
	}
	for _, c := range cases {
		var want []impl.Note
		if c.want != "" {
			want = melodyFrom(c.want)
		}
		got, code := impl.TransposeMelody(melodyFrom(c.text), c.by)
		checkMelody(t, "TransposeMelody by "+strconv.FormatInt(c.by, 10), melodyFrom(c.text), got, code, want, c.code)
	}
}

func TestMirrorMelody(t *testing.T) {
	cases := []struct {
		text string
		axis int64
		want string
		code int64
	}{
		{"S R2 G'", 4, "d M2 G,", impl.OK}, {"S R2 G'", 2, "G R2 S,", impl.OK}, {"S R2 G'", 1, "", impl.ErrState}, {"S R2 G'", 11, "n' d'2 M", impl.OK}, {"S R2 G'", 12, "", impl.ErrState},
		{"S R2 G'", 18, "", impl.ErrState}, {"S R2 G'", 24, "", impl.ErrRange}, {"S,", -12, "S,", impl.OK}, {"S,", -13, "", impl.ErrRange}, {"N'", 23, "N'", impl.OK}, {"N'", 24, "", impl.ErrRange},
		{"N'64", 6, "r,64", impl.OK}, {"N'64", 5, "", impl.ErrState}, {"-", 23, "-", impl.OK}, {"-", -12, "-", impl.OK}, {"-", 24, "", impl.ErrRange}, {"-", -13, "", impl.ErrRange}, {"S", 0, "S", impl.OK}, {"R N,", 0, "n, r", impl.OK},
	}
	for _, c := range cases {
		var want []impl.Note
		if c.want != "" {
			want = melodyFrom(c.want)
		}
		got, code := impl.MirrorMelody(melodyFrom(c.text), c.axis)
		checkMelody(t, "MirrorMelody at "+strconv.FormatInt(c.axis, 10), melodyFrom(c.text), got, code, want, c.code)
	}
}

// TestPitchesAreReplacedAndBack tries all transpositions and mirrors, and undoes them.
func TestPitchesAreReplacedAndBack(t *testing.T) {
	count := map[int64]int{}
	for _, m := range melodies(99, 200) {
		for n := int64(-35); n <= 35; n++ {
			want, wantCode := changedNotes(m, func(x impl.Note) impl.Note { return note(x.Pitch+n, x.Length) })
			got, code := impl.TransposeMelody(m, n)
			checkMelody(t, "TransposeMelody by "+strconv.FormatInt(n, 10), m, got, code, want, wantCode)
			count[code]++
			if code == impl.OK {
				back, code := impl.TransposeMelody(got, -n)
				checkMelody(t, "TransposeMelody back", got, back, code, m, impl.OK)
			}
		}
		for n := int64(-12); n <= 23; n++ {
			want, wantCode := changedNotes(m, func(x impl.Note) impl.Note { return note(2*n-x.Pitch, x.Length) })
			got, code := impl.MirrorMelody(m, n)
			checkMelody(t, "MirrorMelody at "+strconv.FormatInt(n, 10), m, got, code, want, wantCode)
			count[code]++
			if code == impl.OK {
				back, code := impl.MirrorMelody(got, n)
				checkMelody(t, "MirrorMelody back", got, back, code, m, impl.OK)
			}
		}
	}
	if len(count) != 2 || count[impl.OK] < 1000 || count[impl.ErrState] < 1000 {
		t.Errorf("codes: %v", count)
	}
}

func TestReverseMelody(t *testing.T) {
	if got, code := impl.ReverseMelody(melodyFrom("S R2 G'")); !slices.Equal(got, melodyFrom("G' R2 S")) || code != impl.OK {
		t.Errorf("ReverseMelody = %v, %d", got, code)
	}
	for _, m := range melodies(100, 300) {
		var want []impl.Note
		for _, n := range m {
			want = append([]impl.Note{n}, want...)
		}
		got, code := impl.ReverseMelody(m)
		checkMelody(t, "ReverseMelody", m, got, code, want, impl.OK)
		back, code := impl.ReverseMelody(got)
		checkMelody(t, "ReverseMelody twice", m, back, code, m, impl.OK)
	}
}

func TestStretchMelody(t *testing.T) {
	cases := []struct {
		text     string
		num, den int64
		want     string
		code     int64
	}{
		{"S R2 G'", 4, 2, "S2 R4 G'2", impl.OK}, {"S R2 G'", 1, 2, "", impl.ErrState}, {"S R2 G'", 32, 1, "S32 R64 G'32", impl.OK}, {"S R2 G'", 33, 1, "", impl.ErrState},
		{"S R2 G'", 64, 1, "", impl.ErrState}, {"S R2 G'", 64, 2, "S32 R64 G'32", impl.OK}, {"S R2 G'", 64, 64, "S R2 G'", impl.OK}, {"S2 R4 G'6", 1, 2, "S R2 G'3", impl.OK},
		{"S2 R4 G'6", 3, 2, "S3 R6 G'9", impl.OK}, {"S2 R4 G'6", 2, 3, "", impl.ErrState}, {"S64", 1, 64, "S", impl.OK}, {"S64", 1, 63, "", impl.ErrState}, {"S", 64, 1, "S64", impl.OK},
		{"S63", 1, 64, "", impl.ErrState}, {"S64", 64, 63, "", impl.ErrState}, {"S63", 64, 63, "S64", impl.OK}, {"S R3", 1, 3, "", impl.ErrState}, {"R3 S", 1, 3, "", impl.ErrState},
		{"S", 0, 1, "", impl.ErrRange}, {"S", 1, 0, "", impl.ErrRange}, {"S", 65, 1, "", impl.ErrRange}, {"S", 1, 65, "", impl.ErrRange}, {"S", 65, 65, "", impl.ErrRange}, {"S", -1, -1, "", impl.ErrRange},
		{"S", 0, 0, "", impl.ErrRange}, {"-", 64, 1, "-", impl.OK}, {"-", 1, 64, "-", impl.OK}, {"-", 0, 1, "", impl.ErrRange}, {"-", 1, 0, "", impl.ErrRange}, {"-", 65, 1, "", impl.ErrRange},
	}
	for _, c := range cases {
		var want []impl.Note
		if c.want != "" {
			want = melodyFrom(c.want)
		}
		got, code := impl.StretchMelody(melodyFrom(c.text), c.num, c.den)
		checkMelody(t, "StretchMelody by "+strconv.FormatInt(c.num, 10)+"/"+strconv.FormatInt(c.den, 10), melodyFrom(c.text), got, code, want, c.code)
	}
}

// TestStretchMelodyAsWritten stretches melodies by all fractions, and back.
func TestStretchMelodyAsWritten(t *testing.T) {
	count := map[int64]int{}
	for _, m := range melodies(101, 30) {
		for num := int64(1); num <= 64; num++ {
			for den := int64(1); den <= 64; den++ {
				want, wantCode := changedNotes(m, func(x impl.Note) impl.Note {
					for length := int64(1); length <= 64; length++ {
						if length*den == x.Length*num {
							return note(x.Pitch, length)
						}
					}
					return impl.Note{}
				})
				got, code := impl.StretchMelody(m, num, den)
				checkMelody(t, "StretchMelody", m, got, code, want, wantCode)
				count[code]++
				if code == impl.OK {
					back, code := impl.StretchMelody(got, den, num)
					checkMelody(t, "StretchMelody back", got, back, code, m, impl.OK)
				}
			}
		}
	}
	if len(count) != 2 || count[impl.OK] < 1000 || count[impl.ErrState] < 1000 {
		t.Errorf("codes: %v", count)
	}
}

// TestJoinMelodies joins melodies of all sizes, and holds what sounds.
func TestJoinMelodies(t *testing.T) {
	draw := rand.New(rand.NewSource(102))
	for sizeA := range 49 {
		for sizeB := range 49 {
			a, b := drawMelody(draw, sizeA), drawMelody(draw, sizeB)
			got, code := impl.JoinMelodies(a, b)
			if sizeA+sizeB > 48 {
				checkMelody(t, "JoinMelodies", a, got, code, nil, impl.ErrFull)
				continue
			}
			checkMelody(t, "JoinMelodies", a, got, code, append(slices.Clone(a), b...), impl.OK)
			if !slices.Equal(soundOf(got), append(soundOf(a), soundOf(b)...)) {
				t.Errorf("JoinMelodies(%v, %v) sounds as %v", a, b, got)
			}
		}
	}
	good := melodyFrom("S R2 G'")
	for _, m := range invalidMelodies() {
		for _, other := range [][]impl.Note{nil, good, sameNotes(48, 0, 1), m} {
			got, code := impl.JoinMelodies(m, other)
			checkMelody(t, "JoinMelodies", m, got, code, nil, impl.ErrInvalid)
			got, code = impl.JoinMelodies(other, m)
			checkMelody(t, "JoinMelodies", other, got, code, nil, impl.ErrInvalid)
		}
	}
}

func TestCutMelody(t *testing.T) {
	cases := []struct {
		text        string
		from, until int64
		want        string
		code        int64
	}{
		{"S R2 G'", 0, 4, "S R2 G'", impl.OK}, {"S R2 G'", 2, 4, "R G'", impl.OK}, {"S R2 G'", 0, 2, "S R", impl.OK}, {"S R2 G'", 1, 3, "R2", impl.OK}, {"S R2 G'", 2, 3, "R", impl.OK},
		{"S R2 G'", 0, 0, "-", impl.OK}, {"S R2 G'", 2, 2, "-", impl.OK}, {"S R2 G'", 4, 4, "-", impl.OK}, {"S R2 G'", 3, 4, "G'", impl.OK}, {"S R2 G'", 3, 2, "", impl.ErrRange},
		{"S R2 G'", 0, 5, "", impl.ErrRange}, {"S R2 G'", 5, 5, "", impl.ErrRange}, {"S R2 G'", -1, 2, "", impl.ErrRange}, {"S R2 G'", -1, -1, "", impl.ErrRange}, {"S64", 1, 63, "S62", impl.OK},
		{"S S S", 1, 3, "S S", impl.OK}, {"-", 0, 0, "-", impl.OK}, {"-", 0, 1, "", impl.ErrRange}, {"-", 1, 1, "", impl.ErrRange}, {"-", -1, 0, "", impl.ErrRange}, {"-", 1, 0, "", impl.ErrRange},
		{"S", math.MinInt64, math.MaxInt64, "", impl.ErrRange}, {"S", 0, math.MaxInt64, "", impl.ErrRange}, {"S", math.MinInt64, 1, "", impl.ErrRange}, {"S", 1, math.MinInt64, "", impl.ErrRange},
	}
	for _, c := range cases {
		var want []impl.Note
		if c.want != "" {
			want = melodyFrom(c.want)
		}
		got, code := impl.CutMelody(melodyFrom(c.text), c.from, c.until)
		checkMelody(t, "CutMelody "+strconv.FormatInt(c.from, 10)+" "+strconv.FormatInt(c.until, 10), melodyFrom(c.text), got, code, want, c.code)
	}
}

// cutAsWritten goes through the units of all notes.
func cutAsWritten(m []impl.Note, from, until int64) []impl.Note {
	var part []impl.Note
	time := int64(0)
	for _, n := range m {
		units := int64(0)
		for range n.Length {
			if time >= from && time < until {
				units++
			}
			time++
		}
		if units > 0 {
			part = append(part, note(n.Pitch, units))
		}
	}
	return part
}

// TestCutMelodyAsWritten cuts melodies at all times, and joins the parts.
func TestCutMelodyAsWritten(t *testing.T) {
	draw := rand.New(rand.NewSource(103))
	for _, m := range melodies(104, 60) {
		sound := soundOf(m)
		duration := int64(len(sound))
		for from := int64(0); from <= duration; from++ {
			for range 3 {
				until := from + draw.Int63n(duration-from+1)
				if draw.Intn(5) == 0 {
					until = duration
				}
				got, code := impl.CutMelody(m, from, until)
				checkMelody(t, "CutMelody", m, got, code, cutAsWritten(m, from, until), impl.OK)
				if !slices.Equal(soundOf(got), sound[from:until]) {
					t.Errorf("CutMelody(%v, %d, %d) sounds as %v", m, from, until, got)
				}
			}
			checkJoinedParts(t, m, from)
			for _, until := range []int64{-1, from - 1, duration + 1, math.MaxInt64, math.MinInt64} {
				got, code := impl.CutMelody(m, from, until)
				checkMelody(t, "CutMelody until a wrong time", m, got, code, nil, impl.ErrRange)
			}
		}
	}
}

// checkJoinedParts cuts a melody at a time and holds that both parts joined sound like it. A note that is cut is one more.
func checkJoinedParts(t *testing.T, m []impl.Note, time int64) {
	t.Helper()
	sound := soundOf(m)
	before, one := impl.CutMelody(m, 0, time)
	behind, two := impl.CutMelody(m, time, int64(len(sound)))
	joined, code := impl.JoinMelodies(before, behind)
	if one != impl.OK || two != impl.OK {
		t.Fatalf("the parts of %v at %d: %d, %d", m, time, one, two)
	}
	if len(before)+len(behind) > 48 {
		checkMelody(t, "JoinMelodies of parts", m, joined, code, nil, impl.ErrFull)
		return
	}
	if code != impl.OK || !slices.Equal(soundOf(joined), sound) {
		t.Errorf("the parts of %v at %d sound as %v, %d", m, time, joined, code)
	}
}

func TestTieMelody(t *testing.T) {
	cases := []struct{ text, want string }{
		{"-", "-"}, {"S", "S"}, {"S S", "S2"}, {"S S S", "S3"}, {"S R S", "S R S"}, {"S R2 R S S40 S40", "S R3 S41 S40"}, {"S S'", "S S'"}, {"S S, S,", "S S,2"}, {"S63 S", "S64"},
		{"S63 S S", "S64 S"}, {"S63 S2 S", "S63 S3"}, {"S64 S64", "S64 S64"}, {"S64 S S63 S2", "S64 S64 S2"}, {"S32 S32 R S32 S33", "S64 R S32 S33"}, {"S40 S40 S20", "S40 S60"},
		{"S40 S20 S40 S20", "S60 S60"}, {"S R R S S R", "S R2 S2 R"}, {"S2 S3 S4 N,", "S9 N,"},
	}
	for _, c := range cases {
		got, code := impl.TieMelody(melodyFrom(c.text))
		checkMelody(t, "TieMelody", melodyFrom(c.text), got, code, melodyFrom(c.want), impl.OK)
	}
	for _, m := range append(melodies(105, 1000), tiedSamples()...) {
		var want []impl.Note
		for _, n := range m {
			last := len(want) - 1
			if last >= 0 && want[last].Pitch == n.Pitch && want[last].Length+n.Length <= 64 {
				want[last].Length += n.Length
			} else {
				want = append(want, n)
			}
		}
		got, code := impl.TieMelody(m)
		checkMelody(t, "TieMelody", m, got, code, want, impl.OK)
		if !slices.Equal(soundOf(got), soundOf(m)) {
			t.Errorf("TieMelody(%v) sounds as %v", m, got)
		}
		again, code := impl.TieMelody(got)
		checkMelody(t, "TieMelody twice", got, again, code, got, impl.OK)
	}
}

// tiedSamples are melodies with one or two pitches only.
func tiedSamples() [][]impl.Note {
	draw := rand.New(rand.NewSource(106))
	var all [][]impl.Note
	for range 500 {
		m := drawMelody(draw, draw.Intn(49))
		for k := range m {
			m[k].Pitch = 12 * draw.Int63n(2) * draw.Int63n(2)
		}
		all = append(all, m)
	}
	return all
}

func TestMelodyText(t *testing.T) {
	cases := []struct {
		m    []impl.Note
		want string
	}{
		{nil, "-"}, {[]impl.Note{note(0, 1), note(2, 2), note(16, 1)}, "S R2 G'"}, {[]impl.Note{note(-12, 64), note(23, 64), note(11, 10), note(12, 9)}, "S,64 N'64 N10 S'9"},
		{[]impl.Note{note(-1, 1), note(-1, 2), note(0, 2), note(12, 1)}, "N, N,2 S2 S'"}, {sameNotes(3, 7, 1), "P P P"}, {sameNotes(49, 7, 1), ""}, {[]impl.Note{{}}, ""},
	}
	for _, c := range cases {
		if got := impl.MelodyText(c.m); got != c.want {
			t.Errorf("MelodyText(%v) = %q, want %q", c.m, got, c.want)
		}
	}
	all := melodies(107, 500)
	for pitch := int64(-12); pitch <= 23; pitch++ {
		for length := int64(1); length <= 64; length++ {
			all = append(all, []impl.Note{note(pitch, length)}, []impl.Note{note(0, 1), note(pitch, length), note(pitch, length)})
		}
	}
	for _, m := range all {
		text := impl.MelodyText(m)
		if text != melodyAsWritten(m) {
			t.Errorf("MelodyText(%v) = %q", m, text)
		}
		if back, ok := impl.ReadMelody(text); !ok || !slices.Equal(back, m) {
			t.Errorf("ReadMelody(%q) = %v, %v", text, back, ok)
		}
	}
}

func TestReadMelodyRefuses(t *testing.T) {
	bad := []string{
		"S1", "S0", "S65", "S066", "S02", "S-2", "S+2", "S2.", "S 2", "S,1", "S'1", "S'0", "S,65", "S,,", "S''", "S,'", "S',", "S2,", "S2'", "X", "s", "x2", "2", "2S", ",", "'", ",S", "'S", "SS", "S R  G", " S", "S ", "S\n", "S\tR",
		"S,R", "-S", "S-", "S -", "- S", "- -", "--", "S|R", "~S", "S18446744073709551618", "S4294967298", "S9223372036854775809", "S2\x00", "\x00S", "é", "Sé", "S\xff", "\xffS", "S１", "S’", "S2 R3 X", "X S2 R3", "S2 R65 G",
		strings.Repeat("S ", 48) + "S", strings.Repeat("S ", 48), strings.Repeat("S ", 5000) + "S", "S" + strings.Repeat("2", 5000), "S" + strings.Repeat(",", 5000), "S" + strings.Repeat(" ", 5000) + "S",
	}
	for _, text := range bad {
		if m, ok := impl.ReadMelody(text); ok || len(m) != 0 {
			t.Errorf("ReadMelody(%.100q) = %v, %v", text, m, ok)
		}
	}
	for _, text := range oddTexts {
		if m, ok := impl.ReadMelody(text); ok != (text == "-") || len(m) != 0 {
			t.Errorf("ReadMelody(%.100q) = %v, %v", text, m, ok)
		}
	}
	if m, ok := impl.ReadMelody(strings.Repeat("S ", 47) + "S"); !ok || !slices.Equal(m, sameNotes(48, 0, 1)) {
		t.Errorf("ReadMelody of 48 notes = %v, %v", m, ok)
	}
}

// noteTexts are the texts of all notes.
func noteTexts() map[string]impl.Note {
	texts := map[string]impl.Note{}
	for pitch := int64(-12); pitch <= 23; pitch++ {
		for length := int64(1); length <= 64; length++ {
			texts[melodyAsWritten([]impl.Note{note(pitch, length)})] = note(pitch, length)
		}
	}
	return texts
}

// TestReadMelodyTakesTextsOfMelodiesOnly holds all short texts, and texts with each byte changed, inserted or removed, against the texts of all notes.
func TestReadMelodyTakesTextsOfMelodiesOnly(t *testing.T) {
	notes, count := noteTexts(), map[bool]int{}
	check := func(text string) {
		var want []impl.Note
		has := true
		for _, word := range strings.Split(text, " ") {
			n, ok := notes[word]
			want, has = append(want, n), has && ok
		}
		has = has && len(want) <= 48
		if text == "-" || !has {
			want = nil
		}
		has = has || text == "-"
		count[has]++
		if m, ok := impl.ReadMelody(text); ok != has || !slices.Equal(m, want) {
			t.Errorf("ReadMelody(%q) = %v, %v", text, m, ok)
		}
	}
	for _, text := range textsOver("SN,' 0126-", 5) {
		check(text)
	}
	for _, m := range append(namedMelodies(), melodies(108, 40)...) {
		text := melodyAsWritten(m)
		for _, edited := range editsOf(text, " ", ",", "'", "-", "0", "1", "4", "9", "S", "n", "N", "a", "X", "+", "\t", "\xff", ";") {
			check(edited)
		}
	}
	if count[true] < 3000 || count[false] < 3000 {
		t.Errorf("texts of melodies and others: %v", count)
	}
}

// answersOfMelodies returns what chapter 9 answers to many arguments.
func answersOfMelodies() []any {
	var all []any
	keep := func(answers ...any) { all = append(all, answers...) }
	for _, m := range append(melodies(109, 50), invalidMelodies()...) {
		codes, isZero := melodyCodes(m)
		low, high, code := impl.RangeOf(m)
		read, ok := impl.ReadMelody(impl.MelodyText(m))
		keep(codes, isZero, low, high, code, read, ok, impl.ValidMelody(m), impl.SameMelody(m, read), impl.MelodyText(m), useMelodies(m, sameNotes(3, 2, 9)))
		pitches, numbers := useMelodyNumbers(m)
		keep(pitches, numbers)
	}
	for _, text := range oddTexts {
		read, ok := impl.ReadMelody(text)
		keep(read, ok)
	}
	return all
}

func TestMelodiesReturnEqualResults(t *testing.T) {
	first := answersOfMelodies()
	for range 5 {
		if !reflect.DeepEqual(answersOfMelodies(), first) {
			t.Error("equal arguments, other results")
		}
	}
}

// useMelodies calls all functions of chapter 9 that return melodies, and returns these.
func useMelodies(a, b []impl.Note) [][]impl.Note {
	var all [][]impl.Note
	keep := func(m []impl.Note, _ int64) { all = append(all, m) }
	keep(impl.TransposeMelody(a, 0))
	keep(impl.TransposeMelody(a, 3))
	keep(impl.MirrorMelody(a, 4))
	keep(impl.ReverseMelody(a))
	keep(impl.StretchMelody(a, 1, 1))
	keep(impl.StretchMelody(a, 2, 1))
	keep(impl.JoinMelodies(a, b))
	keep(impl.JoinMelodies(a, nil))
	keep(impl.JoinMelodies(nil, a))
	keep(impl.CutMelody(a, 0, 1))
	keep(impl.CutMelody(a, 1, 4))
	duration, _ := impl.DurationOf(a)
	keep(impl.CutMelody(a, 0, duration))
	keep(impl.TieMelody(a))
	read, _ := impl.ReadMelody(impl.MelodyText(a))
	return append(all, read)
}

// useMelodyNumbers calls the other functions of chapter 9, and returns the lists and numbers that they return.
func useMelodyNumbers(m []impl.Note) ([][]int64, []int64) {
	impl.ValidMelody(m)
	impl.SameMelody(m, m)
	pitches, _ := impl.PitchesOf(m)
	contour, _ := impl.ContourOf(m)
	duration, _ := impl.DurationOf(m)
	low, high, _ := impl.RangeOf(m)
	pitch, _ := impl.PitchAt(m, 3)
	return [][]int64{pitches, contour}, []int64{duration, low, high, pitch}
}

// spareNotes returns a melody with the same notes and others behind them in its capacity, and all of its memory.
func spareNotes(m []impl.Note) ([]impl.Note, []impl.Note) {
	whole := append(slices.Clone(m), note(91, 92), note(1, 2), note(0, 1))
	return whole[:len(m)], whole
}

func TestMelodiesModifyNoArgument(t *testing.T) {
	for _, m := range append(melodies(110, 30), invalidMelodies()...) {
		for _, other := range [][]impl.Note{nil, m, sameNotes(2, 5, 6)} {
			a, wholeA := spareNotes(m)
			b, wholeB := spareNotes(other)
			beforeA, beforeB := slices.Clone(wholeA), slices.Clone(wholeB)
			useMelodies(a, b)
			useMelodies(b, a)
			useMelodyNumbers(a)
			if !slices.Equal(wholeA, beforeA) || !slices.Equal(wholeB, beforeB) {
				t.Fatalf("the memory of %v and %v was changed: %v, %v", m, other, wholeA, wholeB)
			}
		}
	}
}

// spoilNotes overwrites the memory of a melody.
func spoilNotes(m []impl.Note) {
	for k := range m[:cap(m)] {
		m[:cap(m)][k] = note(99, 99)
	}
}

// TestMelodiesReturnNewMemory spoils one melody or list that was returned after the other, and holds that all others, and the arguments, stay.
func TestMelodiesReturnNewMemory(t *testing.T) {
	for _, m := range melodies(111, 20) {
		a, wholeA := spareNotes(m)
		b, wholeB := spareNotes(melodyFrom("S2 R2 N,7"))
		beforeA, beforeB := slices.Clone(wholeA), slices.Clone(wholeB)
		wanted := useMelodies(a, b)
		lists, _ := useMelodyNumbers(a)
		listsWanted := cloneLists(lists)
		for k := range wanted {
			got := useMelodies(a, b)
			spoilNotes(got[k])
			for h := range got {
				if h != k && !slices.Equal(got[h], wanted[h]) {
					t.Errorf("melody %d shares memory with melody %d", h, k)
				}
			}
			if !slices.Equal(wholeA, beforeA) || !slices.Equal(wholeB, beforeB) {
				t.Fatalf("melody %d shares memory with an argument", k)
			}
		}
		for k := range lists {
			spoil(lists[k])
			again, _ := useMelodyNumbers(a)
			if !slices.EqualFunc(again, listsWanted, slices.Equal[[]int64]) || !slices.Equal(wholeA, beforeA) {
				t.Errorf("list %d shares memory", k)
			}
		}
		if again := useMelodies(a, b); !reflect.DeepEqual(again, wanted) {
			t.Errorf("melodies of %v share memory with later results", m)
		}
	}
}
