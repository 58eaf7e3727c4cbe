package tests

import (
	"math"
	"math/rand"
	"reflect"
	"slices"
	"strconv"
	"strings"
	"testing"

	"loop.example/g01033/impl"
)

// phraseLists are valid lists of phrases: none, some that begin with one another or overlap, and as many and as long ones as there may be.
func phraseLists() [][][]int64 {
	return [][][]int64{
		nil, {}, {{0, 2}}, {{0, 2}, {0, 2, 0}, {0, 4}}, {{0, 0}, {0, 0, 0}, {0, 0, 0, 0}, {0, 0, 0, 0, 0}}, {{-12, 23}, {23, -12}},
		{{-12, -12}, {-12, -12, -12, -12, -12, -12, -12, -12}, {0, 2, 4, 5, 7, 9, 11, 12}, {23, 23}, {23, 23, 23, 23, 23, 23, 23, 23}},
		{{2, 3, 4, 5, 6, 7, 8}, {2, 4}, {10, 0}, {10, 1}}, {{0, 2, 0}, {2, 0, 2}}, {{0, 1}, {1, 2}, {2, 3}, {3, 4}},
		{{-1, 0}, {0, -1}, {0, 0}, {0, 1}, {1, 0}}, twelvePhrases(),
	}
}

// twelvePhrases are phrases that share no pitches.
func twelvePhrases() [][]int64 {
	var list [][]int64
	for k := range int64(12) {
		list = append(list, []int64{2*k - 12, 2*k - 11})
	}
	return list
}

// cloneLists returns lists that share no memory with those of list.
func cloneLists(list [][]int64) [][]int64 {
	list = slices.Clone(list)
	for k := range list {
		list[k] = slices.Clone(list[k])
	}
	return list
}

// noPhrases are lists that are no phrases, for one reason each.
func noPhrases() [][]int64 {
	all := [][]int64{
		nil, {}, {0}, {-12}, {23}, {24}, make([]int64, 9), make([]int64, 64), make([]int64, 5000),
		{24, 0}, {0, 24}, {-13, 0}, {0, -13}, {0, 2, 4, 5, 24, 9, 11, 12}, {0, 2, 4, 5, 7, 9, 11, -13}, {0, 2, 4, 5, 7, 9, 11, 12, 14},
	}
	for _, n := range []int64{math.MinInt64, math.MinInt64 + 36, -37, 36, math.MaxInt64} {
		all = append(all, []int64{n, n}, []int64{0, n, 0})
	}
	return all
}

// invalidPhraseLists are lists of phrases that are not valid.
func invalidPhraseLists() [][][]int64 {
	all := [][][]int64{
		{{0, 2}, {0, 2}}, {{0, 2, 0}, {0, 2}}, {{2, 0}, {0, 2}}, {{0, 2}, {0, 4}, {0, 3}}, {{0, 4}, {0, 2}, {0, 5}}, {{0, 1}, {0, 0, 5}}, {{0, -1}, {-1, 0}},
		append(twelvePhrases(), []int64{12, 13}), make([][]int64, 12), make([][]int64, 5000), append([][]int64{{0, 0}}, twelvePhrases()[3:]...),
	}
	for _, phrase := range noPhrases() {
		all = append(all, [][]int64{phrase}, [][]int64{phrase, {0, 2}}, [][]int64{{-12, -12}, phrase}, [][]int64{{-12, -12}, phrase, {23, 23}})
	}
	return all
}

// noPitches are lists that are not at most 64 pitches.
func noPitches() [][]int64 {
	all := [][]int64{make([]int64, 65), make([]int64, 5000), append(make([]int64, 63), 24), append(make([]int64, 64), 24)}
	for _, n := range numbersAround {
		if n < -12 || n > 23 {
			all = append(all, []int64{n}, []int64{n, 0, 2}, []int64{0, n, 2}, []int64{0, 2, 0, n})
		}
	}
	return all
}

// isTurnList is what the document calls a phrase.
func isTurnList(list []int64) bool {
	return len(list) >= 2 && len(list) <= 8 && slices.Min(list) >= -12 && slices.Max(list) <= 23
}

// arePhraseList is what the document calls valid phrases.
func arePhraseList(list [][]int64) bool {
	for k, phrase := range list {
		if k >= 12 || !isTurnList(phrase) || k > 0 && !isBefore(list[k-1], phrase) {
			return false
		}
	}
	return true
}

// isBefore tells whether a list is lexicographically less than another one.
func isBefore(a, b []int64) bool {
	for k := range b {
		if k == len(a) || a[k] < b[k] {
			return true
		}
		if a[k] > b[k] {
			return false
		}
	}
	return false
}

// listsOver returns all lists of at most most of some numbers.
func listsOver(numbers []int64, most int) [][]int64 {
	all := [][]int64{{}}
	for from := 0; len(all[from]) < most; from++ {
		for _, n := range numbers {
			all = append(all, append(slices.Clone(all[from]), n))
		}
	}
	return all
}

// drawList draws a list of count numbers out of some.
func drawList(draw *rand.Rand, numbers []int64, count int) []int64 {
	list := []int64{}
	for range count {
		list = append(list, numbers[draw.Intn(len(numbers))])
	}
	return list
}

// drawPhrases draws at most most phrases, half of them out of pitches, so that some occur.
func drawPhrases(draw *rand.Rand, numbers, pitches []int64, most int) [][]int64 {
	var list [][]int64
	for range draw.Intn(most + 1) {
		length := 2 + draw.Intn(7)
		if from := draw.Intn(65); from+length <= len(pitches) {
			list = append(list, slices.Clone(pitches[from:from+length]))
		} else {
			list = append(list, drawList(draw, numbers, 2+draw.Intn(3)))
		}
	}
	slices.SortFunc(list, slices.Compare[[]int64])
	return slices.CompactFunc(list, slices.Equal[[]int64])
}

// drawnNumbers are few numbers, so that phrases overlap, or all pitches.
func drawnNumbers(draw *rand.Rand) []int64 {
	all, numbers := allPitches(), []int64{}
	for _, k := range draw.Perm(36)[:[]int{1, 2, 2, 3, 5, 36}[draw.Intn(6)]] {
		numbers = append(numbers, all[k])
	}
	return numbers
}

// occurrences are the indices at which the pitches of a phrase stand.
func occurrences(pitches, phrase []int64) []int64 {
	all := []int64{}
	for k := range pitches {
		if k+len(phrase) <= len(pitches) && slices.Equal(pitches[k:k+len(phrase)], phrase) {
			all = append(all, int64(k))
		}
	}
	return all
}

// covered are the indices that belong to an occurrence of one of some phrases.
func covered(pitches []int64, list [][]int64) []int64 {
	belongs := map[int64]bool{}
	for _, phrase := range list {
		for _, at := range occurrences(pitches, phrase) {
			for k := range int64(len(phrase)) {
				belongs[at+k] = true
			}
		}
	}
	all := []int64{}
	for k := range int64(len(pitches)) {
		if belongs[k] {
			all = append(all, k)
		}
	}
	return all
}

func TestPhraseConstants(t *testing.T) {
	got := []int64{impl.MaxPhrases, impl.MinTurn, impl.MaxTurn}
	if want := []int64{12, 2, 8}; !slices.Equal(got, want) {
		t.Errorf("constants: got %v, want %v", got, want)
	}
}

func TestValidPhrases(t *testing.T) {
	for _, list := range phraseLists() {
		if !impl.ValidPhrases(list) {
			t.Errorf("ValidPhrases(%v) = false", list)
		}
	}
	for _, list := range invalidPhraseLists() {
		if impl.ValidPhrases(list) {
			t.Errorf("ValidPhrases(%v) = true", list)
		}
	}
}

// TestValidPhrasesAsWritten tries all short lists in pairs, and each number at each place of a phrase.
func TestValidPhrasesAsWritten(t *testing.T) {
	short := listsOver([]int64{-12, 0, 23, 24}, 3)
	for _, a := range short {
		for _, b := range short {
			list := [][]int64{a, b}
			if got, want := impl.ValidPhrases(list), arePhraseList(list); got != want {
				t.Errorf("ValidPhrases(%v) = %v", list, got)
			}
		}
	}
	for _, n := range numbersAround {
		for length := range 10 {
			for k := range length {
				phrase := make([]int64, length)
				phrase[k] = n
				if got, want := impl.ValidPhrases([][]int64{phrase}), isTurnList(phrase); got != want {
					t.Errorf("ValidPhrases of %v = %v", phrase, got)
				}
			}
		}
	}
}

func TestPhraseFits(t *testing.T) {
	cases := []struct {
		text   string
		phrase []int64
		want   bool
	}{
		{bhupaliText, []int64{0, 2, 4}, true},
		{bhupaliText, []int64{0, 5}, false},
		{bhupaliText, []int64{5, 0}, false},
		{bhupaliText, []int64{0, 0}, true},
		{bhupaliText, []int64{0, 12}, true},
		{bhupaliText, []int64{0, 14}, false},
		{bhupaliText, []int64{0, 2, 4, 7, 9, 12, 14, 16}, true},
		{bhupaliText, []int64{0, 2, 4, 7, 9, 12, 14, 17}, false},
		{bhupaliText, []int64{0, 2, 4, 7, 9, 12, 14, 16, 19}, false},
		{bhupaliText, []int64{0}, false},
		{bhupaliText, nil, false},
		{bhupaliText, []int64{0, 24}, false},
		{bhupaliText, []int64{0, -13}, false},
		{deshText, []int64{2, 4}, false},
		{deshText, []int64{5, 4}, true},
		{deshText, []int64{5, 4, 2}, false},
		{deshText, []int64{10, 7}, true},
		{deshText, []int64{11, 12}, true},
		{deshText, []int64{12, 11}, false},
	}
	for _, c := range cases {
		if got := impl.PhraseFits(ragaOf(c.text), c.phrase); got != c.want {
			t.Errorf("PhraseFits(%s, %v) = %v", c.text, c.phrase, got)
		}
	}
	for _, r := range invalidRagas() {
		if impl.PhraseFits(r, []int64{0, 2}) || impl.PhraseFits(r, nil) || impl.PhraseFits(r, []int64{0, 24}) {
			t.Errorf("PhraseFits(%v) = true", r)
		}
	}
	for _, phrase := range noPhrases() {
		if impl.PhraseFits(ragaOf("full SrRgGmMPdDnN SrRgGmMPdDnN SN"), phrase) {
			t.Errorf("PhraseFits(full, %v) = true", phrase)
		}
	}
}

// TestPhrasesFitWithoutWrongMoves holds drawn walks, some of them disturbed, against the reasons of all their moves.
func TestPhrasesFitWithoutWrongMoves(t *testing.T) {
	draw := rand.New(rand.NewSource(21))
	count := map[bool]int{}
	for _, r := range slices.Concat(namedRagas(), drawnRagas(100)) {
		for range 20 {
			phrase := walk(draw, r, 1+draw.Intn(9))
			if draw.Intn(2) == 0 {
				phrase[draw.Intn(len(phrase))] = int64(draw.Intn(36) - 12)
			}
			want := isTurnList(phrase)
			for k := range len(phrase) - 1 {
				want = want && reasonAsWritten(r, phrase[k], phrase[k+1]) == 0
			}
			count[want]++
			if got := impl.PhraseFits(r, phrase); got != want {
				t.Errorf("PhraseFits(%v, %v) = %v", r, phrase, got)
			}
		}
	}
	if count[true] < 500 || count[false] < 500 {
		t.Errorf("phrases that fit and others: %v", count)
	}
}

func TestFindPhraseAndCountApart(t *testing.T) {
	zeros := make([]int64, 64)
	cases := []struct {
		pitches, phrase, want []int64
		apart                 int64
	}{
		{[]int64{0, 2, 0, 2, 0, 4}, []int64{0, 2, 0}, []int64{0, 2}, 1},
		{[]int64{0, 2, 0, 2, 0, 2, 0}, []int64{0, 2, 0}, []int64{0, 2, 4}, 2},
		{[]int64{0, 2, 0, 0, 2, 0}, []int64{0, 2, 0}, []int64{0, 3}, 2},
		{[]int64{0, 2, 0, 2, 0, 0, 2, 0}, []int64{0, 2, 0}, []int64{0, 2, 5}, 2},
		{nil, []int64{0, 2}, nil, 0},
		{[]int64{}, []int64{0, 2}, nil, 0},
		{[]int64{0}, []int64{0, 2}, nil, 0},
		{[]int64{0, 2}, []int64{0, 2}, []int64{0}, 1},
		{[]int64{2, 0}, []int64{0, 2}, nil, 0},
		{[]int64{0, 2}, []int64{0, 2, 0}, nil, 0},
		{[]int64{0, 14}, []int64{0, 2}, nil, 0},
		{[]int64{0, 0, 0, 0, 0}, []int64{0, 0}, []int64{0, 1, 2, 3}, 2},
		{[]int64{0, 0, 0, 0, 0}, []int64{0, 0, 0}, []int64{0, 1, 2}, 1},
		{[]int64{0, 0, 2, 0, 0, 0, 2}, []int64{0, 0, 2}, []int64{0, 4}, 2},
		{[]int64{0, 0, 0, 2}, []int64{0, 0, 2}, []int64{1}, 1},
		{[]int64{0, 2, 0, 0, 2, 0, 2, 0, 0, 2, 0, 0, 2}, []int64{0, 2, 0, 0, 2}, []int64{0, 5, 8}, 2},
		{[]int64{-12, 23, -12, 23}, []int64{-12, 23}, []int64{0, 2}, 2},
		{append(zeros[:62:62], 1, 2), []int64{1, 2}, []int64{62}, 1},
		{append(zeros[:56:56], 1, 2, 3, 4, 5, 6, 7, 8), []int64{1, 2, 3, 4, 5, 6, 7, 8}, []int64{56}, 1},
		{append([]int64{1, 2, 3, 4, 5, 6, 7, 8}, zeros[:56]...), []int64{1, 2, 3, 4, 5, 6, 7, 8}, []int64{0}, 1},
		{zeros[:8], zeros[:8], []int64{0}, 1},
		{zeros[:15], zeros[:8], []int64{0, 1, 2, 3, 4, 5, 6, 7}, 1},
		{zeros[:16], zeros[:8], []int64{0, 1, 2, 3, 4, 5, 6, 7, 8}, 2},
	}
	for _, c := range cases {
		got, code := impl.FindPhrase(c.pitches, c.phrase)
		apart, apartCode := impl.CountApart(c.pitches, c.phrase)
		if !slices.Equal(got, c.want) || code != impl.OK || apart != c.apart || apartCode != impl.OK {
			t.Errorf("%v in %v: %v, %d, %d, %d, want %v, %d", c.phrase, c.pitches, got, code, apart, apartCode, c.want, c.apart)
		}
	}
}

// checkOccurrences holds what is found of a phrase against trying all places, and returns how many occurrences overlap.
func checkOccurrences(t *testing.T, pitches, phrase []int64) int64 {
	t.Helper()
	want, apart := occurrences(pitches, phrase), int64(0)
	for from := 0; from+len(phrase) <= len(pitches); from++ {
		if slices.Equal(pitches[from:from+len(phrase)], phrase) {
			apart++
			from += len(phrase) - 1
		}
	}
	if got, code := impl.FindPhrase(pitches, phrase); !slices.Equal(got, want) || code != impl.OK {
		t.Errorf("FindPhrase(%v, %v) = %v, %d, want %v", pitches, phrase, got, code, want)
	}
	if got, code := impl.CountApart(pitches, phrase); got != apart || code != impl.OK {
		t.Errorf("CountApart(%v, %v) = %d, %d, want %d", pitches, phrase, got, code, apart)
	}
	return int64(len(want)) - apart
}

// TestPhrasesStandWhereTheyAreFound is the first half of promise 7.
func TestPhrasesStandWhereTheyAreFound(t *testing.T) {
	for _, numbers := range [][]int64{{0, 2}, {-12, 23}} {
		for _, phrase := range listsOver(numbers, 6) {
			for _, pitches := range listsOver(numbers, 9) {
				if len(phrase) >= 2 {
					checkOccurrences(t, pitches, phrase)
				}
			}
		}
	}
	draw := rand.New(rand.NewSource(22))
	overlapping := 0
	for range 4000 {
		numbers := drawnNumbers(draw)
		pitches := drawList(draw, numbers, draw.Intn(65))
		for _, phrase := range drawPhrases(draw, numbers, pitches, 6) {
			if checkOccurrences(t, pitches, phrase) > 0 {
				overlapping++
			}
		}
	}
	if overlapping < 500 {
		t.Errorf("only %d phrases overlap", overlapping)
	}
}

func TestBorderOf(t *testing.T) {
	cases := []struct {
		phrase []int64
		want   int64
	}{
		{[]int64{0, 2, 0}, 1}, {[]int64{0, 2}, 0}, {[]int64{0, 0}, 1}, {[]int64{0, 0, 0}, 2}, {make([]int64, 8), 7}, {[]int64{0, 12}, 0},
		{[]int64{0, 2, 0, 2}, 2}, {[]int64{0, 2, 0, 2, 0}, 3}, {[]int64{0, 2, 4, 0, 2}, 2}, {[]int64{0, 0, 2, 0, 0}, 2}, {[]int64{0, 0, 2, 0}, 1},
		{[]int64{0, 2, 0, 0, 2, 0, 2, 0}, 3}, {[]int64{0, 0, 2, 0, 0, 0, 2, 0}, 4}, {[]int64{0, 2, 2, 0, 2, 2, 0, 2}, 5}, {[]int64{0, 2, 4, 5, 7, 9, 11, 12}, 0},
		{[]int64{-12, 23, -12}, 1}, {[]int64{23, -12, 23, -12, 23, -12, 23, -12}, 6}, {[]int64{0, 0, 0, 2, 0, 0, 0, 0}, 3}, {[]int64{2, 0}, 0},
	}
	for _, c := range cases {
		if got, code := impl.BorderOf(c.phrase); got != c.want || code != impl.OK {
			t.Errorf("BorderOf(%v) = %d, %d, want %d", c.phrase, got, code, c.want)
		}
	}
	for _, phrase := range listsOver([]int64{-1, 0, 1}, 8) {
		if len(phrase) < 2 {
			continue
		}
		want := int64(0)
		for k := range phrase {
			if slices.Equal(phrase[:k], phrase[len(phrase)-k:]) {
				want = int64(k)
			}
		}
		if got, code := impl.BorderOf(phrase); got != want || code != impl.OK {
			t.Errorf("BorderOf(%v) = %d, %d, want %d", phrase, got, code, want)
		}
	}
}

func TestCommonPhrase(t *testing.T) {
	up := []int64{0, 1, 2, 3, 4, 5, 6, 7, 8, 9, 10, 11, 12}
	cases := []struct{ a, b, want []int64 }{
		{[]int64{0, 2, 0, 2, 0, 4}, []int64{2, 0, 4, 7}, []int64{2, 0, 4}},
		{[]int64{1}, []int64{2}, nil},
		{nil, nil, nil},
		{nil, []int64{0, 2}, nil},
		{[]int64{0, 2}, nil, nil},
		{[]int64{1}, []int64{1}, []int64{1}},
		{[]int64{5, 4, -3}, []int64{-3, 9, 4, 9, 5}, []int64{-3}},
		{[]int64{4, 5}, []int64{5, 4}, []int64{4}},
		{[]int64{0}, []int64{-12}, nil},
		{[]int64{0, 2}, []int64{12, 14}, nil},
		{[]int64{7, 9, 0, 2, 4}, []int64{7, 9, 1, 2, 4}, []int64{2, 4}},
		{[]int64{2, 4, 1, 7, 9}, []int64{7, 9, 0, 2, 4}, []int64{2, 4}},
		{[]int64{0, -1, 3, 0, 1}, []int64{0, 1, 0, -1}, []int64{0, -1}},
		{[]int64{0, -5, 3, 0, 1, 2}, []int64{0, 1, 2, 0, -5}, []int64{0, 1, 2}},
		{up, up, up[:8]},
		{up[1:], up, up[1:9]},
		{up[:7], up, up[:7]},
		{up, up[3:10], up[3:10]},
		{up[:8], up[:8], up[:8]},
		{append([]int64{9}, up[:9]...), append(slices.Clone(up[:9]), up...), up[:8]},
		{make([]int64, 64), make([]int64, 64), make([]int64, 8)},
		{make([]int64, 64), make([]int64, 5), make([]int64, 5)},
	}
	for _, c := range cases {
		if got, code := impl.CommonPhrase(c.a, c.b); !slices.Equal(got, c.want) || code != impl.OK {
			t.Errorf("CommonPhrase(%v, %v) = %v, %d, want %v", c.a, c.b, got, code, c.want)
		}
	}
}

// checkCommon holds the longest common part against all parts of a, and returns its length.
func checkCommon(t *testing.T, a, b []int64) int {
	t.Helper()
	best := []int64{}
	for from := range a {
		for until := from + 1; until <= min(from+8, len(a)); until++ {
			p := a[from:until]
			if len(occurrences(b, p)) > 0 && (len(p) > len(best) || len(p) == len(best) && isBefore(p, best)) {
				best = p
			}
		}
	}
	if got, code := impl.CommonPhrase(a, b); !slices.Equal(got, best) || code != impl.OK {
		t.Errorf("CommonPhrase(%v, %v) = %v, %d, want %v", a, b, got, code, best)
	}
	return len(best)
}

func TestCommonPhraseIsTheLongest(t *testing.T) {
	short := listsOver([]int64{-1, 0, 2}, 4)
	for _, a := range short {
		for _, b := range short {
			checkCommon(t, a, b)
		}
	}
	draw := rand.New(rand.NewSource(23))
	var lengths [9]int
	for range 3000 {
		numbers := drawnNumbers(draw)
		lengths[checkCommon(t, drawList(draw, numbers, draw.Intn(65)), drawList(draw, numbers, draw.Intn(65)))]++
	}
	for length, count := range lengths {
		if count < 20 {
			t.Errorf("length %d: only %d lists", length, count)
		}
	}
}

func TestFrequentPhrase(t *testing.T) {
	cases := []struct {
		pitches []int64
		length  int64
		want    []int64
		many    int64
		code    int64
	}{
		{[]int64{0, 2, 0, 2, 0, 4}, 2, []int64{0, 2}, 2, impl.OK},
		{[]int64{0, 2, 0, 2, 0, 4}, 3, []int64{0, 2, 0}, 2, impl.OK},
		{[]int64{2, 0, 2, 0}, 2, []int64{2, 0}, 2, impl.OK},
		{[]int64{2, 0, 2, 0, 2}, 2, []int64{0, 2}, 2, impl.OK},
		{[]int64{0, 0, 0}, 2, []int64{0, 0}, 2, impl.OK},
		{[]int64{4, 4, 4, 4, 0, 2, 0, 2}, 2, []int64{4, 4}, 3, impl.OK},
		{[]int64{4, 4, 0, 2}, 2, []int64{0, 2}, 1, impl.OK},
		{[]int64{5, 4, 4, -1, -2}, 2, []int64{-1, -2}, 1, impl.OK},
		{[]int64{-1, -2, -2}, 2, []int64{-2, -2}, 1, impl.OK},
		{[]int64{0, 2}, 2, []int64{0, 2}, 1, impl.OK},
		{make([]int64, 8), 8, make([]int64, 8), 1, impl.OK},
		{make([]int64, 64), 8, make([]int64, 8), 57, impl.OK},
		{make([]int64, 64), 2, make([]int64, 2), 63, impl.OK},
		{[]int64{0}, 2, nil, 0, impl.ErrNotFound},
		{nil, 2, nil, 0, impl.ErrNotFound},
		{make([]int64, 7), 8, nil, 0, impl.ErrNotFound},
		{make([]int64, 3), 4, nil, 0, impl.ErrNotFound},
		{make([]int64, 8), 9, nil, 0, impl.ErrRange},
		{make([]int64, 9), 9, nil, 0, impl.ErrRange},
		{make([]int64, 8), 1, nil, 0, impl.ErrRange},
		{make([]int64, 8), 0, nil, 0, impl.ErrRange},
		{make([]int64, 8), -2, nil, 0, impl.ErrRange},
		{nil, 1, nil, 0, impl.ErrRange},
		{nil, 9, nil, 0, impl.ErrRange},
		{nil, math.MaxInt64, nil, 0, impl.ErrRange},
		{[]int64{0, 2, 4}, math.MinInt64, nil, 0, impl.ErrRange},
		{[]int64{24}, 9, nil, 0, impl.ErrOrder},
		{[]int64{24}, 2, nil, 0, impl.ErrOrder},
		{make([]int64, 65), 2, nil, 0, impl.ErrOrder},
	}
	for _, c := range cases {
		got, many, code := impl.FrequentPhrase(c.pitches, c.length)
		if !slices.Equal(got, c.want) || many != c.many || code != c.code {
			t.Errorf("FrequentPhrase(%v, %d) = %v, %d, %d, want %v, %d, %d", c.pitches, c.length, got, many, code, c.want, c.many, c.code)
		}
	}
}

// checkFrequent holds the most frequent phrase against all that stand in pitches.
func checkFrequent(t *testing.T, pitches []int64, length int) {
	t.Helper()
	var best []int64
	for from := range len(pitches) - length + 1 {
		p := pitches[from : from+length]
		many, most := len(occurrences(pitches, p)), len(occurrences(pitches, best))
		if best == nil || many > most || many == most && isBefore(p, best) {
			best = p
		}
	}
	got, many, code := impl.FrequentPhrase(pitches, int64(length))
	if !slices.Equal(got, best) || int(many) != len(occurrences(pitches, best)) || code != impl.OK {
		t.Errorf("FrequentPhrase(%v, %d) = %v, %d, %d, want %v", pitches, length, got, many, code, best)
	}
	if places, _ := impl.FindPhrase(pitches, got); int64(len(places)) != many {
		t.Errorf("FrequentPhrase(%v, %d) = %v, %d, but it occurs at %v", pitches, length, got, many, places)
	}
}

func TestNoPhraseIsMoreFrequent(t *testing.T) {
	for _, pitches := range listsOver([]int64{-1, 0, 2}, 6) {
		for length := 2; length <= len(pitches); length++ {
			checkFrequent(t, pitches, length)
		}
	}
	draw := rand.New(rand.NewSource(24))
	for range 1000 {
		pitches := drawList(draw, drawnNumbers(draw), 2+draw.Intn(63))
		checkFrequent(t, pitches, 2+draw.Intn(min(7, len(pitches)-1)))
	}
}

func TestCoveredBy(t *testing.T) {
	zeros := make([]int64, 64)
	every := []int64{}
	for k := range int64(64) {
		every = append(every, k)
	}
	cases := []struct {
		pitches []int64
		list    [][]int64
		want    []int64
	}{
		{[]int64{0, 2, 0, 2, 0, 4}, [][]int64{{0, 2}, {0, 2, 0}, {0, 4}}, []int64{0, 1, 2, 3, 4, 5}},
		{[]int64{0, 2, 0, 2, 0, 4}, [][]int64{{0, 2}}, []int64{0, 1, 2, 3}},
		{[]int64{0, 2, 0, 2, 0, 4}, [][]int64{{2, 0}}, []int64{1, 2, 3, 4}},
		{[]int64{0, 2, 0, 2, 0, 4}, [][]int64{{0, 2, 0}}, []int64{0, 1, 2, 3, 4}},
		{[]int64{0, 2, 0, 2, 0, 4}, [][]int64{{0, 4}, {4, 0}}, []int64{4, 5}},
		{[]int64{0, 2, 0, 2, 0, 4}, nil, nil},
		{[]int64{0, 2, 0, 2, 0, 4}, [][]int64{{5, 7}}, nil},
		{nil, [][]int64{{0, 2}}, nil},
		{nil, nil, nil},
		{[]int64{0}, [][]int64{{0, 0}}, nil},
		{zeros, [][]int64{{0, 0}}, every},
		{zeros, [][]int64{zeros[:8]}, every},
		{append(zeros[:62:62], 1, 2), [][]int64{{1, 2}}, []int64{62, 63}},
		{append(zeros[:56:56], 1, 2, 3, 4, 5, 6, 7, 8), [][]int64{{1, 2, 3, 4, 5, 6, 7, 8}}, every[56:]},
		{append(zeros[:56:56], 1, 2, 3, 4, 5, 6, 7, 8), [][]int64{{0, 1}, {2, 3}, {7, 8}}, []int64{55, 56, 57, 58, 62, 63}},
	}
	for _, c := range cases {
		if got, code := impl.CoveredBy(c.pitches, c.list); !slices.Equal(got, c.want) || code != impl.OK {
			t.Errorf("CoveredBy(%v, %v) = %v, %d, want %v", c.pitches, c.list, got, code, c.want)
		}
	}
}

func TestMovePhrase(t *testing.T) {
	cases := []struct {
		phrase []int64
		by     int64
		want   []int64
		code   int64
	}{
		{[]int64{0, 2}, 12, []int64{12, 14}, impl.OK},
		{[]int64{0, 2}, 0, []int64{0, 2}, impl.OK},
		{[]int64{0, 2}, 21, []int64{21, 23}, impl.OK},
		{[]int64{0, 2}, 22, nil, impl.ErrRange},
		{[]int64{0, 2}, 23, nil, impl.ErrRange},
		{[]int64{2, 0}, 22, nil, impl.ErrRange},
		{[]int64{0, 2}, -12, []int64{-12, -10}, impl.OK},
		{[]int64{0, 2}, -13, nil, impl.ErrRange},
		{[]int64{2, 0}, -13, nil, impl.ErrRange},
		{[]int64{-12, -12}, 35, []int64{23, 23}, impl.OK},
		{[]int64{-12, -12}, 36, nil, impl.ErrRange},
		{[]int64{23, 23}, -35, []int64{-12, -12}, impl.OK},
		{[]int64{23, 23}, -36, nil, impl.ErrRange},
		{[]int64{-12, 23}, 0, []int64{-12, 23}, impl.OK},
		{[]int64{-12, 23}, 1, nil, impl.ErrRange},
		{[]int64{-12, 23}, -1, nil, impl.ErrRange},
		{[]int64{0, 2, 4, 5, 7, 9, 11, 12}, 11, []int64{11, 13, 15, 16, 18, 20, 22, 23}, impl.OK},
		{[]int64{0, 2, 4, 5, 7, 9, 11, 12}, 12, nil, impl.ErrRange},
	}
	for _, c := range cases {
		if got, code := impl.MovePhrase(c.phrase, c.by); !slices.Equal(got, c.want) || code != c.code {
			t.Errorf("MovePhrase(%v, %d) = %v, %d, want %v, %d", c.phrase, c.by, got, code, c.want, c.code)
		}
	}
	for _, by := range slices.Concat(numbersAround, []int64{37, -37, 1 << 32, -1 << 32, math.MaxInt64 - 23, math.MinInt64 + 24}) {
		for low := int64(-12); low <= 23; low++ {
			for high := low; high <= 23; high++ {
				var want []int64
				// Compared without a sum, which could overflow.
				if by >= -12-low && by <= 23-high {
					want = []int64{high + by, low + by}
				}
				got, code := impl.MovePhrase([]int64{high, low}, by)
				if !slices.Equal(got, want) || (code == impl.OK) != (want != nil) || want == nil && code != impl.ErrRange {
					t.Errorf("MovePhrase(%d, %d; %d) = %v, %d", high, low, by, got, code)
				}
			}
		}
	}
}

// setsAsWritten returns all sets of some of count indices in the order of the document.
func setsAsWritten(count int) [][]int64 {
	var all [][]int64
	for bits := range 1 << count {
		set := []int64{}
		for k := range count {
			if bits>>k&1 == 1 {
				set = append(set, int64(k))
			}
		}
		all = append(all, set)
	}
	slices.SortFunc(all, func(a, b []int64) int {
		if len(a) != len(b) {
			return len(a) - len(b)
		}
		return slices.Compare(a, b)
	})
	return all
}

// checkFewest holds the fewest phrases against trying all sets, also with the budgets at which they are just found, and returns the nodes.
func checkFewest(t *testing.T, pitches []int64, list [][]int64) int64 {
	t.Helper()
	goal := covered(pitches, list)
	if got, code := impl.CoveredBy(pitches, list); !slices.Equal(got, goal) || code != impl.OK {
		t.Errorf("CoveredBy(%v, %v) = %v, %d, want %v", pitches, list, got, code, goal)
	}
	nodes, want := int64(0), []int64{}
	for _, want = range setsAsWritten(len(list)) {
		nodes++
		if len(covered(pitches, phrasesAt(list, want))) == len(goal) {
			break
		}
	}
	for _, budget := range []int64{nodes, nodes + 1, 20000} {
		if got, code := impl.FewestPhrases(pitches, list, budget); !slices.Equal(got, want) || code != impl.OK {
			t.Errorf("FewestPhrases(%v, %v, %d) = %v, %d, want %v", pitches, list, budget, got, code, want)
		}
	}
	for _, budget := range []int64{1, nodes / 2, nodes - 1} {
		if got, code := impl.FewestPhrases(pitches, list, budget); budget > 0 && budget < nodes && (len(got) != 0 || code != impl.ErrFull) {
			t.Errorf("FewestPhrases(%v, %v, %d) = %v, %d", pitches, list, budget, got, code)
		}
	}
	return nodes
}

// phrasesAt returns the phrases of a list with some indices.
func phrasesAt(list [][]int64, indices []int64) [][]int64 {
	var some [][]int64
	for _, k := range indices {
		some = append(some, list[k])
	}
	return some
}

func TestFewestPhrases(t *testing.T) {
	pitches := []int64{0, 2, 0, 2, 0, 4}
	list := [][]int64{{0, 2}, {0, 2, 0}, {0, 4}}
	all := []int64{}
	for pitch := int64(-12); pitch < 12; pitch++ {
		all = append(all, pitch)
	}
	cases := []struct {
		pitches []int64
		list    [][]int64
		budget  int64
		want    []int64
		code    int64
	}{
		{pitches, list, 100, []int64{0, 2}, impl.OK},
		{pitches, list, 6, []int64{0, 2}, impl.OK},
		{pitches, list, 5, nil, impl.ErrFull},
		{pitches, list, 2, nil, impl.ErrFull},
		{pitches, list, 1, nil, impl.ErrFull},
		{pitches, nil, 1, nil, impl.OK},
		{pitches, [][]int64{{5, 7}, {7, 5}}, 1, nil, impl.OK},
		{nil, list, 1, nil, impl.OK},
		{nil, nil, 1, nil, impl.OK},
		{pitches, [][]int64{{0, 2}, {2, 0, 4}}, 4, []int64{0, 1}, impl.OK},
		{pitches, [][]int64{{0, 2}, {2, 0, 4}}, 3, nil, impl.ErrFull},
		{[]int64{0, 0, 0, 0}, [][]int64{{0, 0}, {0, 0, 0}, {0, 0, 0, 0}}, 2, []int64{0}, impl.OK},
		{[]int64{0, 0, 0, 0, 1}, [][]int64{{0, 0}, {0, 0, 0, 0}, {0, 1}}, 6, []int64{0, 2}, impl.OK},
		{[]int64{0, 1, 2, 3, 4, 5}, [][]int64{{0, 1}, {0, 1, 2, 3}, {1, 2}, {2, 3}, {3, 4, 5}, {4, 5}}, 100, []int64{1, 4}, impl.OK},
		{[]int64{0, 1, 2, 3}, [][]int64{{0, 1}, {0, 1, 2}, {2, 3}, {3, 4}}, 100, []int64{0, 2}, impl.OK},
		{[]int64{0, 1, 2, 3}, [][]int64{{0, 1}, {1, 2, 3}, {2, 3}}, 100, []int64{0, 1}, impl.OK},
		{[]int64{0, 1, 2, 3}, [][]int64{{0, 1, 2, 3, 4}, {0, 1, 2, 3}}, 100, nil, impl.ErrInvalid},
		{all, twelvePhrases(), 4096, []int64{0, 1, 2, 3, 4, 5, 6, 7, 8, 9, 10, 11}, impl.OK},
		{all, twelvePhrases(), 20000, []int64{0, 1, 2, 3, 4, 5, 6, 7, 8, 9, 10, 11}, impl.OK},
		{all, twelvePhrases(), 4095, nil, impl.ErrFull},
		{all[:23], twelvePhrases(), 4095, []int64{0, 1, 2, 3, 4, 5, 6, 7, 8, 9, 10}, impl.OK},
		{pitches, list, 0, nil, impl.ErrRange},
		{pitches, list, 20000, []int64{0, 2}, impl.OK},
		{pitches, list, 20001, nil, impl.ErrRange},
		{nil, nil, 0, nil, impl.ErrRange},
		{nil, nil, 20001, nil, impl.ErrRange},
		{nil, nil, math.MinInt64, nil, impl.ErrRange},
		{nil, nil, math.MaxInt64, nil, impl.ErrRange},
		{pitches, list, -1, nil, impl.ErrRange},
		{[]int64{24}, list, 0, nil, impl.ErrOrder},
		{[]int64{24}, list, 1, nil, impl.ErrOrder},
		{make([]int64, 65), nil, 20001, nil, impl.ErrOrder},
	}
	for _, c := range cases {
		if got, code := impl.FewestPhrases(c.pitches, c.list, c.budget); !slices.Equal(got, c.want) || code != c.code {
			t.Errorf("FewestPhrases(%v, %v, %d) = %v, %d, want %v, %d", c.pitches, c.list, c.budget, got, code, c.want, c.code)
		}
	}
}

// TestFewestPhrasesCoverAsMuchAsAll is the second half of promise 7.
func TestFewestPhrasesCoverAsMuchAsAll(t *testing.T) {
	draw := rand.New(rand.NewSource(25))
	sizes := map[int]int{}
	for k := range 600 {
		numbers := drawnNumbers(draw)
		pitches := drawList(draw, numbers, draw.Intn(65))
		list := drawPhrases(draw, numbers, pitches, []int{7, 7, 7, 12}[k%4])
		checkFewest(t, pitches, list)
		all, _ := impl.CoveredBy(pitches, list)
		set, _ := impl.FewestPhrases(pitches, list, 20000)
		fewest, code := impl.CoveredBy(pitches, phrasesAt(list, set))
		if !slices.Equal(fewest, all) || code != impl.OK {
			t.Errorf("the phrases %v of %v cover %v of %v, not %v", set, list, fewest, pitches, all)
		}
		sizes[len(set)]++
	}
	for size := range 6 {
		if sizes[size] < 20 {
			t.Errorf("only %d sets of %d phrases", sizes[size], size)
		}
	}
}

func TestFewestPhrasesOfShortLists(t *testing.T) {
	short := listsOver([]int64{0, 2}, 4)[3:]
	slices.SortFunc(short, slices.Compare[[]int64])
	draw := rand.New(rand.NewSource(26))
	for _, pitches := range listsOver([]int64{0, 2}, 7) {
		var list [][]int64
		for _, k := range draw.Perm(len(short))[:draw.Intn(6)] {
			list = append(list, short[k])
		}
		slices.SortFunc(list, slices.Compare[[]int64])
		checkFewest(t, pitches, list)
	}
}

// TestInvalidPhrases holds that ErrInvalid comes before all other errors, and ErrOrder behind it.
func TestInvalidPhrases(t *testing.T) {
	lists := append(noPitches(), nil, []int64{0, 2, 0})
	for _, phrase := range noPhrases() {
		border, one := impl.BorderOf(phrase)
		moved, two := impl.MovePhrase(phrase, 0)
		far, three := impl.MovePhrase(phrase, math.MaxInt64)
		if border != 0 || one != impl.ErrInvalid || len(moved)+len(far) != 0 || two != impl.ErrInvalid || three != impl.ErrInvalid {
			t.Errorf("%v: %d, %d, %v, %d, %v, %d", phrase, border, one, moved, two, far, three)
		}
		for _, pitches := range lists {
			places, one := impl.FindPhrase(pitches, phrase)
			apart, two := impl.CountApart(pitches, phrase)
			if len(places) != 0 || one != impl.ErrInvalid || apart != 0 || two != impl.ErrInvalid {
				t.Errorf("%v in %v: %v, %d, %d, %d", phrase, pitches, places, one, apart, two)
			}
		}
	}
	for _, list := range invalidPhraseLists() {
		for _, pitches := range lists {
			places, one := impl.CoveredBy(pitches, list)
			set, two := impl.FewestPhrases(pitches, list, 20000)
			none, three := impl.FewestPhrases(pitches, list, 0)
			if len(places)+len(set)+len(none) != 0 || one != impl.ErrInvalid || two != impl.ErrInvalid || three != impl.ErrInvalid {
				t.Errorf("%v in %v: %v, %d, %v, %d, %v, %d", list, pitches, places, one, set, two, none, three)
			}
		}
		if text := impl.PhrasesText(list); text != "" {
			t.Errorf("PhrasesText(%v) = %q", list, text)
		}
	}
}

func TestPhrasesInNoPitches(t *testing.T) {
	good := []int64{0, 2, 0}
	for _, pitches := range noPitches() {
		places, one := impl.FindPhrase(pitches, good)
		apart, two := impl.CountApart(pitches, good)
		first, three := impl.CommonPhrase(pitches, good)
		second, four := impl.CommonPhrase(good, pitches)
		both, five := impl.CommonPhrase(pitches, pitches)
		frequent, many, six := impl.FrequentPhrase(pitches, 2)
		marked, seven := impl.CoveredBy(pitches, [][]int64{good})
		set, eight := impl.FewestPhrases(pitches, [][]int64{good}, 100)
		none, nine := impl.CommonPhrase(nil, pitches)
		codes := []int64{one, two, three, four, five, six, seven, eight, nine}
		if !slices.Equal(codes, slices.Repeat([]int64{impl.ErrOrder}, len(codes))) {
			t.Errorf("%v: codes %v", pitches, codes)
		}
		if found := slices.Concat(places, first, second, both, frequent, marked, set, none); len(found) != 0 || apart != 0 || many != 0 {
			t.Errorf("%v: found %v, %d, %d", pitches, found, apart, many)
		}
	}
}

func TestPhrasesText(t *testing.T) {
	cases := []struct {
		list [][]int64
		want string
	}{
		{nil, ""},
		{[][]int64{}, ""},
		{[][]int64{{0, 2}}, "0,2"},
		{[][]int64{{0, 2}, {0, 2, 0}, {0, 4}}, "0,2;0,2,0;0,4"},
		{[][]int64{{-12, 23}, {0, -1, 2, 3, 4, 5, 6, 7}}, "-12,23;0,-1,2,3,4,5,6,7"},
		{twelvePhrases(), "-12,-11;-10,-9;-8,-7;-6,-5;-4,-3;-2,-1;0,1;2,3;4,5;6,7;8,9;10,11"},
	}
	for _, c := range cases {
		if got := impl.PhrasesText(c.list); got != c.want {
			t.Errorf("PhrasesText(%v) = %q, want %q", c.list, got, c.want)
		}
	}
	lists := phraseLists()
	draw := rand.New(rand.NewSource(27))
	for range 500 {
		numbers := drawnNumbers(draw)
		lists = append(lists, drawPhrases(draw, numbers, drawList(draw, numbers, 64), 12))
	}
	for _, list := range lists {
		text := impl.PhrasesText(list)
		if want := phrasesAsWritten(list); text != want {
			t.Errorf("PhrasesText(%v) = %q, want %q", list, text, want)
		}
		got, ok := impl.ReadPhrases(text)
		if !ok || !slices.EqualFunc(got, list, slices.Equal[[]int64]) {
			t.Errorf("ReadPhrases(%q) = %v, %v", text, got, ok)
		}
	}
}

// phrasesAsWritten is the text of phrases.
func phrasesAsWritten(list [][]int64) string {
	var texts []string
	for _, phrase := range list {
		var parts []string
		for _, pitch := range phrase {
			parts = append(parts, strconv.FormatInt(pitch, 10))
		}
		texts = append(texts, strings.Join(parts, ","))
	}
	return strings.Join(texts, ";")
}

// phrasesOf reads phrases without the program, and tells whether they have the text.
func phrasesOf(text string) ([][]int64, bool) {
	if text == "" {
		return nil, true
	}
	var list [][]int64
	for _, part := range strings.Split(text, ";") {
		var phrase []int64
		for _, word := range strings.Split(part, ",") {
			n, _ := strconv.ParseInt(word, 10, 64)
			phrase = append(phrase, n)
		}
		list = append(list, phrase)
	}
	if !arePhraseList(list) || phrasesAsWritten(list) != text {
		return nil, false
	}
	return list, true
}

func checkRead(t *testing.T, text string) bool {
	t.Helper()
	want, has := phrasesOf(text)
	got, ok := impl.ReadPhrases(text)
	if ok != has || !slices.EqualFunc(got, want, slices.Equal[[]int64]) || !ok && got != nil {
		t.Errorf("ReadPhrases(%q) = %v, %v", text, got, ok)
	}
	return has
}

func TestReadPhrasesRefuses(t *testing.T) {
	twelve := phrasesAsWritten(twelvePhrases())
	bad := []string{
		";", ";;", "0,2;", ";0,2", "0,2;;0,4", "-;0,2", "0,2;-", "-;-", "0", "0;2", "0,2;0", "0,2,", ",0,2", "0,,2", "0,2;0,2", "0,4;0,2", "0,2,0;0,2",
		"0,2; 0,4", "0,2 ;0,4", " 0,2", "0,2 ", "0 2", "0,+2", "0,02", "-0,2", "0,2\n", "0,2;0,4\n", "0,24", "-13,0", "0,2;0,99", "0.2", "0,2:0,4", "0,2|0,4", "0;2;4",
		"0,2,4,5,7,9,11,12,14", "0,2,4,5,7,9,11,12;0,2,4,5,7,9,11,12,14", twelve + ";12,13", twelve + ";", ";" + twelve, twelve + ";12,13;14,15", twelve + ";-",
		"0,1000000000001", "0,9223372036854775807", "0,18446744073709551616", "S,R", "0,2;R,S", strings.Repeat(";", 5000), strings.Repeat("0,2;", 5000),
		strings.Repeat("0,", 5000) + "0", twelve + strings.Repeat(";12,13", 5000), twelve + strings.Repeat(",12", 5000), twelve + "\x00", "\xff;\xff",
	}
	for _, text := range append(bad, oddTexts...) {
		if list, ok := impl.ReadPhrases(text); text != "" && (list != nil || ok) {
			t.Errorf("ReadPhrases(%q) = %v, %v", text, list, ok)
		}
	}
	if list, ok := impl.ReadPhrases(""); len(list) != 0 || !ok {
		t.Errorf("ReadPhrases of nothing = %v, %v", list, ok)
	}
	if list, ok := impl.ReadPhrases(twelve); len(list) != 12 || !ok {
		t.Errorf("ReadPhrases(%q) = %v, %v", twelve, list, ok)
	}
}

// TestReadPhrasesTakesTextsOfPhrasesOnly tries all short texts, and changes, inserts and removes each byte of others.
func TestReadPhrasesTakesTextsOfPhrasesOnly(t *testing.T) {
	count := map[bool]int{}
	for _, text := range textsOver(";,-012", 7) {
		count[checkRead(t, text)]++
	}
	for _, list := range phraseLists() {
		text := phrasesAsWritten(list)
		for _, edited := range editsOf(text, strings.Split(";,-0129 +\t\xff", "")...) {
			count[checkRead(t, edited)]++
		}
	}
	if count[true] < 500 || count[false] < 500 {
		t.Errorf("texts of phrases and others: %v", count)
	}
}

// answersOfPhrases returns what chapter 6 answers to many arguments.
func answersOfPhrases() []any {
	var all []any
	keep := func(answers ...any) { all = append(all, answers...) }
	draw := rand.New(rand.NewSource(28))
	lists := slices.Concat(phraseLists(), invalidPhraseLists())
	for _, list := range lists {
		pitches := drawList(draw, drawnNumbers(draw), draw.Intn(66))
		marked, one := impl.CoveredBy(pitches, list)
		few, two := impl.FewestPhrases(pitches, list, 20000)
		none, three := impl.FewestPhrases(pitches, list, 3)
		keep(impl.ValidPhrases(list), impl.PhrasesText(list), marked, one, few, two, none, three)
		for _, phrase := range list[:min(12, len(list))] {
			places, one := impl.FindPhrase(pitches, phrase)
			apart, two := impl.CountApart(pitches, phrase)
			border, three := impl.BorderOf(phrase)
			common, four := impl.CommonPhrase(pitches, phrase)
			moved, five := impl.MovePhrase(phrase, 3)
			keep(places, one, apart, two, border, three, common, four, moved, five, impl.PhraseFits(ragaOf(yamanText), phrase))
		}
		for length := range int64(10) {
			frequent, many, code := impl.FrequentPhrase(pitches, length)
			keep(frequent, many, code)
		}
		up := drawList(draw, []int64{0, 2, 4}, 60)
		common, code := impl.CommonPhrase(up, drawList(draw, []int64{0, 2, 4}, 60))
		frequent, many, other := impl.FrequentPhrase(up, 4)
		keep(common, code, frequent, many, other)
	}
	for _, text := range append([]string{"0,2;0,4", "0,2;0", ";"}, oddTexts...) {
		list, ok := impl.ReadPhrases(text)
		keep(list, ok)
	}
	return all
}

func TestPhrasesReturnEqualResults(t *testing.T) {
	first := answersOfPhrases()
	for range 5 {
		if !reflect.DeepEqual(answersOfPhrases(), first) {
			t.Error("equal arguments, other results")
		}
	}
}

// usePhrases calls all functions of chapter 6 that take lists, and returns the lists that they return.
func usePhrases(pitches, phrase []int64, list [][]int64) [][]int64 {
	impl.ValidPhrases(list)
	impl.PhraseFits(ragaOf(yamanText), phrase)
	impl.CountApart(pitches, phrase)
	impl.BorderOf(phrase)
	places, _ := impl.FindPhrase(pitches, phrase)
	common, _ := impl.CommonPhrase(pitches, phrase)
	other, _ := impl.CommonPhrase(phrase, pitches)
	frequent, _, _ := impl.FrequentPhrase(pitches, 2)
	marked, _ := impl.CoveredBy(pitches, list)
	moved, _ := impl.MovePhrase(phrase, 0)
	set, _ := impl.FewestPhrases(pitches, list, 20000)
	read, _ := impl.ReadPhrases(impl.PhrasesText(list))
	return append([][]int64{places, common, other, frequent, marked, moved, set}, read...)
}

func TestPhrasesModifyNoArgument(t *testing.T) {
	for _, list := range slices.Concat(phraseLists(), invalidPhraseLists()) {
		var wholes [][]int64
		room := func(list []int64) []int64 {
			list, whole := spare(list)
			wholes = append(wholes, whole)
			return list
		}
		var own [][]int64
		for _, phrase := range list {
			own = append(own, room(phrase))
		}
		phrases := append(own, room([]int64{81, 82}))
		pitches, phrase := room([]int64{0, 2, 0, 2, 0, 4, 7, 4}), room([]int64{0, 2, 0})
		before, phrasesBefore := cloneLists(wholes), cloneLists(phrases)
		usePhrases(pitches, phrase, phrases[:len(list)])
		for _, phrase := range own {
			usePhrases(phrase, phrase, phrases[:len(list)])
		}
		if !reflect.DeepEqual(wholes, before) || !reflect.DeepEqual(phrases, phrasesBefore) {
			t.Errorf("the memory of %v was changed: %v", before, wholes)
		}
	}
}

// TestPhrasesReturnNewMemory spoils one list that was returned after the other, and holds that all others, and the arguments, stay.
func TestPhrasesReturnNewMemory(t *testing.T) {
	for _, list := range phraseLists() {
		pitches, phrase := []int64{0, 2, 0, 2, 0, 4, 7, 4}, []int64{0, 2, 0}
		pitchesBefore, phraseBefore, listBefore := slices.Clone(pitches), slices.Clone(phrase), cloneLists(list)
		wanted := usePhrases(pitches, phrase, list)
		for k := range wanted {
			lists := usePhrases(pitches, phrase, list)
			before := cloneLists(lists)
			spoil(lists[k])
			for h := range lists {
				if h != k && !slices.Equal(lists[h], before[h]) {
					t.Errorf("list %d shares memory with list %d", h, k)
				}
			}
			if !slices.Equal(pitches, pitchesBefore) || !slices.Equal(phrase, phraseBefore) || !reflect.DeepEqual(list, listBefore) {
				t.Fatalf("list %d shares memory with an argument", k)
			}
			if again := usePhrases(pitches, phrase, list); !reflect.DeepEqual(again, wanted) {
				t.Errorf("list %d shares memory with later results", k)
			}
		}
	}
}
