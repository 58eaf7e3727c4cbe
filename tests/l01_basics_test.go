package tests

import (
	"math"
	"math/big"
	"reflect"
	"regexp"
	"slices"
	"strings"
	"testing"

	"loop.example/g01033/impl"
)

// extremes are numbers at and around every limit of chapter 1.
var extremes = []int64{
	math.MinInt64, math.MinInt64 + 1, -impl.MaxValue - 1, -impl.MaxValue, -impl.MaxValue + 1,
	-1000001, -1000000, -65536, -3, -2, -1, 0, 1, 2, 3, 7, 11, 12, 65535, 65536,
	1000000, 1000001, impl.MaxValue - 1, impl.MaxValue, impl.MaxValue + 1, math.MaxInt64 - 1, math.MaxInt64,
}

// oddTexts are texts that a careless reader could panic on or take.
var oddTexts = []string{
	"", " ", "  ", "-", "--", "+", ",", "-,", ",-", "0", "-0", "00", "a", "\x00", "\xff\xfe", "é", "1\n", "\t1",
	"9223372036854775807", "9223372036854775808", "-9223372036854775808", "-9223372036854775809",
	strings.Repeat("9", 5000), strings.Repeat(",", 5000), strings.Repeat(" ", 5000), strings.Repeat("a", 5000),
}

// textsOver returns all texts of at most most bytes of an alphabet.
func textsOver(alphabet string, most int) []string {
	all := []string{""}
	last := all
	for range most {
		var next []string
		for _, s := range last {
			for k := range len(alphabet) {
				next = append(next, s+alphabet[k:k+1])
			}
		}
		all = append(all, next...)
		last = next
	}
	return all
}

// editsOf returns all beginnings of a text, and the text with each byte removed or replaced, and with others inserted at each place.
func editsOf(text string, others ...string) []string {
	all := []string{text}
	for _, other := range others {
		all = append(all, text+other)
	}
	for k := range len(text) {
		all = append(all, text[:k], text[:k]+text[k+1:])
		for _, other := range others {
			all = append(all, text[:k]+other+text[k:], text[:k]+other+text[k+1:])
		}
	}
	return all
}

func TestConstants(t *testing.T) {
	got := []int64{
		impl.OK, impl.ErrInvalid, impl.ErrRange, impl.ErrNotFound, impl.ErrExists, impl.ErrFull, impl.ErrState,
		impl.ErrOrder, impl.ErrSyntax, impl.ErrFormat, impl.ErrChecksum, impl.ErrTruncated,
		impl.MaxName, impl.MaxList, impl.MaxBudget, impl.MaxValue, impl.CrcStart,
	}
	want := []int64{0, 1, 2, 3, 4, 5, 6, 7, 8, 9, 10, 11, 10, 64, 20000, 1000000000000, 65535}
	if !slices.Equal(got, want) {
		t.Errorf("constants: got %v, want %v", got, want)
	}
}

func TestCodeName(t *testing.T) {
	want := []string{
		"ok", "invalid", "range", "not-found", "exists", "full", "state",
		"order", "syntax", "format", "checksum", "truncated",
	}
	for code, name := range want {
		if got := impl.CodeName(int64(code)); got != name {
			t.Errorf("CodeName(%d) = %q, want %q", code, got, name)
		}
	}
	for _, code := range []int64{math.MinInt64, -12, -1, 12, 13, 256, 1 << 32, math.MaxInt64} {
		if got := impl.CodeName(code); got != "" {
			t.Errorf("CodeName(%d) = %q, want none", code, got)
		}
	}
}

func TestIsName(t *testing.T) {
	good := []string{"a", "z", "a0", "a9", "star7", "bhupali", "abcdefghij", "z999999999"}
	bad := []string{
		"", "0", "9a", "A", "aB", "a b", " a", "a ", "a-b", "a_b", "a\n", "a\x00", "`", "{", "a`", "a{", "a/", "a:",
		"é", "aé", "\xff", "abcdefghijk", strings.Repeat("a", 64),
	}
	for _, s := range good {
		if !impl.IsName(s) {
			t.Errorf("IsName(%q) = false", s)
		}
	}
	for _, s := range bad {
		if impl.IsName(s) {
			t.Errorf("IsName(%q) = true", s)
		}
	}
	pattern := regexp.MustCompile(`^[a-z][a-z0-9]{0,9}\z`)
	for b := range 256 {
		for _, s := range []string{string([]byte{byte(b)}), string([]byte{'a', byte(b)}), string([]byte{byte(b), 'a'})} {
			if got := impl.IsName(s); got != pattern.MatchString(s) {
				t.Errorf("IsName(%q) = %v", s, got)
			}
		}
	}
}

func TestDecimal(t *testing.T) {
	want := map[int64]string{
		0: "0", 7: "7", -7: "-7", 10: "10", -120: "-120", 1000000000000: "1000000000000",
		math.MaxInt64: "9223372036854775807", math.MinInt64: "-9223372036854775808",
	}
	for n, s := range want {
		if got := impl.Decimal(n); got != s {
			t.Errorf("Decimal(%d) = %q", n, got)
		}
	}
}

func TestReadDecimalReadsBack(t *testing.T) {
	numbers := []int64{999999999999999999, -999999999999999999, 100000000000000000, -100000000000000000}
	for n := int64(-1100); n <= 1100; n++ {
		numbers = append(numbers, n)
	}
	for p := int64(1); p < 1e17; p *= 10 {
		numbers = append(numbers, p-1, p, p+1, 1-p, -p, -p-1)
	}
	for _, n := range numbers {
		if got, ok := impl.ReadDecimal(impl.Decimal(n)); got != n || !ok {
			t.Errorf("ReadDecimal(Decimal(%d)) = %d, %v", n, got, ok)
		}
	}
}

func TestReadDecimalRefuses(t *testing.T) {
	bad := []string{
		"", "-", "+", "+1", "-0", "00", "01", "-01", "000", "--1", "1-", "1 ", " 1", "1\n", "\t1", "1a", "a", "0x1",
		"1_000", "1.0", "1e3", "1,", "inf", "\x00", "1\x00", "\xff", "٣", "１",
		"1000000000000000000", "-1000000000000000000", "000000000000000001", "0000000000000000001",
		"9223372036854775807", "-9223372036854775808", "9223372036854775808", strings.Repeat("9", 400),
	}
	for _, s := range bad {
		if n, ok := impl.ReadDecimal(s); n != 0 || ok {
			t.Errorf("ReadDecimal(%q) = %d, %v", s, n, ok)
		}
	}
}

func TestReadDecimalTakesCanonicalTextsOnly(t *testing.T) {
	canonical := regexp.MustCompile(`^(0|-?[1-9][0-9]*)\z`)
	for _, s := range textsOver("-+019, _", 5) {
		n, ok := impl.ReadDecimal(s)
		if ok != canonical.MatchString(s) || ok && impl.Decimal(n) != s || !ok && n != 0 {
			t.Errorf("ReadDecimal(%q) = %d, %v", s, n, ok)
		}
	}
}

func TestSplitWords(t *testing.T) {
	cases := []struct {
		line string
		want []string
	}{
		{"", nil},
		{" ", nil},
		{"    ", nil},
		{"a", []string{"a"}},
		{"a bc", []string{"a", "bc"}},
		{" a  bc ", []string{"a", "bc"}},
		{"a\tb\nc d", []string{"a\tb\nc", "d"}},
		{"a\u00a0b \u2003", []string{"a\u00a0b", "\u2003"}},
		{"\xff \x00", []string{"\xff", "\x00"}},
		{"a,b - 3", []string{"a,b", "-", "3"}},
	}
	for _, c := range cases {
		if got := impl.SplitWords(c.line); !slices.Equal(got, c.want) {
			t.Errorf("SplitWords(%q) = %q, want %q", c.line, got, c.want)
		}
	}
	for _, s := range textsOver("a b\t", 6) {
		words := impl.SplitWords(s)
		if strings.Join(words, "") != strings.ReplaceAll(s, " ", "") || slices.Contains(words, "") {
			t.Errorf("SplitWords(%q) = %q", s, words)
		}
	}
}

func TestListText(t *testing.T) {
	cases := []struct {
		list []int64
		want string
	}{
		{nil, "-"},
		{[]int64{}, "-"},
		{[]int64{0}, "0"},
		{[]int64{-5}, "-5"},
		{[]int64{3, 0, -1}, "3,0,-1"},
		{[]int64{2, 2, 1}, "2,2,1"},
		{[]int64{impl.MaxValue, -impl.MaxValue}, "1000000000000,-1000000000000"},
		{[]int64{impl.MaxValue + 1}, ""},
		{[]int64{1, -impl.MaxValue - 1, 2}, ""},
		{[]int64{1, 2, math.MaxInt64}, ""},
		{[]int64{math.MinInt64}, ""},
		{make([]int64, impl.MaxList), "0" + strings.Repeat(",0", 63)},
		{make([]int64, impl.MaxList+1), ""},
		{make([]int64, 1000), ""},
	}
	for _, c := range cases {
		if got := impl.ListText(c.list); got != c.want {
			t.Errorf("ListText(%v) = %q, want %q", c.list, got, c.want)
		}
	}
}

func TestReadListReadsBack(t *testing.T) {
	lists := [][]int64{nil, {0}, {-1}, {3, 0, -1}, {impl.MaxValue, -impl.MaxValue}, {5, 5, 5}, slices.Repeat([]int64{-impl.MaxValue}, impl.MaxList)}
	for n := range int64(impl.MaxList) {
		list := make([]int64, 0, n)
		for k := range n {
			list = append(list, (k-n)*k*k*k)
		}
		lists = append(lists, list)
	}
	for _, list := range lists {
		got, ok := impl.ReadList(impl.ListText(list))
		if !ok || !slices.Equal(got, list) {
			t.Errorf("ReadList(ListText(%v)) = %v, %v", list, got, ok)
		}
	}
}

func TestReadListRefuses(t *testing.T) {
	bad := []string{
		"", ",", "--", "-,", ",-", "-,1", "1,-", "1,", ",1", "1,,2", "1, 2", " 1", "1 ", " -", "- ", "+1", "01", "-0", "1,-0",
		"1;2", "1 2", "a", "1,a", "1000000000001", "-1000000000001", "0,1000000000001", "999999999999999999",
		"1000000000000000000", "0" + strings.Repeat(",0", 64), strings.Repeat("0,", 64), strings.Repeat("0,", 5000) + "0",
	}
	for _, s := range bad {
		if list, ok := impl.ReadList(s); list != nil || ok {
			t.Errorf("ReadList(%q) = %v, %v", s, list, ok)
		}
	}
}

func TestReadListTakesCanonicalTextsOnly(t *testing.T) {
	number := `(0|-?[1-9][0-9]*)`
	canonical := regexp.MustCompile(`^(-|` + number + `(,` + number + `)*)\z`)
	for _, s := range textsOver("-+01, ", 6) {
		list, ok := impl.ReadList(s)
		if ok != canonical.MatchString(s) || ok && impl.ListText(list) != s || !ok && list != nil {
			t.Errorf("ReadList(%q) = %v, %v", s, list, ok)
		}
	}
}

func TestCrc16(t *testing.T) {
	cases := []struct {
		s     string
		start int64
		want  int64
	}{
		{"123456789", impl.CrcStart, 0x29b1},
		{"123456789", 0, 0x31c3},
		{"A", impl.CrcStart, 0xb915},
		{"", impl.CrcStart, 65535},
		{"", 0, 0},
		{"", 4660, 4660},
		{"\x00", 0, 0},
		{"\x01", 0, 4129},
		{"\x00", 256, 4129},
		{"123456789", -1, 0},
		{"123456789", 65536, 0},
		{"", -1, 0},
		{"a", math.MinInt64, 0},
		{"a", math.MaxInt64, 0},
	}
	for _, c := range cases {
		if got := impl.Crc16(c.s, c.start); got != c.want {
			t.Errorf("Crc16(%q, %d) = %d, want %d", c.s, c.start, got, c.want)
		}
	}
}

// crcAsWritten follows the sentence of the document number by number.
func crcAsWritten(s string, crc int64) int64 {
	for k := range len(s) {
		crc ^= int64(s[k]) * 256
		for range 8 {
			crc *= 2
			if crc > 65535 {
				crc = crc%65536 ^ 4129
			}
		}
	}
	return crc
}

func TestCrc16OfAllBytes(t *testing.T) {
	for b := range 256 {
		one := string([]byte{byte(b)})
		for _, start := range []int64{0, 1, 255, 256, 4129, 32767, 32768, 65534, 65535} {
			for _, s := range []string{one, one + "tintal", "rupak" + one, strings.Repeat(one, 40)} {
				got := impl.Crc16(s, start)
				if got != crcAsWritten(s, start) {
					t.Fatalf("Crc16(%q, %d) = %d", s, start, got)
				}
				if next := impl.Crc16(one, got); next != impl.Crc16(s+one, start) {
					t.Fatalf("Crc16 does not go on behind %q", s)
				}
			}
		}
	}
}

func TestRootOf(t *testing.T) {
	for n := int64(0); n <= 20000; n++ {
		if r := impl.RootOf(n); r < 0 || r*r > n || (r+1)*(r+1) <= n {
			t.Errorf("RootOf(%d) = %d", n, r)
		}
	}
	roots := []int64{1 << 15, 1<<16 - 1, 1 << 16, 94906265, 94906266, 94906267, 1 << 30, 1<<31 - 1, 1 << 31, 3037000498, 3037000499}
	for _, r := range roots {
		if got := []int64{impl.RootOf(r*r - 1), impl.RootOf(r * r), impl.RootOf(r*r + 1)}; !slices.Equal(got, []int64{r - 1, r, r}) {
			t.Errorf("RootOf around %d * %d = %v", r, r, got)
		}
	}
	if got := impl.RootOf(math.MaxInt64); got != 3037000499 {
		t.Errorf("RootOf of the greatest number = %d", got)
	}
	for _, n := range []int64{-1, -4, -16, -impl.MaxValue, math.MinInt64} {
		if got := impl.RootOf(n); got != 0 {
			t.Errorf("RootOf(%d) = %d", n, got)
		}
	}
}

// exactNearest rounds a / b with big numbers, halves away from 0.
func exactNearest(a, b *big.Int) int64 {
	twice := new(big.Int).Mul(big.NewInt(2), new(big.Int).Abs(a))
	size := new(big.Int).Abs(b)
	q := new(big.Int).Div(twice.Add(twice, size), new(big.Int).Mul(big.NewInt(2), size))
	if a.Sign()*b.Sign() < 0 {
		q.Neg(q)
	}
	return q.Int64()
}

func TestDivRound(t *testing.T) {
	cases := [][3]int64{
		{-5, 2, -3}, {5, 2, 3}, {5, -2, -3}, {-5, -2, 3}, {4, 3, 1}, {-1, 3, 0}, {-2, 3, -1}, {1, 2, 1}, {-1, 2, -1}, {0, 9, 0},
		{1, 1000000000000, 0}, {499999999999, 1000000000000, 0}, {500000000000, 1000000000000, 1}, {-500000000000, 1000000000000, -1},
		{1000000000000, 1, 1000000000000}, {-1000000000000, 1, -1000000000000}, {1000000000000, -1000000000000, -1},
	}
	for _, c := range cases {
		if got := impl.DivRound(c[0], c[1]); got != c[2] {
			t.Errorf("DivRound(%d, %d) = %d, want %d", c[0], c[1], got, c[2])
		}
	}
	for a := int64(-60); a <= 60; a++ {
		for b := int64(-25); b <= 25; b++ {
			checkQuotient(t, a, b)
		}
	}
	for _, a := range extremes {
		for _, b := range extremes {
			checkQuotient(t, a, b)
		}
	}
}

func checkQuotient(t *testing.T, a, b int64) {
	t.Helper()
	want := int64(0)
	if b != 0 && -impl.MaxValue <= min(a, b) && max(a, b) <= impl.MaxValue {
		want = exactNearest(big.NewInt(a), big.NewInt(b))
	}
	if got := impl.DivRound(a, b); got != want {
		t.Errorf("DivRound(%d, %d) = %d, want %d", a, b, got, want)
	}
}

// exactBlend is the sentence of the document with big numbers.
func exactBlend(x0, y0, x1, y1, x int64) int64 {
	if min(x0, y0, x1, y1) < -1000000 || max(x0, y0, x1, y1) > 1000000 {
		return 0
	}
	if x <= x0 || x1 <= x0 {
		return y0
	}
	if x >= x1 {
		return y1
	}
	product := new(big.Int).Mul(big.NewInt(y1-y0), big.NewInt(x-x0))
	return y0 + exactNearest(product, big.NewInt(x1-x0))
}

func TestBlend(t *testing.T) {
	cases := [][6]int64{
		{0, 10, 4, 20, 1, 13}, {0, 10, 4, 20, 2, 15}, {0, 10, 4, 20, 3, 18}, {0, 20, 4, 10, 1, 17}, {0, 0, 4, -6, 1, -2},
		{0, 10, 4, 20, 0, 10}, {0, 10, 4, 20, 4, 20}, {0, 10, 4, 20, -1, 10}, {0, 10, 4, 20, 9, 20},
		{4, 10, 4, 20, 9, 10}, {4, 10, 4, 20, 4, 10}, {5, 10, 4, 20, 9, 10}, {5, 10, 4, 20, 4, 10},
		{0, 10, 4, 20, math.MaxInt64, 20}, {0, 10, 4, 20, math.MinInt64, 10},
		{-1000000, -1000000, 1000000, 1000000, 999999, 999999}, {-1000000, 1000000, 1000000, -1000000, 999999, -999999},
		{0, 10, 1000001, 20, 5, 0}, {-1000001, 10, 4, 20, 5, 0}, {0, 1000001, 4, 20, 9, 0}, {0, 10, 4, -1000001, -1, 0},
		{math.MinInt64, 1, 2, 3, 4, 0}, {1, 2, math.MaxInt64, 4, 5, 0},
	}
	for _, c := range cases {
		if got := impl.Blend(c[0], c[1], c[2], c[3], c[4]); got != c[5] {
			t.Errorf("Blend(%v) = %d", c, got)
		}
	}
}

func TestBlendAsWritten(t *testing.T) {
	points := []int64{math.MinInt64, -1000001, -1000000, -999999, -7, 0, 1, 10, 999983, 1000000, 1000001, math.MaxInt64}
	for _, x0 := range points {
		for _, y0 := range points {
			for _, x1 := range points {
				for _, y1 := range points {
					for _, x := range append([]int64{-500000, 3, 4, 500000}, points...) {
						if got, want := impl.Blend(x0, y0, x1, y1, x), exactBlend(x0, y0, x1, y1, x); got != want {
							t.Fatalf("Blend(%d, %d, %d, %d, %d) = %d, want %d", x0, y0, x1, y1, x, got, want)
						}
					}
				}
			}
		}
	}
}

// answersOfBasics returns what chapter 1 answers to many arguments.
func answersOfBasics() []any {
	var all []any
	for _, a := range extremes {
		all = append(all, impl.CodeName(a), impl.Decimal(a), impl.RootOf(a), impl.Crc16("raga", a), impl.ListText([]int64{a, 1}))
		for _, b := range extremes {
			all = append(all, impl.DivRound(a, b), impl.Blend(a, b, b, a, 1), impl.Blend(0, a, 9, b, 4))
		}
	}
	for _, s := range oddTexts {
		n, isNumber := impl.ReadDecimal(s)
		list, isList := impl.ReadList(s)
		all = append(all, impl.IsName(s), n, isNumber, impl.SplitWords(s), list, isList, impl.Crc16(s, impl.CrcStart))
	}
	return all
}

func TestBasicsReturnEqualResults(t *testing.T) {
	if !reflect.DeepEqual(answersOfBasics(), answersOfBasics()) {
		t.Error("equal arguments, other results")
	}
}

func TestBasicsModifyNoArgument(t *testing.T) {
	for n := range 70 {
		whole := make([]int64, 80)
		for k := range whole {
			whole[k] = int64(k) - 40
		}
		before := slices.Clone(whole)
		impl.ListText(whole[:n])
		if !slices.Equal(whole, before) {
			t.Fatalf("ListText changed the memory of a list of %d numbers", n)
		}
	}
}

func TestBasicsReturnNewMemory(t *testing.T) {
	for _, s := range []string{"1,2,3", "-"} {
		first, _ := impl.ReadList(s)
		for k := range first {
			first[k] = 99
		}
		_ = append(first, 99)
		if second, ok := impl.ReadList(s); !ok || impl.ListText(second) != s {
			t.Errorf("ReadList(%q) shares memory: %v", s, second)
		}
	}
	words := impl.SplitWords("dha dhin")
	words[0] = "x"
	if again := impl.SplitWords("dha dhin"); !slices.Equal(again, []string{"dha", "dhin"}) {
		t.Errorf("SplitWords shares memory: %q", again)
	}
}
