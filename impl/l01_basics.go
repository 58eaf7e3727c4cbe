package impl

import (
	"cmp"
	"math"
	"math/bits"
	"strconv"
	"strings"
)

// Constants of chapter 1.
const (
	OK           = 0
	ErrInvalid   = 1
	ErrRange     = 2
	ErrNotFound  = 3
	ErrExists    = 4
	ErrFull      = 5
	ErrState     = 6
	ErrOrder     = 7
	ErrSyntax    = 8
	ErrFormat    = 9
	ErrChecksum  = 10
	ErrTruncated = 11
	MaxName      = 10
	MaxList      = 64
	MaxBudget    = 20000
	MaxValue     = 1000000000000
	CrcStart     = 65535
)

const (
	maxDigits     = 18
	maxBlend      = 1000000
	crcPolynomial = 4129
	emptyList     = "-"
	betweenLists  = ";"
)

var codeNames = [...]string{
	OK:           "ok",
	ErrInvalid:   "invalid",
	ErrRange:     "range",
	ErrNotFound:  "not-found",
	ErrExists:    "exists",
	ErrFull:      "full",
	ErrState:     "state",
	ErrOrder:     "order",
	ErrSyntax:    "syntax",
	ErrFormat:    "format",
	ErrChecksum:  "checksum",
	ErrTruncated: "truncated",
}

// CodeName returns the name of an error code.
func CodeName(code int64) string {
	if code < OK || code > ErrTruncated {
		return ""
	}
	return codeNames[code]
}

// IsName reports whether s is a name.
func IsName(s string) bool {
	if s == "" || len(s) > MaxName || !isSmallLetter(s[0]) {
		return false
	}
	for k := range len(s) {
		if !isSmallLetter(s[k]) && !isDigit(s[k]) {
			return false
		}
	}
	return true
}

func isSmallLetter(b byte) bool { return 'a' <= b && b <= 'z' }

func isDigit(b byte) bool { return '0' <= b && b <= '9' }

// Decimal returns a number in decimal.
func Decimal(n int64) string { return strconv.FormatInt(n, 10) }

// ReadDecimal returns the number with a decimal form.
func ReadDecimal(s string) (int64, bool) {
	if len(strings.TrimPrefix(s, "-")) > maxDigits {
		return 0, false
	}
	n, err := strconv.ParseInt(s, 10, 64)
	// ParseInt also takes texts that no number has as its Decimal: +1, 01, -0.
	if err != nil || Decimal(n) != s {
		return 0, false
	}
	return n, true
}

// SplitWords divides a line at blanks.
func SplitWords(s string) []string {
	var words []string
	// strings.Fields would also divide at tabs and newlines, which are not blanks.
	for _, part := range strings.Split(s, " ") {
		if part != "" {
			words = append(words, part)
		}
	}
	return words
}

// ListText returns a list of numbers as text.
func ListText(list []int64) string {
	if len(list) > MaxList {
		return ""
	}
	if len(list) == 0 {
		return emptyList
	}
	parts := make([]string, 0, len(list))
	for _, n := range list {
		if !isValue(n) {
			return ""
		}
		parts = append(parts, Decimal(n))
	}
	return strings.Join(parts, ",")
}

// ReadList returns the list with a text.
func ReadList(s string) ([]int64, bool) {
	if s == emptyList {
		return nil, true
	}
	if strings.Count(s, ",") >= MaxList {
		return nil, false
	}
	var list []int64
	for _, part := range strings.Split(s, ",") {
		n, ok := ReadDecimal(part)
		if !ok || !isValue(n) {
			return nil, false
		}
		list = append(list, n)
	}
	return list, true
}

// listsText returns the ListText of several lists, with betweenLists between them.
func listsText(lists [][]int64) string {
	texts := make([]string, 0, len(lists))
	for _, list := range lists {
		texts = append(texts, ListText(list))
	}
	return strings.Join(texts, betweenLists)
}

// readLists returns the lists with a listsText, of which there is at least one; nil and false if there are more than most.
func readLists(s string, most int) ([][]int64, bool) {
	var lists [][]int64
	// One part more than there may be lists shows that the text goes on, however long it is.
	for _, text := range strings.SplitN(s, betweenLists, most+1) {
		list, ok := ReadList(text)
		if !ok || len(lists) == most {
			return nil, false
		}
		lists = append(lists, list)
	}
	return lists, true
}

func isValue(n int64) bool { return -MaxValue <= n && n <= MaxValue }

func isBudget(n int64) bool { return 1 <= n && n <= MaxBudget }

// Crc16 returns the check value of bytes.
func Crc16(s string, start int64) int64 {
	if start < 0 || start > math.MaxUint16 {
		return 0
	}
	crc := uint16(start)
	for k := range len(s) {
		crc ^= uint16(s[k]) << 8
		for range 8 {
			// The doubled value exceeds 16 bits exactly if the highest one is set.
			high := crc&0x8000 != 0
			crc <<= 1
			if high {
				crc ^= crcPolynomial
			}
		}
	}
	return int64(crc)
}

// RootOf returns the square root, rounded down.
func RootOf(n int64) int64 {
	if n < 0 {
		return 0
	}
	// The square of a root that is tried may exceed int64, but never uint64.
	square, root := uint64(n), uint64(0)
	for bit := (bits.Len64(square)+1)/2 - 1; bit >= 0; bit-- {
		try := root | uint64(1)<<bit
		if try*try <= square {
			root = try
		}
	}
	return int64(root)
}

// DivRound returns the nearest quotient.
func DivRound(a, b int64) int64 {
	if !isValue(a) || !isValue(b) {
		return 0
	}
	return nearestQuotient(a, b)
}

// nearestQuotient is DivRound without its limits, for the formulas that are rounded for all numbers.
func nearestQuotient(a, b int64) int64 {
	if b == 0 {
		return 0
	}
	quotient, rest := a/b, magnitude(a%b)
	// Twice the rest could overflow, so it is held against what it lacks to a whole b.
	if rest < magnitude(b)-rest {
		return quotient
	}
	if (a < 0) == (b < 0) {
		return quotient + 1
	}
	return quotient - 1
}

// magnitude is unsigned because the least int64 has no positive counterpart.
func magnitude(n int64) uint64 {
	if n < 0 {
		return -uint64(n)
	}
	return uint64(n)
}

// Blend returns a number on a line through two points.
func Blend(x0, y0, x1, y1, x int64) int64 {
	if least(x0, y0, x1, y1) < -maxBlend || greatest(x0, y0, x1, y1) > maxBlend {
		return 0
	}
	return blendPoints(x0, y0, x1, y1, x)
}

// blendPoints is Blend without its limits, which do not hold where later chapters use it.
func blendPoints(x0, y0, x1, y1, x int64) int64 {
	if x <= x0 || x1 <= x0 {
		return y0
	}
	if x >= x1 {
		return y1
	}
	return y0 + nearestQuotient((y1-y0)*(x-x0), x1-x0)
}

func least[T cmp.Ordered](first T, others ...T) T {
	for _, other := range others {
		first = min(first, other)
	}
	return first
}

func greatest[T cmp.Ordered](first T, others ...T) T {
	for _, other := range others {
		first = max(first, other)
	}
	return first
}
