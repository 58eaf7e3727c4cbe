package tests

import (
	"fmt"
	"math"
	"math/bits"
	"math/rand"
	"reflect"
	"slices"
	"strconv"
	"strings"
	"testing"

	"loop.example/g01033/impl"
)

// notMinutes are numbers that are no minutes of the day.
var notMinutes = []int64{math.MinInt64, math.MinInt64 + 1440, -impl.MaxValue, -1440, -1, 1440, 1441, 2880, impl.MaxValue, math.MaxInt64 - 1440, math.MaxInt64}

// notSeasons are numbers that are no seasons of the year.
var notSeasons = []int64{math.MinInt64, -6, -2, -1, 6, 7, 12, math.MaxInt64}

// notBudgets are numbers that are no budgets.
var notBudgets = []int64{math.MinInt64, -1, 0, 20001, 20002, math.MaxInt64}

// itemFrom reads the text of an item without the functions of the program.
func itemFrom(text string) impl.Item {
	name, list, _ := strings.Cut(text, " ")
	n := numbersOf(list)
	return impl.Item{Name: name, From: n[0], Until: n[1], Season: n[2], Minutes: n[3], Worth: n[4]}
}

// itemsFrom reads the texts of several items, separated by ; without the functions of the program.
func itemsFrom(texts string) []impl.Item {
	var list []impl.Item
	if texts == "" {
		return list
	}
	for _, text := range strings.Split(texts, ";") {
		list = append(list, itemFrom(text))
	}
	return list
}

// itemAsWritten is the text of an item.
func itemAsWritten(x impl.Item) string {
	return fmt.Sprintf("%s %d,%d,%d,%d,%d", x.Name, x.From, x.Until, x.Season, x.Minutes, x.Worth)
}

// isItem is what the document calls a valid item.
func isItem(x impl.Item) bool {
	switch {
	case !impl.IsName(x.Name), x.From < 0, x.From > 1439, x.Until < 0, x.Until > 1439, x.From == x.Until:
		return false
	case x.Season < -1, x.Season > 5, x.Minutes < 1, x.Minutes > 240, x.Worth < 0, x.Worth > 1000:
		return false
	}
	return true
}

// areItems is what the document calls valid items.
func areItems(list []impl.Item) bool {
	for k, x := range list {
		if k >= 12 || !isItem(x) || k > 0 && list[k-1].Name >= x.Name {
			return false
		}
	}
	return true
}

// goodItems are valid items with all numbers at their limits.
func goodItems() []impl.Item {
	return itemsFrom("a 0,1439,-1,1,0;a 1439,0,-1,240,1000;abcdefghij 0,1,0,1,1000;z9 1,0,5,240,0;x0123 1438,1439,3,60,500;late 1380,60,-1,60,5;noon 720,780,1,30,7;b 60,1380,2,239,999;c 719,718,4,2,1")
}

// withNumber returns an item with one of its numbers, counted from From, changed.
func withNumber(x impl.Item, which int, n int64) impl.Item {
	*[]*int64{&x.From, &x.Until, &x.Season, &x.Minutes, &x.Worth}[which] = n
	return x
}

// invalidItems are items that are not valid, for one reason each.
func invalidItems() []impl.Item {
	good := itemFrom("late 1380,60,-1,60,5")
	var all []impl.Item
	for _, name := range []string{"", "1late", "Late", "la te", "late ", " late", "abcdefghijk", "la-te", "é", "late\n", strings.Repeat("a", 5000)} {
		x := good
		x.Name = name
		all = append(all, x)
	}
	for _, n := range notMinutes {
		all = append(all, withNumber(good, 0, n), withNumber(good, 1, n), withNumber(withNumber(good, 0, n), 1, n))
	}
	for _, n := range []int64{math.MinInt64, -7, -6, -2, 6, 7, math.MaxInt64} {
		all = append(all, withNumber(good, 2, n))
	}
	for _, n := range []int64{math.MinInt64, -1, 0, 241, 1440, math.MaxInt64} {
		all = append(all, withNumber(good, 3, n))
	}
	for _, n := range []int64{math.MinInt64, -1, 1001, impl.MaxValue, math.MaxInt64} {
		all = append(all, withNumber(good, 4, n))
	}
	return append(all, impl.Item{}, impl.Item{Name: "a"}, withNumber(good, 0, 60), withNumber(good, 1, 1380), itemFrom("a 0,0,-1,1,0"), itemFrom("a 1439,1439,-1,1,0"))
}

// openItems are count items with the names a, b and so on, and otherwise the same, in all seasons.
func openItems(count int, from, until, minutes, worth int64) []impl.Item {
	var list []impl.Item
	for k := range count {
		list = append(list, impl.Item{Name: string(rune('a' + k)), From: from, Until: until, Season: -1, Minutes: minutes, Worth: worth})
	}
	return list
}

// itemLists are valid lists of items: none, some around midnight, and as many as there may be.
func itemLists() [][]impl.Item {
	return [][]impl.Item{
		nil, {}, itemsFrom("late 1380,60,-1,60,5"), itemsFrom("late 1380,60,-1,60,5;noon 720,780,1,30,7"),
		itemsFrom("a 1380,60,-1,60,5;b 0,120,0,30,7;c 1439,0,1,1,1000;d 0,1,2,1,9;e 1320,1439,-1,240,3"),
		itemsFrom("a 0,1439,-1,30,0;b 0,1439,-1,30,0;c 0,1439,-1,30,0"), openItems(4, 0, 1439, 60, 10), openItems(12, 1439, 1438, 240, 1000),
		itemsFrom("abcdefghij 0,1439,0,1,1;abcdefghik 0,1439,1,1,1;b 0,1439,2,1,1;b0 0,1439,3,1,1;ba 0,1439,4,1,1"),
	}
}

// invalidItemLists are lists of items that are not valid.
func invalidItemLists() [][]impl.Item {
	first, last := itemFrom("a 0,1439,-1,1,0"), itemFrom("z 0,1439,-1,1,0")
	all := [][]impl.Item{
		openItems(13, 0, 1439, 1, 1), make([]impl.Item, 12), make([]impl.Item, 5000), {first, first}, {last, first}, {first, last, last}, {first, last, first},
		itemsFrom("late 1380,60,-1,60,5;late 720,780,1,30,7"), itemsFrom("noon 720,780,1,30,7;late 1380,60,-1,60,5"), itemsFrom("a 0,1,-1,1,1;a0 0,1,-1,1,1;a 0,1,-1,1,1"),
		itemsFrom("ab 0,1,-1,1,1;a 0,1,-1,1,1"),
	}
	for _, x := range invalidItems() {
		all = append(all, []impl.Item{x}, []impl.Item{first, x}, []impl.Item{x, last}, []impl.Item{first, x, last})
	}
	return all
}

// opens tells whether an item may begin at a time, by going through its minutes one by one.
func opens(x impl.Item, time, season int64) bool {
	if x.Season != -1 && x.Season != season {
		return false
	}
	for minute := x.From; minute != x.Until; minute = (minute + 1) % 1440 {
		if minute == time%1440 {
			return true
		}
	}
	return false
}

// endAsWritten is when an order ends; false if an item may not begin when it does.
func endAsWritten(list []impl.Item, order []int64, minute, season int64) (int64, bool) {
	for _, k := range order {
		if !opens(list[k], minute, season) {
			return 0, false
		}
		minute += list[k].Minutes
	}
	return minute, true
}

// ordersOf returns all orders of the indices less than count, in lexicographic order.
func ordersOf(count int) [][]int64 {
	var all [][]int64
	var extend func(order []int64)
	extend = func(order []int64) {
		all = append(all, slices.Clone(order))
		for k := range int64(count) {
			if !slices.Contains(order, k) {
				extend(append(order, k))
			}
		}
	}
	extend([]int64{})
	return all
}

// wrongOrders are lists that are no orders of the indices less than count.
func wrongOrders(count int64) [][]int64 {
	all := [][]int64{{count}, {-1}, {0, 0}, {0, count}, {0, -1}, {0, 1, 0}, make([]int64, 64), make([]int64, 5000)}
	for _, n := range []int64{math.MinInt64, -2, count + 1, 12, 13, 64, math.MaxInt64} {
		all = append(all, []int64{n}, []int64{n, n}, []int64{0, n}, []int64{n, 0})
	}
	if count == 0 {
		all = append(all, []int64{0}, []int64{1, 0})
	}
	return all
}

func worthAsWritten(list []impl.Item, order []int64) int64 {
	worth := int64(0)
	for _, k := range order {
		worth += list[k].Worth
	}
	return worth
}

// drawItems draws items whose hours lie around a minute of the day, so that many orders are programmes, and many are not.
func drawItems(draw *rand.Rand, count int, around int64) []impl.Item {
	var list []impl.Item
	for k := range count {
		x := impl.Item{Name: "x" + strconv.Itoa(k), Season: max(draw.Int63n(6)-4, -1), Minutes: 1 + draw.Int63n(90), Worth: draw.Int63n(4) * draw.Int63n(4)}
		x.From = (around + draw.Int63n(300) + 1290) % 1440
		x.Until = (x.From + 1 + draw.Int63n([]int64{60, 400, 1439}[draw.Intn(3)])) % 1440
		if draw.Intn(4) == 0 {
			x.Minutes = 1 + draw.Int63n(240)
		}
		list = append(list, x)
	}
	return list
}

// aroundMidnight are minutes of the day, most of them near midnight.
var aroundMidnight = []int64{0, 0, 1, 59, 60, 300, 720, 1200, 1380, 1400, 1438, 1439, 1439}

func drawMinute(draw *rand.Rand) int64 { return aroundMidnight[draw.Intn(len(aroundMidnight))] }

func TestHourConstants(t *testing.T) {
	got := []int64{impl.MaxItems, impl.MaxMinutes, impl.Seasons}
	if want := []int64{12, 1440, 6}; !slices.Equal(got, want) {
		t.Errorf("constants: got %v, want %v", got, want)
	}
}

func TestValidItem(t *testing.T) {
	for _, x := range goodItems() {
		if !impl.ValidItem(x) {
			t.Errorf("ValidItem(%v) = false", x)
		}
	}
	for _, x := range invalidItems() {
		if impl.ValidItem(x) {
			t.Errorf("ValidItem(%v) = true", x)
		}
	}
}

// TestValidItemAsWritten puts numbers around all limits into each place of items.
func TestValidItemAsWritten(t *testing.T) {
	numbers := slices.Concat(notMinutes, notSeasons, []int64{0, 1, 2, 3, 4, 5, 59, 60, 61, 239, 240, 241, 999, 1000, 1001, 1379, 1380, 1438, 1439})
	count := map[bool]int{}
	for _, x := range append(goodItems(), invalidItems()...) {
		for which := range 5 {
			for _, n := range numbers {
				y := withNumber(x, which, n)
				count[isItem(y)]++
				if impl.ValidItem(y) != isItem(y) {
					t.Errorf("ValidItem(%v) = %v", y, !isItem(y))
				}
			}
		}
	}
	if count[true] < 300 || count[false] < 300 {
		t.Errorf("items and others: %v", count)
	}
}

func TestValidItems(t *testing.T) {
	for _, list := range itemLists() {
		if !impl.ValidItems(list) {
			t.Errorf("ValidItems(%v) = false", list)
		}
	}
	for _, list := range invalidItemLists() {
		if impl.ValidItems(list) {
			t.Errorf("ValidItems(%v) = true", list)
		}
	}
	draw := rand.New(rand.NewSource(90))
	some := append(goodItems(), invalidItems()[:3]...)
	count := map[bool]int{}
	for range 5000 {
		var list []impl.Item
		for range draw.Intn(4) {
			list = append(list, some[draw.Intn(len(some))])
		}
		count[areItems(list)]++
		if impl.ValidItems(list) != areItems(list) {
			t.Errorf("ValidItems(%v) = %v", list, !areItems(list))
		}
	}
	if count[true] < 500 || count[false] < 500 {
		t.Errorf("lists of items and others: %v", count)
	}
}

func TestFitsTime(t *testing.T) {
	cases := []struct {
		text           string
		minute, season int64
		want           bool
	}{
		{"late 1380,60,-1,60,5", 0, 3, true}, {"late 1380,60,-1,60,5", 59, 0, true}, {"late 1380,60,-1,60,5", 60, 3, false}, {"late 1380,60,-1,60,5", 1379, 3, false},
		{"late 1380,60,-1,60,5", 1380, 5, true}, {"late 1380,60,-1,60,5", 1439, 3, true}, {"late 1380,60,-1,60,5", 720, 3, false}, {"late 1380,60,-1,60,5", 1440, 3, false},
		{"late 1380,60,-1,60,5", -1, 3, false}, {"late 1380,60,-1,60,5", 0, -1, false}, {"late 1380,60,-1,60,5", 0, 6, false}, {"late 1380,60,2,60,5", 0, 2, true},
		{"late 1380,60,2,60,5", 0, 1, false}, {"late 1380,60,2,60,5", 0, 3, false}, {"late 1380,60,0,60,5", 0, 0, true}, {"late 1380,60,5,60,5", 0, 5, true},
		{"noon 720,780,1,30,7", 720, 0, false}, {"noon 720,780,1,30,7", 720, 1, true}, {"noon 720,780,1,30,7", 779, 1, true}, {"noon 720,780,1,30,7", 780, 1, false},
		{"noon 720,780,1,30,7", 719, 1, false}, {"a 1439,0,-1,1,1", 1439, 0, true}, {"a 1439,0,-1,1,1", 0, 0, false}, {"a 0,1439,-1,1,1", 1439, 0, false},
		{"a 0,1439,-1,1,1", 0, 0, true}, {"a 0,1,-1,1,1", 0, 0, true}, {"a 0,1,-1,1,1", 1, 0, false}, {"a 1,0,-1,1,1", 0, 0, false}, {"a 1,0,-1,1,1", 1439, 0, true},
	}
	for _, c := range cases {
		if got := impl.FitsTime(itemFrom(c.text), c.minute, c.season); got != c.want {
			t.Errorf("FitsTime(%s, %d, %d) = %v", c.text, c.minute, c.season, got)
		}
	}
}

// TestHoursAsWritten goes through all minutes of the day, with all that is asked of one minute.
func TestHoursAsWritten(t *testing.T) {
	draw := rand.New(rand.NewSource(91))
	list := itemsFrom("a 1380,60,-1,60,5;b 720,780,1,30,7;c 0,1439,0,1,0;d 1439,0,1,240,1000;e 0,1,1,1,1;f 1,0,0,1,1;g 1438,1439,-1,9,9;h 60,1380,1,1,1;i 719,718,0,1,1")
	list = append(list, drawItems(draw, 3, 0)...)
	for minute := range int64(1440) {
		season := minute % 3
		fitting := []int64{}
		for k, x := range list {
			fits := opens(x, minute, season)
			if fits {
				fitting = append(fitting, int64(k))
			}
			if impl.FitsTime(x, minute, season) != fits {
				t.Errorf("FitsTime(%v, %d, %d) = %v", x, minute, season, !fits)
			}
			checkNextStart(t, x, minute, season)
		}
		if got, code := impl.FittingAt(list, minute, season); !slices.Equal(got, fitting) || code != impl.OK {
			t.Errorf("FittingAt(%v, %d, %d) = %v, %d, want %v", list, minute, season, got, code, fitting)
		}
	}
}

// checkNextStart waits minute by minute.
func checkNextStart(t *testing.T, x impl.Item, minute, season int64) {
	t.Helper()
	want, wantCode := int64(0), int64(impl.ErrNotFound)
	for wait := range int64(1440) {
		if opens(x, minute+wait, season) {
			want, wantCode = (minute+wait)%1440, impl.OK
			break
		}
	}
	if got, code := impl.NextStart(x, minute, season); got != want || code != wantCode {
		t.Errorf("NextStart(%v, %d, %d) = %d, %d, want %d, %d", x, minute, season, got, code, want, wantCode)
	}
}

func TestFittingAt(t *testing.T) {
	list := itemsFrom("late 1380,60,-1,60,5;noon 720,780,1,30,7;south 0,1439,1,9,9")
	cases := []struct {
		list           []impl.Item
		minute, season int64
		want           []int64
		code           int64
	}{
		{list, 0, 1, []int64{0, 2}, impl.OK}, {list, 0, 0, []int64{0}, impl.OK}, {list, 720, 1, []int64{1, 2}, impl.OK}, {list, 720, 2, nil, impl.OK}, {list, 60, 1, []int64{2}, impl.OK},
		{list, 1439, 1, []int64{0}, impl.OK}, {list, 1379, 1, []int64{2}, impl.OK}, {nil, 0, 0, nil, impl.OK}, {nil, 1439, 5, nil, impl.OK}, {list, 1440, 1, nil, impl.ErrRange},
		{list, -1, 1, nil, impl.ErrRange}, {list, 0, -1, nil, impl.ErrRange}, {list, 0, 6, nil, impl.ErrRange}, {nil, 1440, 6, nil, impl.ErrRange},
		{openItems(12, 0, 1439, 1, 1), 7, 0, []int64{0, 1, 2, 3, 4, 5, 6, 7, 8, 9, 10, 11}, impl.OK}, {openItems(13, 0, 1439, 1, 1), 7, 0, nil, impl.ErrInvalid},
	}
	for _, c := range cases {
		if got, code := impl.FittingAt(c.list, c.minute, c.season); !slices.Equal(got, c.want) || code != c.code {
			t.Errorf("FittingAt(%v, %d, %d) = %v, %d, want %v, %d", c.list, c.minute, c.season, got, code, c.want, c.code)
		}
	}
}

func TestNextStart(t *testing.T) {
	cases := []struct {
		text                 string
		minute, season, want int64
		code                 int64
	}{
		{"late 1380,60,-1,60,5", 100, 0, 1380, impl.OK}, {"late 1380,60,-1,60,5", 1380, 0, 1380, impl.OK}, {"late 1380,60,-1,60,5", 1379, 0, 1380, impl.OK},
		{"late 1380,60,-1,60,5", 1439, 0, 1439, impl.OK}, {"late 1380,60,-1,60,5", 0, 0, 0, impl.OK}, {"late 1380,60,-1,60,5", 59, 0, 59, impl.OK}, {"late 1380,60,-1,60,5", 60, 0, 1380, impl.OK},
		{"noon 720,780,1,30,7", 100, 1, 720, impl.OK}, {"noon 720,780,1,30,7", 750, 1, 750, impl.OK}, {"noon 720,780,1,30,7", 780, 1, 720, impl.OK}, {"noon 720,780,1,30,7", 1439, 1, 720, impl.OK},
		{"noon 720,780,1,30,7", 100, 0, 0, impl.ErrNotFound}, {"noon 720,780,1,30,7", 720, 2, 0, impl.ErrNotFound}, {"dawn 0,1,-1,1,1", 1, 0, 0, impl.OK}, {"dawn 0,1,-1,1,1", 0, 0, 0, impl.OK},
		{"dawn 1439,0,-1,1,1", 0, 0, 1439, impl.OK}, {"dawn 1,0,-1,1,1", 0, 5, 1, impl.OK}, {"dawn 0,1439,5,1,1", 1439, 5, 0, impl.OK}, {"dawn 0,1439,5,1,1", 1440, 5, 0, impl.ErrRange},
		{"dawn 0,1439,5,1,1", -1, 5, 0, impl.ErrRange}, {"dawn 0,1439,5,1,1", 7, 6, 0, impl.ErrRange}, {"dawn 0,1439,-1,1,1", 7, -1, 0, impl.ErrRange}, {"dawn 0,1439,5,1,1", 1440, 4, 0, impl.ErrRange},
		{"dawn 7,7,-1,1,1", 7, 0, 0, impl.ErrInvalid}, {"dawn 7,7,-1,1,1", 1440, 9, 0, impl.ErrInvalid},
	}
	for _, c := range cases {
		if got, code := impl.NextStart(itemFrom(c.text), c.minute, c.season); got != c.want || code != c.code {
			t.Errorf("NextStart(%s, %d, %d) = %d, %d, want %d, %d", c.text, c.minute, c.season, got, code, c.want, c.code)
		}
	}
}

func TestEndOf(t *testing.T) {
	list := itemsFrom("late 1380,60,-1,60,5;midnight 0,30,-1,240,7;noon 720,780,1,30,7")
	long := openItems(12, 0, 1439, 240, 1)
	all := []int64{11, 10, 9, 8, 7, 6, 5, 4, 3, 2, 1, 0}
	cases := []struct {
		list           []impl.Item
		order          []int64
		minute, season int64
		want, code     int64
	}{
		{list, []int64{0}, 1400, 1, 1460, impl.OK}, {list, []int64{0}, 1439, 1, 1499, impl.OK}, {list, []int64{0}, 59, 1, 119, impl.OK}, {list, []int64{0}, 60, 1, 0, impl.ErrState},
		{list, []int64{0, 1}, 1380, 1, 1680, impl.OK}, {list, []int64{0, 1}, 1409, 1, 1709, impl.OK}, {list, []int64{0, 1}, 1410, 1, 0, impl.ErrState}, {list, []int64{1, 0}, 0, 1, 0, impl.ErrState},
		{list, []int64{1}, 1439, 1, 0, impl.ErrState}, {list, []int64{2}, 720, 1, 750, impl.OK}, {list, []int64{2}, 720, 0, 0, impl.ErrState}, {list, []int64{2}, 1400, 1, 0, impl.ErrState},
		{list, nil, 1400, 1, 1400, impl.OK}, {list, []int64{}, 0, 0, 0, impl.OK}, {nil, nil, 1439, 5, 1439, impl.OK}, {nil, []int64{0}, 1439, 5, 0, impl.ErrOrder},
		{list, []int64{0, 0}, 1400, 1, 0, impl.ErrOrder}, {list, []int64{2, 2}, 1400, 0, 0, impl.ErrOrder}, {list, []int64{2, 3}, 1400, 0, 0, impl.ErrOrder}, {list, []int64{-1}, 1400, 0, 0, impl.ErrOrder},
		{list, []int64{3}, 1440, 0, 0, impl.ErrRange}, {list, []int64{0}, -1, 0, 0, impl.ErrRange}, {list, []int64{0}, 0, 6, 0, impl.ErrRange}, {list, nil, 0, -1, 0, impl.ErrRange},
		{openItems(12, 1438, 1437, 240, 1), all, 1439, 1, 4319, impl.OK}, {openItems(12, 1438, 1437, 240, 1), all[:6], 0, 1, 1440, impl.OK}, {long, all, 1, 1, 2881, impl.OK}, {long, all, 1439, 1, 0, impl.ErrState},
		{long, all[:7], 238, 1, 1918, impl.OK}, {long, all[:6], 239, 1, 0, impl.ErrState}, {openItems(13, 0, 1439, 240, 1), []int64{12}, 0, 0, 0, impl.ErrInvalid}, {openItems(13, 0, 1439, 240, 1), []int64{13}, -1, -1, 0, impl.ErrInvalid},
	}
	for _, c := range cases {
		if got, code := impl.EndOf(c.list, c.order, c.minute, c.season); got != c.want || code != c.code {
			t.Errorf("EndOf(%v, %v, %d, %d) = %d, %d, want %d, %d", c.list, c.order, c.minute, c.season, got, code, c.want, c.code)
		}
	}
}

// TestEndOfLongOrders plays long items over several midnights, where the last ones begin on the third day.
func TestEndOfLongOrders(t *testing.T) {
	draw := rand.New(rand.NewSource(92))
	count, latest := map[bool]int{}, int64(0)
	for range 5000 {
		list := openItems(12, 0, 0, 0, 0)
		for k := range list {
			list[k].From = draw.Int63n(1440)
			list[k].Until, list[k].Minutes = (list[k].From+1440-1-draw.Int63n(40))%1440, 240-draw.Int63n(20)
		}
		var order []int64
		for _, k := range draw.Perm(12) {
			order = append(order, int64(k))
		}
		minute := drawMinute(draw)
		want, ok := endAsWritten(list, order, minute, 0)
		count[ok]++
		latest = max(latest, want)
		got, code := impl.EndOf(list, order, minute, 0)
		if got != want || code == impl.OK != ok || !ok && code != impl.ErrState {
			t.Errorf("EndOf(%v, %v, %d, 0) = %d, %d, want %d, %v", list, order, minute, got, code, want, ok)
		}
	}
	if count[true] < 500 || count[false] < 500 || latest < 4000 {
		t.Errorf("orders that may be played and others: %v, until %d", count, latest)
	}
}

func TestIsProgramme(t *testing.T) {
	list := itemsFrom("late 1380,60,-1,60,5;midnight 0,30,-1,240,7;noon 720,780,1,30,7")
	cases := []struct {
		list                  []impl.Item
		order                 []int64
		minute, until, season int64
		want                  bool
	}{
		{list, []int64{2}, 720, 750, 1, true}, {list, []int64{2}, 720, 749, 1, false}, {list, []int64{2}, 720, 2160, 1, true}, {list, []int64{2}, 720, 2161, 1, false},
		{list, []int64{2}, 720, 750, 0, false}, {list, []int64{2}, 720, 720, 1, false}, {list, nil, 720, 720, 1, true}, {list, nil, 720, 719, 1, false}, {list, []int64{}, 720, 2160, 1, true},
		{list, nil, 720, 2161, 1, false}, {list, []int64{0, 1}, 1380, 1680, 1, true}, {list, []int64{0, 1}, 1380, 1679, 1, false}, {list, []int64{0, 1}, 1380, 240, 1, false},
		{list, []int64{1, 0}, 0, 1440, 1, false}, {list, []int64{0, 0}, 1380, 1500, 1, false}, {list, []int64{3}, 1380, 1500, 1, false}, {list, []int64{-1}, 1380, 1500, 1, false},
		{list, nil, 1440, 1500, 1, false}, {list, nil, -1, 0, 1, false}, {list, nil, 0, 0, 0, true}, {list, nil, 0, 0, -1, false}, {list, nil, 0, 0, 6, false}, {list, nil, 0, 1440, 5, true},
		{nil, nil, 1439, 2879, 0, true}, {nil, nil, 1439, 2880, 0, false}, {nil, []int64{0}, 1439, 2879, 0, false}, {list, nil, 0, math.MaxInt64, 0, false}, {list, nil, 0, math.MinInt64, 0, false},
		{list, nil, math.MaxInt64, math.MaxInt64, 0, false}, {list, nil, math.MinInt64, math.MinInt64, 0, false}, {list, nil, math.MaxInt64, math.MinInt64 + 1439, 0, false},
		{openItems(13, 0, 1439, 1, 1), nil, 0, 1440, 0, false}, {openItems(12, 0, 1439, 1, 1), nil, 0, 1440, 0, true}, {openItems(6, 0, 1439, 240, 1), []int64{0, 1, 2, 3, 4, 5}, 0, 1440, 0, true},
		{openItems(7, 0, 1439, 240, 1), []int64{0, 1, 2, 3, 4, 5, 6}, 0, 1440, 0, false}, {openItems(6, 1, 0, 240, 1), []int64{0, 1, 2, 3, 4, 5}, 1439, 2879, 0, true},
		{openItems(6, 1, 0, 240, 1), []int64{0, 1, 2, 3, 4, 5}, 1439, 2878, 0, false},
	}
	for _, c := range cases {
		if got := impl.IsProgramme(c.list, c.order, c.minute, c.until, c.season); got != c.want {
			t.Errorf("IsProgramme(%v, %v, %d, %d, %d) = %v", c.list, c.order, c.minute, c.until, c.season, got)
		}
	}
}

func TestWorthOf(t *testing.T) {
	list := itemsFrom("late 1380,60,-1,60,5;midnight 0,30,-1,240,7;noon 720,780,1,30,1000")
	cases := []struct {
		list       []impl.Item
		order      []int64
		want, code int64
	}{
		{list, nil, 0, impl.OK}, {list, []int64{0}, 5, impl.OK}, {list, []int64{1, 0}, 12, impl.OK}, {list, []int64{0, 1}, 12, impl.OK}, {list, []int64{2, 0, 1}, 1012, impl.OK},
		{nil, nil, 0, impl.OK}, {nil, []int64{0}, 0, impl.ErrOrder}, {list, []int64{0, 0}, 0, impl.ErrOrder}, {list, []int64{0, 1, 2, 0}, 0, impl.ErrOrder}, {list, []int64{3}, 0, impl.ErrOrder},
		{list, []int64{-1}, 0, impl.ErrOrder}, {openItems(12, 0, 1, 1, 1000), []int64{11, 10, 9, 8, 7, 6, 5, 4, 3, 2, 1, 0}, 12000, impl.OK},
		{openItems(13, 0, 1, 1, 1000), []int64{12}, 0, impl.ErrInvalid}, {openItems(13, 0, 1, 1, 1000), []int64{-1}, 0, impl.ErrInvalid},
	}
	for _, c := range cases {
		if got, code := impl.WorthOf(c.list, c.order); got != c.want || code != c.code {
			t.Errorf("WorthOf(%v, %v) = %d, %d, want %d, %d", c.list, c.order, got, code, c.want, c.code)
		}
	}
}

func TestWrongOrders(t *testing.T) {
	for _, list := range itemLists() {
		for _, order := range wrongOrders(int64(len(list))) {
			end, one := impl.EndOf(list, order, 0, 0)
			worth, two := impl.WorthOf(list, order)
			if end != 0 || one != impl.ErrOrder || worth != 0 || two != impl.ErrOrder || impl.IsProgramme(list, order, 0, 1440, 0) {
				t.Errorf("%v, %v: %d, %d, %d, %d", list, order, end, one, worth, two)
			}
			for _, minute := range notMinutes {
				if end, code := impl.EndOf(list, order, minute, 0); end != 0 || code != impl.ErrRange {
					t.Errorf("EndOf(%v, %v, %d, 0) = %d, %d", list, order, minute, end, code)
				}
			}
		}
	}
}

func TestBestProgramme(t *testing.T) {
	midnight := itemsFrom("after 0,60,-1,60,4;before 1380,1439,-1,60,5;over 1380,60,-1,90,8")
	cases := []struct {
		texts                 string
		minute, until, season int64
		want                  []int64
		worth, count          int64
	}{
		{"late 1380,60,-1,60,5;noon 720,780,1,30,7", 720, 800, 1, []int64{1}, 7, 2},
		{"late 1380,60,-1,60,5;noon 720,780,1,30,7", 720, 800, 0, nil, 0, 1},
		{"late 1380,60,-1,60,5;noon 720,780,1,30,7", 720, 749, 1, nil, 0, 1},
		{"late 1380,60,-1,60,5;noon 720,780,1,30,7", 720, 750, 1, []int64{1}, 7, 2},
		{"late 1380,60,-1,60,5;noon 720,780,1,30,7", 720, 720, 1, nil, 0, 1},
		{"late 1380,60,-1,60,5", 0, 60, 3, []int64{0}, 5, 2}, {"late 1380,60,-1,60,5", 59, 119, 3, []int64{0}, 5, 2}, {"late 1380,60,-1,60,5", 60, 1500, 3, nil, 0, 1},
		{"", 0, 1440, 0, nil, 0, 1}, {"", 1439, 1439, 5, nil, 0, 1},
		{"a 0,1439,-1,30,0;b 0,1439,-1,30,0", 0, 60, 0, nil, 0, 5}, {"a 0,1439,-1,30,0;b 0,1439,-1,30,1", 0, 60, 0, []int64{0, 1}, 1, 5},
		{"a 0,1439,-1,30,1;b 0,1439,-1,30,0", 0, 60, 0, []int64{0}, 1, 5}, {"a 0,1439,-1,30,1;b 0,1439,-1,30,1", 0, 59, 0, []int64{0}, 1, 3},
		{"a 0,1439,-1,30,1;b 0,1439,-1,30,2", 0, 59, 0, []int64{1}, 2, 3}, {"a 0,1439,-1,31,1;b 0,1439,-1,30,2;c 0,1439,-1,30,2", 0, 60, 0, []int64{1, 2}, 4, 6},
		{"a 1410,0,-1,30,3;b 1380,1381,-1,30,3", 1380, 2820, 0, []int64{1, 0}, 6, 3}, {"a 30,31,-1,30,3;b 0,1439,-1,30,3", 0, 1440, 0, []int64{1, 0}, 6, 3},
		{itemTexts(midnight), 1380, 1500, 0, []int64{1, 0}, 9, 4}, {itemTexts(midnight), 1379, 1500, 0, nil, 0, 1}, {itemTexts(midnight), 1380, 2820, 0, []int64{1, 2}, 13, 6},
		{itemTexts(midnight), 1380, 1499, 0, []int64{2}, 8, 3}, {itemTexts(midnight), 1381, 1500, 0, []int64{2}, 8, 3}, {itemTexts(midnight), 0, 150, 0, []int64{2}, 8, 3}, {itemTexts(midnight), 0, 149, 0, []int64{2}, 8, 3},
		{itemTexts(openItems(6, 0, 1439, 240, 10)), 0, 1440, 0, []int64{0, 1, 2, 3, 4, 5}, 60, 1957}, {itemTexts(openItems(6, 0, 1439, 240, 10)), 0, 1439, 0, []int64{0, 1, 2, 3, 4}, 50, 1237},
		{itemTexts(openItems(12, 0, 1439, 60, 1000)), 0, 240, 2, []int64{0, 1, 2, 3}, 4000, 13345}, {itemTexts(openItems(12, 0, 1439, 60, 1000)), 0, 299, 2, []int64{0, 1, 2, 3}, 4000, 13345},
	}
	for _, c := range cases {
		list := itemsFrom(c.texts)
		order, worth, one := impl.BestProgramme(list, c.minute, c.until, c.season, 20000)
		count, two := impl.CountProgrammes(list, c.minute, c.until, c.season, 20000)
		if !slices.Equal(order, c.want) || worth != c.worth || one != impl.OK || count != c.count || two != impl.OK {
			t.Errorf("%s from %d until %d in %d: %v, %d, %d, %d, %d, want %v, %d, %d", c.texts, c.minute, c.until, c.season, order, worth, one, count, two, c.want, c.worth, c.count)
		}
		checkBudgets(t, list, c.minute, c.until, c.season)
	}
}

// itemTexts is what itemsFrom reads.
func itemTexts(list []impl.Item) string {
	var texts []string
	for _, x := range list {
		texts = append(texts, itemAsWritten(x))
	}
	return strings.Join(texts, ";")
}

// checkBudgets holds that the programmes but the empty one are the least budget, and returns how many programmes there are.
func checkBudgets(t *testing.T, list []impl.Item, minute, until, season int64) int64 {
	t.Helper()
	count, code := impl.CountProgrammes(list, minute, until, season, 20000)
	best, most, other := impl.BestProgramme(list, minute, until, season, 20000)
	if code != impl.OK || other != impl.OK {
		t.Errorf("%v from %d until %d in %d has codes %d and %d", list, minute, until, season, code, other)
		return 0
	}
	nodes := count - 1
	for _, budget := range []int64{1, 2, nodes / 2, nodes - 2, nodes - 1, nodes, nodes + 1, 2 * nodes, 19999} {
		if budget < 1 || budget > 20000 {
			continue
		}
		order, worth, one := impl.BestProgramme(list, minute, until, season, budget)
		again, two := impl.CountProgrammes(list, minute, until, season, budget)
		right := slices.Equal(order, best) && worth == most && one == impl.OK && again == count && two == impl.OK
		if budget < nodes {
			right = len(order) == 0 && worth == 0 && one == impl.ErrFull && again == 0 && two == impl.ErrFull
		}
		if !right {
			t.Errorf("%v from %d until %d in %d with %d of %d nodes: %v, %d, %d, %d, %d", list, minute, until, season, budget, nodes, order, worth, one, again, two)
		}
	}
	return count
}

// TestFullProgrammes holds that more nodes than any budget are ErrFull, however late and however deep they are.
func TestFullProgrammes(t *testing.T) {
	late := append(openItems(11, 0, 1439, 1, 1), impl.Item{Name: "z", From: 0, Until: 1439, Season: -1, Minutes: 240, Worth: 1000})
	cases := []struct {
		list          []impl.Item
		minute, until int64
	}{
		{openItems(12, 0, 1439, 1, 1000), 0, 1440}, {openItems(12, 0, 1439, 1, 0), 0, 12}, {openItems(12, 0, 1439, 60, 1000), 0, 300}, {late, 0, 1440}, {late, 1438, 2878},
		{openItems(8, 720, 719, 1, 5), 1436, 1450}, {openItems(7, 720, 719, 1, 5), 1436, 1450},
	}
	for k, c := range cases {
		for _, budget := range []int64{1, 2, 100, 13699, 19999, 20000} {
			if k == 6 && budget >= 13699 {
				continue
			}
			order, worth, one := impl.BestProgramme(c.list, c.minute, c.until, 0, budget)
			count, two := impl.CountProgrammes(c.list, c.minute, c.until, 0, budget)
			if len(order) != 0 || worth != 0 || one != impl.ErrFull || count != 0 || two != impl.ErrFull {
				t.Errorf("%v from %d until %d with %d nodes: %v, %d, %d, %d, %d", c.list, c.minute, c.until, budget, order, worth, one, count, two)
			}
		}
	}
	if count, code := impl.CountProgrammes(cases[6].list, 1436, 1450, 0, 13699); count != 13700 || code != impl.OK {
		t.Errorf("seven items in all orders: %d, %d", count, code)
	}
}

// checkProgrammes tries all orders of items, holds promise 9 against them, and returns how many of them are programmes.
func checkProgrammes(t *testing.T, list []impl.Item, orders [][]int64, minute, until, season int64) int64 {
	t.Helper()
	want, most, count := []int64{}, int64(0), int64(0)
	for _, order := range orders {
		end, ok := endAsWritten(list, order, minute, season)
		got, code := impl.EndOf(list, order, minute, season)
		if ok && (got != end || code != impl.OK) || !ok && (got != 0 || code != impl.ErrState) {
			t.Errorf("EndOf(%v, %v, %d, %d) = %d, %d, want %d, %v", list, order, minute, season, got, code, end, ok)
		}
		is := ok && end <= until
		if impl.IsProgramme(list, order, minute, until, season) != is {
			t.Errorf("IsProgramme(%v, %v, %d, %d, %d) = %v", list, order, minute, until, season, !is)
		}
		worth := worthAsWritten(list, order)
		if got, code := impl.WorthOf(list, order); got != worth || code != impl.OK {
			t.Errorf("WorthOf(%v, %v) = %d, %d", list, order, got, code)
		}
		if !is {
			continue
		}
		count++
		if worth > most || worth == most && isBefore(order, want) {
			want, most = order, worth
		}
	}
	best, worth, code := impl.BestProgramme(list, minute, until, season, 20000)
	if !slices.Equal(best, want) || worth != most || code != impl.OK || !impl.IsProgramme(list, best, minute, until, season) {
		t.Errorf("BestProgramme(%v, %d, %d, %d) = %v, %d, %d, want %v, %d", list, minute, until, season, best, worth, code, want, most)
	}
	if got := checkBudgets(t, list, minute, until, season); got != count {
		t.Errorf("CountProgrammes(%v, %d, %d, %d) = %d, want %d", list, minute, until, season, got, count)
	}
	return count
}

// TestNoProgrammeIsWorthMore is promise 9, against trying all orders.
func TestNoProgrammeIsWorthMore(t *testing.T) {
	draw := rand.New(rand.NewSource(93))
	sizes, over := map[int]int{}, 0
	for k := range 1500 {
		count := []int{1, 2, 3, 4, 5, 5, 6}[k%7]
		minute := drawMinute(draw)
		list := drawItems(draw, count, minute)
		until := minute + draw.Int63n([]int64{300, 1441}[k%2])
		if k%5 == 0 {
			until = minute + 1440
		}
		found := checkProgrammes(t, list, ordersOf(count), minute, until, draw.Int63n(3))
		best, _, _ := impl.BestProgramme(list, minute, until, 0, 20000)
		if end, _ := impl.EndOf(list, best, minute, 0); end > 1440 {
			over++
		}
		sizes[bits.Len64(uint64(found-1))]++
	}
	for size := range 6 {
		if sizes[size] < 30 {
			t.Errorf("too few items with up to %d programmes: %v", 1<<size, sizes)
		}
	}
	if over < 200 {
		t.Errorf("only %d programmes over midnight", over)
	}
}

// TestProgrammesWithExactEnds tries all times until which a few short items may last, from just before midnight on.
func TestProgrammesWithExactEnds(t *testing.T) {
	list := itemsFrom("a 1439,3,-1,2,1;b 1,5,-1,1,2;c 1438,2,-1,3,3;d 0,1439,-1,4,1")
	orders := ordersOf(4)
	for _, minute := range []int64{1437, 1438, 1439, 0, 1} {
		for until := minute; until < minute+12; until++ {
			checkProgrammes(t, list, orders, minute, until, 0)
		}
		checkProgrammes(t, list, orders, minute, minute+1440, 5)
	}
}

// hourCodes returns the codes of all functions that take items and times, with the sizes of what they return beside the codes.
func hourCodes(list []impl.Item, order []int64, minute, until, season, budget int64) ([]int64, int64) {
	fitting, one := impl.FittingAt(list, minute, season)
	end, two := impl.EndOf(list, order, minute, season)
	best, worth, three := impl.BestProgramme(list, minute, until, season, budget)
	count, four := impl.CountProgrammes(list, minute, until, season, budget)
	return []int64{one, two, three, four}, int64(len(fitting)+len(best)) + end + worth + count
}

func checkHourCodes(t *testing.T, want int64, list []impl.Item, order []int64, minute, until, season, budget int64) {
	t.Helper()
	codes, rest := hourCodes(list, order, minute, until, season, budget)
	if !slices.Equal(codes, slices.Repeat([]int64{want}, 4)) || rest != 0 || impl.IsProgramme(list, order, minute, until, season) {
		t.Errorf("%v, %v from %d until %d in %d with %d nodes: codes %v, others %d", list, order, minute, until, season, budget, codes, rest)
	}
}

// TestInvalidItems holds that ErrInvalid comes before all other errors.
func TestInvalidItems(t *testing.T) {
	for _, list := range invalidItemLists() {
		for _, order := range [][]int64{nil, {0}, {0, 0}, {-1}, {5000}} {
			for _, minute := range []int64{0, 1439, -1, 1440, math.MaxInt64, math.MinInt64} {
				checkHourCodes(t, impl.ErrInvalid, list, order, minute, minute, 0, 100)
				checkHourCodes(t, impl.ErrInvalid, list, order, minute, minute-1, 6, 0)
			}
			if worth, code := impl.WorthOf(list, order); worth != 0 || code != impl.ErrInvalid {
				t.Errorf("WorthOf(%v, %v) = %d, %d", list, order, worth, code)
			}
		}
	}
	for _, x := range invalidItems() {
		for _, minute := range []int64{0, 60, 1400, -1, 1440, x.From} {
			for _, season := range []int64{0, 5, -1, 6, x.Season} {
				if start, code := impl.NextStart(x, minute, season); start != 0 || code != impl.ErrInvalid || impl.FitsTime(x, minute, season) {
					t.Errorf("NextStart(%v, %d, %d) = %d, %d", x, minute, season, start, code)
				}
			}
		}
		if text := impl.ItemText(x); text != "" {
			t.Errorf("ItemText(%v) = %q", x, text)
		}
	}
}

func TestHoursOutOfRange(t *testing.T) {
	for _, list := range itemLists() {
		for _, minute := range notMinutes {
			checkHourCodes(t, impl.ErrRange, list, nil, minute, minute, 0, 100)
			checkHourCodes(t, impl.ErrRange, list, []int64{-1}, minute, minute+1440, 0, 100)
		}
		for _, season := range notSeasons {
			checkHourCodes(t, impl.ErrRange, list, nil, 0, 0, season, 100)
			checkHourCodes(t, impl.ErrRange, list, []int64{-1}, 1439, 1500, season, 100)
		}
		for _, minute := range []int64{0, 720, 1439} {
			for _, until := range []int64{math.MinInt64, -1, minute - 1, minute + 1441, minute + 2880, math.MaxInt64 - 1440, math.MaxInt64} {
				checkProgrammeRange(t, list, minute, until, 20000)
			}
			for _, budget := range notBudgets {
				checkProgrammeRange(t, list, minute, minute+10, budget)
			}
		}
	}
	for _, x := range goodItems() {
		for k, season := range notSeasons {
			checkStartRange(t, x, int64(k), season)
		}
		for _, minute := range notMinutes {
			checkStartRange(t, x, minute, 0)
			checkStartRange(t, x, minute, x.Season)
		}
	}
}

func checkStartRange(t *testing.T, x impl.Item, minute, season int64) {
	t.Helper()
	if start, code := impl.NextStart(x, minute, season); start != 0 || code != impl.ErrRange || impl.FitsTime(x, minute, season) {
		t.Errorf("NextStart(%v, %d, %d) = %d, %d", x, minute, season, start, code)
	}
}

func checkProgrammeRange(t *testing.T, list []impl.Item, minute, until, budget int64) {
	t.Helper()
	best, worth, one := impl.BestProgramme(list, minute, until, 0, budget)
	count, two := impl.CountProgrammes(list, minute, until, 0, budget)
	if len(best) != 0 || worth != 0 || one != impl.ErrRange || count != 0 || two != impl.ErrRange {
		t.Errorf("%v from %d until %d with %d nodes: %v, %d, %d, %d, %d", list, minute, until, budget, best, worth, one, count, two)
	}
}

func TestItemText(t *testing.T) {
	cases := []struct {
		x    impl.Item
		want string
	}{
		{impl.Item{Name: "late", From: 1380, Until: 60, Season: -1, Minutes: 60, Worth: 5}, "late 1380,60,-1,60,5"},
		{impl.Item{Name: "a", From: 0, Until: 1439, Season: 5, Minutes: 240, Worth: 1000}, "a 0,1439,5,240,1000"},
		{impl.Item{Name: "abcdefghij", From: 1439, Until: 0, Season: 0, Minutes: 1, Worth: 0}, "abcdefghij 1439,0,0,1,0"},
		{impl.Item{Name: "a", Minutes: 1}, ""}, {impl.Item{}, ""},
	}
	for _, c := range cases {
		if got := impl.ItemText(c.x); got != c.want {
			t.Errorf("ItemText(%v) = %q, want %q", c.x, got, c.want)
		}
	}
	all := goodItems()
	draw := rand.New(rand.NewSource(94))
	for range 100 {
		all = append(all, drawItems(draw, 12, drawMinute(draw))...)
	}
	for _, x := range all {
		text := impl.ItemText(x)
		if text != itemAsWritten(x) {
			t.Errorf("ItemText(%v) = %q", x, text)
		}
		if back, ok := impl.ReadItem(text); !ok || back != x {
			t.Errorf("ReadItem(%q) = %v, %v", text, back, ok)
		}
	}
}

func TestReadItemRefuses(t *testing.T) {
	bad := []string{
		"late", "late ", "late -", "late 1380,60,-1,60", "late 1380,60,-1,60,5,", "late 1380,60,-1,60,5,0", "late 1380,60,-1,60,,5", "late  1380,60,-1,60,5", " late 1380,60,-1,60,5",
		"late 1380,60,-1,60,5 ", "late 1380,60,-1,60,5\n", "late\t1380,60,-1,60,5", "late 1380 60 -1 60 5", "late 1380, 60,-1,60,5", "1380,60,-1,60,5", " 1380,60,-1,60,5", "Late 1380,60,-1,60,5",
		"9late 1380,60,-1,60,5", "latelatelate 1380,60,-1,60,5", "la te 1380,60,-1,60,5", "late 1440,60,-1,60,5", "late -1,60,-1,60,5", "late 1380,1440,-1,60,5", "late 1380,-1,-1,60,5", "late 60,60,-1,60,5",
		"late 1380,60,-2,60,5", "late 1380,60,6,60,5", "late 1380,60,-1,0,5", "late 1380,60,-1,241,5", "late 1380,60,-1,60,-1", "late 1380,60,-1,60,1001", "late 01380,60,-1,60,5", "late 1380,+60,-1,60,5",
		"late 1380,060,-1,60,5", "late 1380,60,-01,60,5", "late 1380,60,-0,60,5", "late 1380,60,-1,60,05", "late 1380,60,-1,60,a", "late 1380;60;-1;60;5", "late 18446744073709551617,60,-1,60,5",
		"late 1380,60,-1,60,9223372036854775808", "late 1380,60,-1,60,5\x00", "late\x00 1380,60,-1,60,5", "late 1380,60,-1,60,5 late", "late 1380,60,-1,60,5;noon 720,780,1,30,7", "late " + strings.Repeat("0,", 5000) + "0",
		strings.Repeat("late ", 5000), "late 1380,60,-1,60,5" + strings.Repeat(",1", 5000), strings.Repeat("a", 5000) + " 1380,60,-1,60,5",
	}
	for _, text := range append(bad, oddTexts...) {
		if x, ok := impl.ReadItem(text); ok || x != (impl.Item{}) {
			t.Errorf("ReadItem(%.100q) = %v, %v", text, x, ok)
		}
	}
}

// hasItem tells whether a text is that of an item.
func hasItem(text string) bool {
	name, list, _ := strings.Cut(text, " ")
	if strings.Count(list, ",") != 4 {
		return false
	}
	x := itemFrom(name + " " + list)
	return isItem(x) && itemAsWritten(x) == text
}

// TestReadItemTakesTextsOfItemsOnly changes, inserts and removes each byte of texts.
func TestReadItemTakesTextsOfItemsOnly(t *testing.T) {
	count := map[bool]int{}
	check := func(text string) {
		has := hasItem(text)
		count[has]++
		x, ok := impl.ReadItem(text)
		if ok != has || ok && itemAsWritten(x) != text || !ok && x != (impl.Item{}) {
			t.Errorf("ReadItem(%q) = %v, %v", text, x, ok)
		}
	}
	for _, text := range textsOver("a ,01-", 4) {
		check("a 0," + text + ",1,1")
		check(text + " 0,1,1,1,1")
		check(text + "0,1,1,1,1")
	}
	for _, x := range goodItems() {
		text := itemAsWritten(x)
		for _, edited := range editsOf(text, " ", ",", "-", "0", "1", "4", "9", "a", "z", "A", "+", "\t", "\xff", ";") {
			check(edited)
		}
	}
	if count[true] < 500 || count[false] < 500 {
		t.Errorf("texts of items and others: %v", count)
	}
}

// answersOfHours returns what chapter 8 answers to many arguments.
func answersOfHours() []any {
	var all []any
	keep := func(answers ...any) { all = append(all, answers...) }
	draw := rand.New(rand.NewSource(95))
	lists := append(itemLists(), invalidItemLists()...)
	for range 50 {
		lists = append(lists, drawItems(draw, 6, drawMinute(draw)))
	}
	for _, list := range lists {
		for _, minute := range []int64{0, 720, 1439, 1440} {
			season, until := draw.Int63n(4)-1, minute+draw.Int63n(1500)
			fitting, one := impl.FittingAt(list, minute, season)
			best, worth, two := impl.BestProgramme(list, minute, until, season, 20000)
			count, three := impl.CountProgrammes(list, minute, until, season, 20000)
			none, least, four := impl.BestProgramme(list, minute, until, season, 3)
			end, five := impl.EndOf(list, best, minute, season)
			sum, six := impl.WorthOf(list, fitting)
			keep(impl.ValidItems(list), fitting, one, best, worth, two, count, three, none, least, four, end, five, sum, six, impl.IsProgramme(list, best, minute, until, season))
		}
		for _, x := range list[:min(12, len(list))] {
			start, code := impl.NextStart(x, 100, 0)
			read, ok := impl.ReadItem(impl.ItemText(x))
			keep(impl.ValidItem(x), impl.FitsTime(x, 0, 0), start, code, impl.ItemText(x), read, ok)
		}
	}
	for _, text := range oddTexts {
		read, ok := impl.ReadItem(text)
		keep(read, ok)
	}
	return all
}

func TestHoursReturnEqualResults(t *testing.T) {
	first := answersOfHours()
	for range 5 {
		if !reflect.DeepEqual(answersOfHours(), first) {
			t.Error("equal arguments, other results")
		}
	}
}

// useHours calls all functions of chapter 8 that take lists, and returns the lists that they return.
func useHours(list []impl.Item, order []int64) [][]int64 {
	impl.ValidItems(list)
	impl.EndOf(list, order, 0, 0)
	impl.IsProgramme(list, order, 0, 1440, 0)
	impl.WorthOf(list, order)
	impl.CountProgrammes(list, 0, 700, 0, 20000)
	fitting, _ := impl.FittingAt(list, 0, 0)
	best, _, _ := impl.BestProgramme(list, 0, 700, 0, 20000)
	late, _, _ := impl.BestProgramme(list, 1400, 1800, 0, 20000)
	none, _, _ := impl.BestProgramme(list, 0, 700, 0, 1)
	return [][]int64{fitting, best, late, none}
}

func TestHoursModifyNoArgument(t *testing.T) {
	for _, list := range append(itemLists(), invalidItemLists()...) {
		whole := append(slices.Clone(list), itemsFrom("y 1,2,3,4,5;zz 9,8,7,6,5")...)
		before := slices.Clone(whole)
		for _, numbers := range [][]int64{nil, {0}, {1, 0}, {0, 0}, {2, 0, 1}, {5000}} {
			order, wholeOrder := spare(numbers)
			orderBefore := slices.Clone(wholeOrder)
			useHours(whole[:len(list)], order)
			if !slices.Equal(whole, before) || !slices.Equal(wholeOrder, orderBefore) {
				t.Fatalf("the memory of %v and %v was changed: %v, %v", list, numbers, whole, wholeOrder)
			}
		}
	}
}

// TestHoursReturnNewMemory spoils one list that was returned after the other, and holds that all others, and the arguments, stay.
func TestHoursReturnNewMemory(t *testing.T) {
	order := []int64{1, 0, 2}
	for _, list := range itemLists() {
		before := slices.Clone(list)
		wanted := useHours(list, order)
		for k := range wanted {
			lists := useHours(list, order)
			spoil(lists[k])
			for h := range lists {
				if h != k && !slices.Equal(lists[h], wanted[h]) {
					t.Errorf("list %d shares memory with list %d", h, k)
				}
			}
			if !slices.Equal(list, before) || !slices.Equal(order, []int64{1, 0, 2}) {
				t.Fatalf("list %d shares memory with an argument", k)
			}
			if again := useHours(list, order); !reflect.DeepEqual(again, wanted) {
				t.Errorf("list %d shares memory with later results", k)
			}
		}
	}
}
