package tests

import (
	"math"
	"math/big"
	"math/rand"
	"reflect"
	"slices"
	"strconv"
	"strings"
	"testing"

	"loop.example/g01033/impl"
)

// allPitches are the pitches from MinPitch to MaxPitch.
func allPitches() []int64 {
	var all []int64
	for pitch := int64(-12); pitch <= 23; pitch++ {
		all = append(all, pitch)
	}
	return all
}

func arc(from, pitch, to int64) impl.Arc { return impl.Arc{From: from, Pitch: pitch, To: to} }

// numbersOf reads numbers between commas, and - as none, without the functions of the program.
func numbersOf(text string) []int64 {
	numbers := []int64{}
	if text == "-" {
		return numbers
	}
	for _, word := range strings.Split(text, ",") {
		n, _ := strconv.ParseInt(word, 10, 64)
		numbers = append(numbers, n)
	}
	return numbers
}

// grammarFrom reads the text of a grammar without the functions of the program.
func grammarFrom(text string) impl.Grammar {
	parts := strings.Split(text, ";")
	head := numbersOf(parts[0])
	g := impl.Grammar{States: head[0], Start: head[1], Final: numbersOf(parts[1]), Arcs: []impl.Arc{}}
	for _, part := range parts[2:] {
		n := numbersOf(part)
		g.Arcs = append(g.Arcs, arc(n[0], n[1], n[2]))
	}
	return g
}

// grammarAsWritten is the text of a grammar whose numbers are those of texts.
func grammarAsWritten(g impl.Grammar) string {
	list := func(numbers ...int64) string {
		words := []string{}
		for _, n := range numbers {
			words = append(words, strconv.FormatInt(n, 10))
		}
		if len(words) == 0 {
			return "-"
		}
		return strings.Join(words, ",")
	}
	parts := []string{list(g.States, g.Start), list(g.Final...)}
	for _, x := range g.Arcs {
		parts = append(parts, list(x.From, x.Pitch, x.To))
	}
	return strings.Join(parts, ";")
}

// cloneGrammar returns a grammar that shares no memory with g.
func cloneGrammar(g impl.Grammar) impl.Grammar {
	g.Final, g.Arcs = slices.Clone(g.Final), slices.Clone(g.Arcs)
	return g
}

// changed returns a copy of a grammar that was changed.
func changed(g impl.Grammar, change func(*impl.Grammar)) impl.Grammar {
	g = cloneGrammar(g)
	change(&g)
	return g
}

// ringGrammar has states in a ring and, from each one to the next, arcs with the pitches from low on. It begins and ends at 0.
func ringGrammar(states, low, pitches int64) impl.Grammar {
	g := impl.Grammar{States: states, Final: []int64{0}}
	for state := range states {
		for pitch := range pitches {
			g.Arcs = append(g.Arcs, arc(state, low+pitch, (state+1)%states))
		}
	}
	return g
}

// chainGrammar has states one after the other, and arcs with one pitch from each to the next. Only the last one is final.
func chainGrammar(states, pitch int64) impl.Grammar {
	g := ringGrammar(states, pitch, 1)
	g.Final, g.Arcs = []int64{states - 1}, g.Arcs[:states-1]
	return g
}

// allFinal is a grammar with all states final, and arcs to the state 0 only.
func allFinal() impl.Grammar {
	g := impl.Grammar{States: 32, Start: 31}
	for state := range int64(32) {
		g.Final = append(g.Final, state)
		for pitch := range int64(8) {
			g.Arcs = append(g.Arcs, arc(state, 5*pitch-12, 0))
		}
	}
	return g
}

// namedGrammars are grammars with and without dead, final and unreached states, with few and with as many states and arcs as there may be.
func namedGrammars() []impl.Grammar {
	all := []impl.Grammar{
		ringGrammar(1, -12, 36), ringGrammar(2, -12, 36), ringGrammar(7, -12, 36), ringGrammar(32, 3, 8), ringGrammar(32, -12, 1), ringGrammar(31, 23, 1),
		chainGrammar(32, 0), chainGrammar(32, 23), chainGrammar(14, -12), chainGrammar(2, 0), allFinal(),
	}
	for _, text := range []string{
		"1,0;0;0,0,0", "1,0;-", "1,0;0", "1,0;-;0,0,0", "2,0;1;0,0,1;1,2,0", "1,0;0;0,0,0;0,2,0", "2,0;0;0,0,1", "2,0;-;0,0,1", "2,1;0", "2,1;0;1,5,0",
		"32,31;-", "32,31;31", "32,0;31", "3,0;2;0,-12,1;0,23,2;1,0,1",
		// The least pitch leads to a dead state, to a longer way, or to one that is as long.
		"4,0;3;0,0,1;0,2,2;1,0,1;2,0,3", "4,0;3;0,0,1;0,2,3;1,0,2;2,0,3", "4,0;3;0,0,1;0,2,2;1,5,3;2,0,3", "5,0;4;0,-1,1;0,0,2;0,1,3;1,0,1;2,7,4;3,5,4",
		"3,0;0,2;0,0,0;1,1,2;2,4,1", "2,1;0,1;0,-1,1;1,-1,0;1,0,1", "4,3;0;0,4,0;1,0,0;1,2,1;2,0,1;3,0,1;3,2,0", "3,0;0;0,0,1;1,0,2", "3,1;0;0,0,1;1,0,2;1,2,0;2,2,2",
		"6,5;1,3;0,0,0;1,0,2;2,0,1;2,7,0;3,7,3;5,0,1;5,2,3;5,4,4;5,5,0", "2,0;1;0,-12,0;0,0,1;0,23,0;1,-12,1;1,0,0;1,23,1", "3,2;0,1,2;0,0,1;1,0,2;2,0,0",
	} {
		all = append(all, grammarFrom(text))
	}
	return all
}

// drawGrammar draws a valid grammar with some of the pitches, and about one arc for each sparse pairs of a state and a pitch.
func drawGrammar(draw *rand.Rand, states int64, pitches []int64, sparse int) impl.Grammar {
	pitches = slices.Clone(pitches)
	slices.Sort(pitches)
	g := impl.Grammar{States: states, Start: draw.Int63n(states), Final: []int64{}, Arcs: []impl.Arc{}}
	for state := range states {
		if draw.Int63n(states) < 2 {
			g.Final = append(g.Final, state)
		}
		for _, pitch := range pitches {
			if draw.Intn(sparse) == 0 && len(g.Arcs) < 256 {
				g.Arcs = append(g.Arcs, arc(state, pitch, draw.Int63n(states)))
			}
		}
	}
	return g
}

// drawnGrammars are small and great grammars.
func drawnGrammars(seed int64, count int) []impl.Grammar {
	draw := rand.New(rand.NewSource(seed))
	var all []impl.Grammar
	for range count {
		most := []int64{2, 3, 4, 6, 32}[draw.Intn(5)]
		all = append(all, drawGrammar(draw, 1+draw.Int63n(most), drawnNumbers(draw), 1+draw.Intn(5)))
	}
	return all
}

// isGrammar is what the document calls a valid grammar.
func isGrammar(g impl.Grammar) bool {
	isState := func(n int64) bool { return n >= 0 && n < g.States }
	if g.States < 1 || g.States > 32 || !isState(g.Start) || len(g.Arcs) > 256 {
		return false
	}
	for k, state := range g.Final {
		if !isState(state) || k > 0 && state <= g.Final[k-1] {
			return false
		}
	}
	for k, x := range g.Arcs {
		if !isState(x.From) || !isState(x.To) || x.Pitch < -12 || x.Pitch > 23 {
			return false
		}
		if k > 0 && (x.From < g.Arcs[k-1].From || x.From == g.Arcs[k-1].From && x.Pitch <= g.Arcs[k-1].Pitch) {
			return false
		}
	}
	return true
}

// invalidGrammars are invalid for one reason each, or for several.
func invalidGrammars() []impl.Grammar {
	tooMany := changed(ringGrammar(8, -9, 32), func(g *impl.Grammar) { g.Arcs = append(g.Arcs, arc(7, 23, 0)) })
	// That there are too many arcs is all that is wrong.
	slices.SortFunc(tooMany.Arcs, func(a, b impl.Arc) int { return int((a.From-b.From)*100 + a.Pitch - b.Pitch) })
	all := []impl.Grammar{
		{}, {Start: -1}, {States: -1}, {States: -1, Start: -1}, {States: -1, Start: -2}, {States: 33}, {States: 33, Start: 32, Final: []int64{32}}, tooMany,
		{Final: []int64{0}}, {Arcs: []impl.Arc{arc(0, 0, 0)}}, {States: math.MinInt64}, {States: math.MinInt64, Start: math.MinInt64}, {States: math.MaxInt64},
		{States: 5000, Final: make([]int64, 5000)}, {States: 1, Final: make([]int64, 5000)}, {States: 1, Arcs: make([]impl.Arc, 256)}, {States: 1, Arcs: make([]impl.Arc, 5000)},
		changed(ringGrammar(32, -12, 8), func(g *impl.Grammar) { g.States = 33 }), changed(ringGrammar(32, -12, 8), func(g *impl.Grammar) { g.States = 31 }),
	}
	one := grammarFrom("4,0;0,2;0,0,1;0,2,2;2,-1,3;2,4,0")
	for _, n := range []int64{math.MinInt64, -impl.MaxValue, -1, 4, 5, 32, impl.MaxValue, math.MaxInt64} {
		all = append(all, changed(one, func(g *impl.Grammar) { g.Start = n }))
		for _, final := range [][]int64{{n}, {n, 0, 2}, {0, n}, {0, 2, n}, {0, n, 2}} {
			all = append(all, changed(one, func(g *impl.Grammar) { g.Final = final }))
		}
		for k := range one.Arcs {
			all = append(all, changed(one, func(g *impl.Grammar) { g.Arcs[k].From = n }), changed(one, func(g *impl.Grammar) { g.Arcs[k].To = n }))
		}
	}
	for _, final := range [][]int64{{0, 0}, {2, 0}, {0, 2, 2}, {0, 2, 1}, {3, 3}, {0, 1, 2, 3, 3}, {1, 0, 2, 3}} {
		all = append(all, changed(one, func(g *impl.Grammar) { g.Final = final }))
	}
	for _, n := range []int64{math.MinInt64, -impl.MaxValue, -13, 24, impl.MaxValue, math.MaxInt64} {
		for k := range one.Arcs {
			all = append(all, changed(one, func(g *impl.Grammar) { g.Arcs[k].Pitch = n }))
		}
		all = append(all, changed(one, func(g *impl.Grammar) { g.Arcs = []impl.Arc{arc(1, n, 1)} }))
	}
	for _, arcs := range [][]impl.Arc{
		{arc(0, 0, 1), arc(0, 0, 1)}, {arc(0, 0, 1), arc(0, 0, 2)}, {arc(0, 0, 2), arc(0, 0, 1)}, {arc(0, 2, 1), arc(0, 0, 1)}, {arc(1, 0, 0), arc(0, 2, 0)},
		{arc(1, 0, 0), arc(0, 0, 0)}, {arc(0, 0, 0), arc(2, 4, 0), arc(1, 5, 0)}, {arc(0, 0, 0), arc(1, 4, 0), arc(1, 4, 3), arc(2, 4, 0)},
		{arc(0, 0, 0), arc(1, 4, 0), arc(1, 3, 0), arc(2, 4, 0)}, {arc(3, 0, 0), arc(3, -1, 1)},
	} {
		all = append(all, changed(one, func(g *impl.Grammar) { g.Arcs = arcs }))
	}
	return all
}

// toOf looks through all arcs for the one from a state with a pitch, and returns where it leads, -1 if there is none.
func toOf(g impl.Grammar, from, pitch int64) int64 {
	for _, x := range g.Arcs {
		if x.From == from && x.Pitch == pitch {
			return x.To
		}
	}
	return -1
}

// pathOf returns the states through which a grammar goes, with Start, and whether it accepts.
func pathOf(g impl.Grammar, pitches []int64) ([]int64, bool) {
	path := []int64{g.Start}
	for k, pitch := range pitches {
		to := toOf(g, path[k], pitch)
		if to < 0 {
			return path, false
		}
		path = append(path, to)
	}
	return path, slices.Contains(g.Final, path[len(pitches)])
}

// acceptedLists returns all accepted lists of n pitches, out of all that lead from Start, in lexicographic order.
func acceptedLists(g impl.Grammar, n int64) [][]int64 {
	lists := [][]int64{{}}
	for range n {
		var longer [][]int64
		for _, list := range lists {
			path, _ := pathOf(g, list)
			for _, pitch := range allPitches() {
				if toOf(g, path[len(list)], pitch) >= 0 {
					longer = append(longer, append(slices.Clone(list), pitch))
				}
			}
		}
		lists = longer
	}
	return slices.DeleteFunc(lists, func(list []int64) bool {
		_, ok := pathOf(g, list)
		return !ok
	})
}

// countAsWritten counts the accepted lists of n pitches from the beginning on, without limits.
func countAsWritten(g impl.Grammar, n int64) *big.Int {
	ways := map[int64]*big.Int{g.Start: big.NewInt(1)}
	for range n {
		next := map[int64]*big.Int{}
		for _, x := range g.Arcs {
			if ways[x.From] == nil {
				continue
			}
			if next[x.To] == nil {
				next[x.To] = new(big.Int)
			}
			next[x.To].Add(next[x.To], ways[x.From])
		}
		ways = next
	}
	sum := new(big.Int)
	for _, state := range g.Final {
		if ways[state] != nil {
			sum.Add(sum, ways[state])
		}
	}
	return sum
}

func TestGrammarConstants(t *testing.T) {
	got := []int64{impl.MaxStates, impl.MaxGrammarArcs, impl.MaxGrammarLong}
	if want := []int64{32, 256, 12}; !slices.Equal(got, want) {
		t.Errorf("constants: got %v, want %v", got, want)
	}
}

func TestValidGrammar(t *testing.T) {
	valid := slices.Concat(namedGrammars(), drawnGrammars(70, 200), []impl.Grammar{
		{States: 1}, {States: 32, Start: 31}, {States: 1, Final: []int64{}, Arcs: []impl.Arc{}}, {States: 1, Arcs: []impl.Arc{arc(0, -12, 0), arc(0, 23, 0)}},
	})
	for _, g := range valid {
		if !impl.ValidGrammar(g) {
			t.Errorf("ValidGrammar(%v) = false", g)
		}
	}
	for _, g := range invalidGrammars() {
		if impl.ValidGrammar(g) {
			t.Errorf("ValidGrammar(%v) = true", g)
		}
	}
	if most := ringGrammar(32, 3, 8); len(most.Arcs) != 256 {
		t.Errorf("only %d arcs", len(most.Arcs))
	}
}

// TestValidGrammarAsWritten changes a number of grammars, so that most of them, but not all, stay valid.
func TestValidGrammarAsWritten(t *testing.T) {
	draw := rand.New(rand.NewSource(71))
	count := map[bool]int{}
	for _, g := range drawnGrammars(72, 6000) {
		number := draw.Int63n(g.States+3) - 1
		switch draw.Intn(6) {
		case 0:
			g.States = number
		case 1:
			g.Start = number
		case 2:
			g.Final = append(g.Final, number)
		case 3, 4, 5:
			if len(g.Arcs) > 0 {
				x := &g.Arcs[draw.Intn(len(g.Arcs))]
				*[]*int64{&x.From, &x.To, &x.Pitch}[draw.Intn(3)] += draw.Int63n(5) - 2
			}
		}
		want := isGrammar(g)
		count[want]++
		if got := impl.ValidGrammar(g); got != want {
			t.Errorf("ValidGrammar(%v) = %v", g, got)
		}
	}
	if count[true] < 500 || count[false] < 500 {
		t.Errorf("grammars and others: %v", count)
	}
}

func TestSameGrammar(t *testing.T) {
	changes := []func(*impl.Grammar){
		func(g *impl.Grammar) { g.States++ },
		func(g *impl.Grammar) { g.Start-- },
		func(g *impl.Grammar) { g.Final = append(g.Final, 31) },
		func(g *impl.Grammar) { g.Arcs = append(g.Arcs, arc(0, 0, 0)) },
		func(g *impl.Grammar) { g.States, g.Start = g.States+7, g.Start-7 },
	}
	for _, g := range slices.Concat(namedGrammars(), drawnGrammars(73, 20), invalidGrammars()) {
		if !impl.SameGrammar(g, g) || !impl.SameGrammar(g, cloneGrammar(g)) {
			t.Errorf("SameGrammar(%v and itself) = false", g)
		}
		others := []impl.Grammar{}
		for _, change := range changes {
			others = append(others, changed(g, change))
		}
		for k := range g.Final {
			others = append(others, changed(g, func(g *impl.Grammar) { g.Final[k]++ }), changed(g, func(g *impl.Grammar) { g.Final = slices.Delete(g.Final, k, k+1) }))
		}
		for k := range min(len(g.Arcs), 40) {
			others = append(others, changed(g, func(g *impl.Grammar) { g.Arcs[k].From++ }), changed(g, func(g *impl.Grammar) { g.Arcs[k].Pitch-- }))
			others = append(others, changed(g, func(g *impl.Grammar) { g.Arcs[k].To++ }), changed(g, func(g *impl.Grammar) { g.Arcs = slices.Delete(g.Arcs, k, k+1) }))
		}
		for _, other := range others {
			if impl.SameGrammar(g, other) || impl.SameGrammar(other, g) {
				t.Errorf("the same: %v and %v", g, other)
			}
		}
	}
	empty := impl.Grammar{Final: []int64{}, Arcs: []impl.Arc{}}
	if !impl.SameGrammar(impl.Grammar{}, empty) || !impl.SameGrammar(empty, impl.Grammar{}) {
		t.Error("nil and empty lists differ")
	}
}

// checkGrammar holds a grammar that was returned against its text, the empty one if there is none.
func checkGrammar(t *testing.T, what string, g impl.Grammar, code int64, text string, wantCode int64) {
	t.Helper()
	if code != wantCode || code == impl.OK && grammarAsWritten(g) != text || code != impl.OK && !impl.SameGrammar(g, impl.Grammar{}) {
		t.Errorf("%s = %s, %d, want %s, %d", what, grammarAsWritten(g), code, text, wantCode)
	}
}

func TestGrammarOf(t *testing.T) {
	cases := []struct {
		raga      string
		low, high int64
		text      string
		code      int64
	}{
		{bhupaliText, 0, 2, "3,0;1;0,0,1;0,2,2;1,0,1;1,2,2;2,0,1;2,2,2", 0},
		{bhupaliText, 0, 0, "2,0;1;0,0,1;1,0,1", 0},
		{bhupaliText, 12, 12, "2,0;1;0,12,1;1,12,1", 0},
		{bhupaliText, -12, -12, "2,0;1;0,-12,1;1,-12,1", 0},
		// Without a tonic nothing is accepted, and without a tone there is nothing to follow.
		{bhupaliText, 2, 3, "2,0;-;0,2,1;1,2,1", 0},
		{bhupaliText, 5, 6, "1,0;-", 0},
		{bhupaliText, 22, 23, "1,0;-", 0},
		{yamanText, 23, 23, "2,0;-;0,23,1;1,23,1", 0},
		// 4 is a tone downwards only, and from it to 2 the move is forbidden.
		{deshText, 4, 5, "3,0;-;0,4,1;0,5,2;1,4,1;1,5,2;2,4,1;2,5,2", 0},
		{deshText, 2, 4, "3,0;-;0,2,1;0,4,2;1,2,1;2,4,2", 0},
		{bhupaliText, 0, 7, "5,0;1;0,0,1;0,2,2;0,4,3;0,7,4;1,0,1;1,2,2;1,4,3;1,7,4;2,0,1;2,2,2;2,4,3;2,7,4;3,0,1;3,2,2;3,4,3;3,7,4;4,0,1;4,2,2;4,4,3;4,7,4", 0},
		{bhupaliText, 7, 0, "", impl.ErrRange}, {bhupaliText, 1, 0, "", impl.ErrRange}, {bhupaliText, -13, 0, "", impl.ErrRange}, {bhupaliText, 0, 24, "", impl.ErrRange},
		{bhupaliText, 24, 24, "", impl.ErrRange}, {bhupaliText, -13, -13, "", impl.ErrRange}, {bhupaliText, 24, 30, "", impl.ErrRange},
		{bhupaliText, math.MinInt64, math.MaxInt64, "", impl.ErrRange}, {bhupaliText, math.MaxInt64, math.MinInt64, "", impl.ErrRange},
		{"all SrRgGmMPdDnN SrRgGmMPdDnN SP", -12, 23, "", impl.ErrFull}, {"all SrRgGmMPdDnN SrRgGmMPdDnN SP", 0, 15, "", impl.ErrFull},
		{"all SrRgGmMPdDnN SrRgGmMPdDnN SP", 23, -12, "", impl.ErrRange}, {"all SrRgGmMPdDnN SrRgGmMPdDnN SP", -13, 23, "", impl.ErrRange},
	}
	for _, c := range cases {
		g, code := impl.GrammarOf(ragaOf(c.raga), c.low, c.high)
		checkGrammar(t, "GrammarOf("+c.raga+", "+impl.Decimal(c.low)+", "+impl.Decimal(c.high)+")", g, code, c.text, c.code)
	}
}

// grammarOfMoves is the grammar of a raga in a range by its definition, for the moves that are allowed, and whether it has room.
func grammarOfMoves(r impl.Raga, allowed map[[2]int64]bool, low, high int64) (impl.Grammar, bool) {
	tones := tonesAsWritten(r)
	states := map[int64]int64{}
	g := impl.Grammar{States: 1}
	for pitch := low; pitch <= high; pitch++ {
		if slices.Contains(tones, (pitch+12)%12) {
			states[pitch] = g.States
			g.Arcs = append(g.Arcs, arc(0, pitch, g.States))
			if (pitch+12)%12 == 0 {
				g.Final = append(g.Final, g.States)
			}
			g.States++
		}
	}
	for from := low; from <= high; from++ {
		for to := low; to <= high; to++ {
			if allowed[[2]int64{from, to}] {
				g.Arcs = append(g.Arcs, arc(states[from], to, states[to]))
			}
		}
	}
	return g, g.States <= 32 && len(g.Arcs) <= 256
}

// TestGrammarOfAsWritten goes through all ranges of many ragas.
func TestGrammarOfAsWritten(t *testing.T) {
	arcs := map[int]int{}
	for _, r := range slices.Concat(namedRagas(), drawnRagas(60)) {
		allowed := map[[2]int64]bool{}
		for _, from := range allPitches() {
			for _, to := range allPitches() {
				allowed[[2]int64{from, to}] = reasonAsWritten(r, from, to) == 0
			}
		}
		for low := int64(-13); low <= 24; low++ {
			for high := int64(-13); high <= 24; high++ {
				got, code := impl.GrammarOf(r, low, high)
				if low < -12 || high > 23 || low > high {
					checkGrammar(t, "GrammarOf", got, code, "", impl.ErrRange)
					continue
				}
				want, hasRoom := grammarOfMoves(r, allowed, low, high)
				arcs[len(want.Arcs)]++
				wantCode := int64(impl.OK)
				if !hasRoom {
					want, wantCode = impl.Grammar{}, impl.ErrFull
				}
				if code != wantCode || !impl.SameGrammar(got, want) || code == impl.OK && !impl.ValidGrammar(got) {
					t.Fatalf("GrammarOf(%v, %d, %d) = %v, %d, want %v, %d", r, low, high, got, code, want, wantCode)
				}
			}
		}
	}
	if arcs[0] == 0 || arcs[255] == 0 || arcs[256] == 0 || arcs[257] == 0 {
		t.Errorf("no range with 0, 255, 256 or 257 arcs: %v", arcs)
	}
}

func TestGrammarOfInvalidRagas(t *testing.T) {
	for _, r := range invalidRagas() {
		for _, n := range [][2]int64{{0, 12}, {12, 0}, {-12, 23}, {math.MinInt64, math.MaxInt64}} {
			g, code := impl.GrammarOf(r, n[0], n[1])
			checkGrammar(t, "GrammarOf an invalid raga", g, code, "", impl.ErrInvalid)
		}
	}
	for _, low := range numbersAround {
		for _, high := range numbersAround {
			g, code := impl.GrammarOf(ragaOf(bhupaliText), low, high)
			isRange := low >= -12 && low <= high && high <= 23
			if (code == impl.ErrRange) == isRange || code != impl.OK && !impl.SameGrammar(g, impl.Grammar{}) {
				t.Errorf("GrammarOf(%d, %d) = %v, %d", low, high, g, code)
			}
		}
	}
}

func TestAccepts(t *testing.T) {
	turns := "4,0;0,3;0,0,1;0,2,2;1,4,1;1,5,3;2,7,0;3,-1,0"
	cases := []struct {
		text    string
		pitches []int64
		want    bool
	}{
		{turns, nil, true}, {turns, []int64{}, true}, {turns, []int64{0}, false}, {turns, []int64{0, 5}, true}, {turns, []int64{0, 4, 4, 4, 5}, true}, {turns, []int64{2, 7}, true},
		{turns, []int64{2}, false}, {turns, []int64{5}, false}, {turns, []int64{0, 5, 5}, false}, {turns, []int64{0, 5, -1, 2, 7}, true}, {turns, []int64{0, 5, 11}, false},
		{turns, []int64{12, 5}, false}, {turns, []int64{0, 4, 5, -1, 24}, false}, {turns, []int64{math.MinInt64}, false}, {turns, []int64{2, 7, math.MaxInt64}, false},
		{"1,0;0;0,0,0", make([]int64, 13), true}, {"1,0;0;0,0,0", make([]int64, 65), true}, {"1,0;0;0,0,0", make([]int64, 50000), true},
		{"1,0;0;0,0,0", append(make([]int64, 50000), 1), false}, {"1,0;0;0,0,0", append([]int64{1}, make([]int64, 12)...), false},
		{"1,0;-;0,0,0", nil, false}, {"1,0;-;0,0,0", []int64{0}, false}, {"1,0;0", nil, true}, {"1,0;0", []int64{0}, false}, {"1,0;-", nil, false},
		{"2,0;1;0,0,1", nil, false}, {"2,0;1;0,0,1", []int64{0}, true}, {"2,1;1;0,0,1", nil, true}, {"2,1;1;0,0,1", []int64{0}, false}, {"2,0;0;0,0,1", []int64{0}, false},
	}
	for _, c := range cases {
		if got := impl.Accepts(grammarFrom(c.text), c.pitches); got != c.want {
			t.Errorf("Accepts(%s, %v) = %v", c.text, c.pitches, got)
		}
	}
	for _, g := range invalidGrammars() {
		if impl.Accepts(g, nil) || impl.Accepts(g, []int64{0}) || impl.Accepts(g, []int64{0, 0}) {
			t.Errorf("Accepts(%v) = true", g)
		}
	}
}

func TestWrongTurn(t *testing.T) {
	turns := "4,0;0,3;0,0,1;0,2,2;1,4,1;1,5,3;2,7,0;3,-1,0"
	cases := []struct {
		text    string
		pitches []int64
		count   int64
		next    []int64
		code    int64
	}{
		{turns, nil, 0, nil, impl.ErrNotFound}, {turns, []int64{0, 5}, 0, nil, impl.ErrNotFound}, {turns, []int64{2, 7}, 0, nil, impl.ErrNotFound},
		{turns, []int64{0}, 1, []int64{4, 5}, 0}, {turns, []int64{5}, 0, []int64{0, 2}, 0}, {turns, []int64{5, 0}, 0, []int64{0, 2}, 0}, {turns, []int64{0, 2}, 1, []int64{4, 5}, 0},
		{turns, []int64{2, 7, 2}, 3, []int64{7}, 0}, {turns, []int64{2, 7, 2, 6}, 3, []int64{7}, 0}, {turns, []int64{0, 5, 0}, 2, []int64{-1}, 0},
		{turns, []int64{math.MinInt64}, 0, []int64{0, 2}, 0}, {turns, []int64{0, math.MaxInt64, 4}, 1, []int64{4, 5}, 0}, {turns, []int64{24, 0}, 0, []int64{0, 2}, 0},
		// From some states no arcs lead, and from others only arcs to dead states, which count all the same.
		{"2,0;1;0,0,1", []int64{0, 0}, 1, nil, 0}, {"2,0;1;0,0,1", nil, 0, []int64{0}, 0}, {"2,0;-;0,0,1", nil, 0, []int64{0}, 0}, {"2,0;-;0,0,1", []int64{0}, 1, nil, 0},
		{"1,0;-", nil, 0, nil, 0}, {"1,0;-", []int64{0}, 0, nil, 0}, {"1,0;0", []int64{0}, 0, nil, 0}, {"3,0;0;0,0,1;1,-5,2;1,5,2", []int64{0}, 1, []int64{-5, 5}, 0},
		{"1,0;0;0,0,0", append(make([]int64, 50000), 1, 0), 50000, []int64{0}, 0}, {"1,0;-;0,0,0", make([]int64, 50000), 50000, []int64{0}, 0},
		{"2,1;0;0,1,0;1,-12,0;1,23,1", []int64{23, 23, 1}, 2, []int64{-12, 23}, 0},
	}
	for _, c := range cases {
		count, next, code := impl.WrongTurn(grammarFrom(c.text), c.pitches)
		if count != c.count || !slices.Equal(next, c.next) || code != c.code {
			t.Errorf("WrongTurn(%s, %v) = %d, %v, %d, want %d, %v, %d", c.text, c.pitches, count, next, code, c.count, c.next, c.code)
		}
	}
}

// TestTurnsAsWritten follows drawn walks through grammars, and walks in which pitches were changed.
func TestTurnsAsWritten(t *testing.T) {
	draw := rand.New(rand.NewSource(74))
	count := map[bool]int{}
	for _, g := range slices.Concat(namedGrammars(), drawnGrammars(75, 400)) {
		for range 20 {
			pitches, state := []int64{}, g.Start
			for range draw.Intn(30) {
				from := slices.DeleteFunc(slices.Clone(g.Arcs), func(x impl.Arc) bool { return x.From != state })
				if len(from) > 0 {
					x := from[draw.Intn(len(from))]
					pitches, state = append(pitches, x.Pitch), x.To
				}
			}
			for range draw.Intn(2) * len(pitches) / 4 {
				pitches[draw.Intn(len(pitches))] = draw.Int63n(38) - 13
			}
			path, accepted := pathOf(g, pitches)
			count[accepted]++
			if got := impl.Accepts(g, pitches); got != accepted {
				t.Errorf("Accepts(%v, %v) = %v", g, pitches, got)
			}
			wantCount, want, wantCode := int64(0), []int64{}, int64(impl.ErrNotFound)
			if !accepted {
				wantCount, wantCode = int64(len(path)-1), impl.OK
				for _, pitch := range allPitches() {
					if toOf(g, path[wantCount], pitch) >= 0 {
						want = append(want, pitch)
					}
				}
			}
			follows, next, code := impl.WrongTurn(g, pitches)
			if follows != wantCount || !slices.Equal(next, want) || code != wantCode {
				t.Errorf("WrongTurn(%v, %v) = %d, %v, %d, want %d, %v, %d", g, pitches, follows, next, code, wantCount, want, wantCode)
			}
		}
	}
	if count[true] < 500 || count[false] < 500 {
		t.Errorf("accepted lists and others: %v", count)
	}
}

func TestCountMelodies(t *testing.T) {
	cases := []struct {
		g    impl.Grammar
		want []int64
	}{
		{grammarFrom("1,0;0;0,0,0"), slices.Repeat([]int64{1}, 13)},
		{grammarFrom("1,0;-;0,0,0"), make([]int64, 13)},
		{grammarFrom("1,0;0"), append([]int64{1}, make([]int64, 12)...)},
		{grammarFrom("2,0;1;0,0,1;1,2,0"), []int64{0, 1, 0, 1, 0, 1, 0, 1, 0, 1, 0, 1, 0}},
		{grammarFrom("2,0;0;0,0,1"), append([]int64{1}, make([]int64, 12)...)},
		{grammarFrom("2,0;0,1;0,0,0;0,2,1;1,0,0"), []int64{1, 2, 3, 5, 8, 13, 21, 34, 55, 89, 144, 233, 377}},
		{ringGrammar(1, -12, 36), []int64{1, 36, 1296, 46656, 1679616, 60466176, 2176782336, 78364164096, 2821109907456, 101559956668416, 3656158440062976, 131621703842267136, 4738381338321616896}},
		{ringGrammar(3, 0, 7), []int64{1, 0, 0, 343, 0, 0, 117649, 0, 0, 40353607, 0, 0, 13841287201}},
		{chainGrammar(13, 0), append(make([]int64, 12), 1)},
		{chainGrammar(14, 0), make([]int64, 13)},
	}
	for _, c := range cases {
		for n, want := range c.want {
			if got, code := impl.CountMelodies(c.g, int64(n)); got != want || code != impl.OK {
				t.Errorf("CountMelodies(%s, %d) = %d, %d, want %d", grammarAsWritten(c.g), n, got, code, want)
			}
		}
		for _, n := range numbersAround {
			if got, code := impl.CountMelodies(c.g, n); (n < 0 || n > 12) && (got != 0 || code != impl.ErrRange) {
				t.Errorf("CountMelodies(%d) = %d, %d", n, got, code)
			}
		}
	}
}

// checkMelodies holds numbers and melodies of a length against all accepted lists, and returns how many there are.
func checkMelodies(t *testing.T, g impl.Grammar, n int64) int {
	t.Helper()
	lists := acceptedLists(g, n)
	if count, code := impl.CountMelodies(g, n); count != int64(len(lists)) || code != impl.OK {
		t.Fatalf("CountMelodies(%v, %d) = %d, %d, want %d", g, n, count, code, len(lists))
	}
	for k, list := range lists {
		melody, one := impl.NumberedMelody(g, n, int64(k))
		number, two := impl.MelodyNumber(g, list)
		if !slices.Equal(melody, list) || one != impl.OK || number != int64(k) || two != impl.OK {
			t.Fatalf("%v, %d, %d: %v, %d, %d, %d, want %v", g, n, k, melody, one, number, two, list)
		}
	}
	for _, k := range []int64{math.MinInt64, -1, int64(len(lists)), int64(len(lists)) + 1, math.MaxInt64} {
		if melody, code := impl.NumberedMelody(g, n, k); len(melody) != 0 || code != impl.ErrRange {
			t.Fatalf("NumberedMelody(%v, %d, %d) = %v, %d", g, n, k, melody, code)
		}
	}
	return len(lists)
}

// TestMelodiesAndNumbersLeadToEachOther is the second half of promise 8, where all lists can be tried.
func TestMelodiesAndNumbersLeadToEachOther(t *testing.T) {
	count := map[bool]int{}
	for _, g := range slices.Concat(namedGrammars(), drawnGrammars(76, 300)) {
		most := int64(4)
		for most > 1 && countAsWritten(changed(g, func(g *impl.Grammar) { g.Final = allFinal().Final[:g.States] }), most).Int64() > 1500 {
			most--
		}
		for n := range most + 1 {
			count[checkMelodies(t, g, n) > 0]++
		}
	}
	if count[true] < 300 || count[false] < 300 {
		t.Errorf("lengths with melodies and others: %v", count)
	}
}

// TestNumbersOfLongMelodies is the second half of promise 8, where there are too many lists to try.
func TestNumbersOfLongMelodies(t *testing.T) {
	draw := rand.New(rand.NewSource(77))
	found := 0
	for _, g := range slices.Concat(namedGrammars(), drawnGrammars(78, 200)) {
		for n := int64(5); n <= 12; n++ {
			count, code := impl.CountMelodies(g, n)
			if want := countAsWritten(g, n); code != impl.OK || want.Cmp(big.NewInt(count)) != 0 {
				t.Fatalf("CountMelodies(%v, %d) = %d, %d, want %v", g, n, count, code, want)
			}
			numbers := []int64{0, 1, 2, count / 2, count - 2, count - 1}
			for range 4 {
				numbers = append(numbers, draw.Int63n(max(count, 1)))
			}
			slices.Sort(numbers)
			var before []int64
			last := int64(-1)
			for _, number := range slices.Compact(numbers) {
				if number < 0 || number >= count {
					continue
				}
				melody, one := impl.NumberedMelody(g, n, number)
				back, two := impl.MelodyNumber(g, melody)
				_, accepted := pathOf(g, melody)
				if one != impl.OK || back != number || two != impl.OK || !accepted || int64(len(melody)) != n || last >= 0 && !isBefore(before, melody) {
					t.Fatalf("%v, %d, %d: %v, %d, %d, %d, behind %v", g, n, number, melody, one, back, two, before)
				}
				before, last = melody, number
				found++
			}
			for _, number := range []int64{-1, count, math.MinInt64, math.MaxInt64} {
				if melody, code := impl.NumberedMelody(g, n, number); len(melody) != 0 || code != impl.ErrRange {
					t.Errorf("NumberedMelody(%v, %d, %d) = %v, %d", g, n, number, melody, code)
				}
			}
		}
	}
	if found < 2000 {
		t.Errorf("only %d melodies", found)
	}
}

func TestMelodyNumber(t *testing.T) {
	most := slices.Repeat([]int64{23}, 12)
	turns := "4,0;0,3;0,0,1;0,2,2;1,4,1;1,5,3;2,7,0;3,-1,0"
	cases := []struct {
		g       impl.Grammar
		pitches []int64
		number  int64
		code    int64
	}{
		{grammarFrom(turns), nil, 0, 0}, {grammarFrom(turns), []int64{0, 5}, 0, 0}, {grammarFrom(turns), []int64{2, 7}, 1, 0}, {grammarFrom(turns), []int64{0, 4, 5}, 0, 0},
		{grammarFrom(turns), []int64{0, 5, -1}, 1, 0}, {grammarFrom(turns), []int64{0, 5, -1, 0, 5}, 2, 0},
		{grammarFrom(turns), []int64{0}, 0, impl.ErrNotFound}, {grammarFrom(turns), []int64{0, 5, 24}, 0, impl.ErrNotFound}, {grammarFrom(turns), []int64{math.MinInt64}, 0, impl.ErrNotFound},
		{grammarFrom("1,0;-"), nil, 0, impl.ErrNotFound}, {grammarFrom("1,0;0;0,0,0"), make([]int64, 12), 0, 0}, {grammarFrom("1,0;0;0,0,0"), make([]int64, 13), 0, impl.ErrRange},
		{grammarFrom("1,0;0;0,0,0"), append(make([]int64, 11), 1), 0, impl.ErrNotFound}, {grammarFrom("1,0;-;0,0,0"), make([]int64, 13), 0, impl.ErrRange},
		{grammarFrom("1,0;-;0,0,0"), make([]int64, 12), 0, impl.ErrNotFound}, {grammarFrom("1,0;0;0,0,0"), make([]int64, 50000), 0, impl.ErrRange},
		{ringGrammar(1, -12, 36), most, 4738381338321616895, 0}, {ringGrammar(1, -12, 36), append(most, 23), 0, impl.ErrRange}, {ringGrammar(1, -12, 36), append(most[:11:11], 24), 0, impl.ErrNotFound},
		// What leads to a dead state only does not count.
		{grammarFrom("4,0;3;0,0,1;0,2,2;1,0,1;2,0,3"), []int64{2, 0}, 0, 0}, {grammarFrom("4,0;3;0,0,1;0,2,2;1,0,1;2,0,3"), []int64{0, 0}, 0, impl.ErrNotFound},
	}
	for _, c := range cases {
		number, code := impl.MelodyNumber(c.g, c.pitches)
		if number != c.number || code != c.code {
			t.Errorf("MelodyNumber(%s, %v) = %d, %d, want %d, %d", grammarAsWritten(c.g), c.pitches, number, code, c.number, c.code)
		}
		if code == impl.OK {
			if melody, code := impl.NumberedMelody(c.g, int64(len(c.pitches)), number); !slices.Equal(melody, c.pitches) || code != impl.OK {
				t.Errorf("NumberedMelody(%s, %d) = %v, %d, want %v", grammarAsWritten(c.g), number, melody, code, c.pitches)
			}
		}
	}
}

func TestNumberedMelodyOfNoLength(t *testing.T) {
	for _, g := range namedGrammars() {
		for _, n := range append(slices.Clone(numbersAround), -2, 15, 32) {
			if n >= 0 && n <= 12 {
				continue
			}
			for _, number := range []int64{0, 1, -1, math.MaxInt64} {
				if melody, code := impl.NumberedMelody(g, n, number); len(melody) != 0 || code != impl.ErrRange {
					t.Errorf("NumberedMelody(%v, %d, %d) = %v, %d", g, n, number, melody, code)
				}
			}
		}
	}
}

func TestShortestMelody(t *testing.T) {
	cases := []struct {
		g    impl.Grammar
		want []int64
		code int64
	}{
		{grammarFrom("1,0;0"), nil, 0}, {grammarFrom("1,0;0;0,0,0"), nil, 0}, {grammarFrom("1,0;-;0,0,0"), nil, impl.ErrNotFound}, {grammarFrom("1,0;-"), nil, impl.ErrNotFound},
		{grammarFrom("2,0;-;0,0,1"), nil, impl.ErrNotFound}, {grammarFrom("2,1;0;0,0,1"), nil, impl.ErrNotFound}, {grammarFrom("2,0;1;0,0,1;1,2,0"), []int64{0}, 0},
		{grammarFrom("4,0;3;0,0,1;0,2,2;1,0,1;2,0,3"), []int64{2, 0}, 0}, {grammarFrom("4,0;3;0,0,1;0,2,3;1,0,2;2,0,3"), []int64{2}, 0},
		{grammarFrom("4,0;3;0,0,1;0,2,2;1,5,3;2,0,3"), []int64{0, 5}, 0}, {grammarFrom("5,0;4;0,-1,1;0,0,2;0,1,3;1,0,1;2,7,4;3,5,4"), []int64{0, 7}, 0},
		{grammarFrom("2,0;1;0,-12,0;0,0,1;0,23,1"), []int64{0}, 0}, {grammarFrom("3,2;0,1;2,5,0;2,7,1"), []int64{5}, 0}, {grammarFrom("3,0;1,2;0,0,1;1,0,2"), []int64{0}, 0},
		// Longer than the melodies that are counted.
		{chainGrammar(32, 0), make([]int64, 31), 0}, {chainGrammar(32, 23), slices.Repeat([]int64{23}, 31), 0}, {chainGrammar(14, -12), slices.Repeat([]int64{-12}, 13), 0},
		{changed(ringGrammar(32, 5, 8), func(g *impl.Grammar) { g.Start = 1 }), slices.Repeat([]int64{5}, 31), 0},
	}
	for _, c := range cases {
		if got, code := impl.ShortestMelody(c.g); !slices.Equal(got, c.want) || code != c.code {
			t.Errorf("ShortestMelody(%s) = %v, %d, want %v, %d", grammarAsWritten(c.g), got, code, c.want, c.code)
		}
	}
}

// shortestAsWritten lists, for longer and longer lists, those that are lexicographically first for each state that was not reached before.
func shortestAsWritten(g impl.Grammar) ([]int64, int64) {
	reached := map[int64]bool{g.Start: true}
	lists := [][]int64{{}}
	for len(lists) > 0 {
		var longer [][]int64
		next := map[int64]bool{}
		for _, list := range lists {
			path, accepted := pathOf(g, list)
			if accepted {
				return list, impl.OK
			}
			for _, pitch := range allPitches() {
				to := toOf(g, path[len(list)], pitch)
				if to >= 0 && !reached[to] && !next[to] {
					next[to] = true
					longer = append(longer, append(slices.Clone(list), pitch))
				}
			}
		}
		for state := range next {
			reached[state] = true
		}
		lists = longer
	}
	return nil, impl.ErrNotFound
}

func TestShortestMelodyAsWritten(t *testing.T) {
	count := map[int64]int{}
	lengths := map[int]int{}
	all := slices.Concat(namedGrammars(), drawnGrammars(79, 2000))
	for _, g := range drawnGrammars(90, 2000) {
		// A single final state is farther away than one of several.
		all = append(all, changed(g, func(g *impl.Grammar) { g.Final = []int64{g.States - 1} }))
	}
	for _, g := range all {
		want, wantCode := shortestAsWritten(g)
		count[wantCode]++
		lengths[len(want)]++
		if got, code := impl.ShortestMelody(g); !slices.Equal(got, want) || code != wantCode {
			t.Errorf("ShortestMelody(%v) = %v, %d, want %v, %d", g, got, code, want, wantCode)
		}
	}
	if count[impl.OK] < 500 || count[impl.ErrNotFound] < 500 || lengths[1] < 100 || lengths[2] < 100 || lengths[3] < 30 || lengths[4] < 10 {
		t.Errorf("grammars with and without melodies: %v, lengths %v", count, lengths)
	}
}

// deadAsWritten goes along the arcs from each state.
func deadAsWritten(g impl.Grammar) []int64 {
	dead := []int64{}
	for state := range g.States {
		reached := []int64{state}
		for k := 0; k < len(reached); k++ {
			for _, x := range g.Arcs {
				if x.From == reached[k] && !slices.Contains(reached, x.To) {
					reached = append(reached, x.To)
				}
			}
		}
		if !slices.ContainsFunc(reached, func(n int64) bool { return slices.Contains(g.Final, n) }) {
			dead = append(dead, state)
		}
	}
	return dead
}

func TestDeadStates(t *testing.T) {
	cases := []struct {
		g    impl.Grammar
		want []int64
	}{
		{grammarFrom("1,0;0"), nil}, {grammarFrom("1,0;-"), []int64{0}}, {grammarFrom("1,0;-;0,0,0"), []int64{0}}, {grammarFrom("2,0;0;0,0,1"), []int64{1}},
		{grammarFrom("2,0;0"), []int64{1}}, {grammarFrom("2,0;1"), []int64{0}}, {grammarFrom("2,0;1;0,0,1"), nil}, {grammarFrom("3,0;1;0,0,0;1,0,2;2,0,2"), []int64{0, 2}},
		// States that Start does not reach are dead or not like all others.
		{grammarFrom("3,0;0;1,0,0;2,0,2"), []int64{2}}, {grammarFrom("4,0;0;0,4,0;1,0,2;2,0,3;3,0,1"), []int64{1, 2, 3}}, {grammarFrom("4,0;0;0,4,0;1,0,2;2,0,3;3,0,0"), nil},
		{chainGrammar(32, 0), nil}, {changed(chainGrammar(32, 0), func(g *impl.Grammar) { g.Final = nil }), allFinal().Final},
		{changed(chainGrammar(32, 0), func(g *impl.Grammar) { g.Final = []int64{0} }), allFinal().Final[1:]}, {allFinal(), nil}, {grammarFrom("32,31;-"), allFinal().Final},
	}
	for _, c := range cases {
		if got, code := impl.DeadStates(c.g); !slices.Equal(got, c.want) || code != impl.OK {
			t.Errorf("DeadStates(%s) = %v, %d, want %v", grammarAsWritten(c.g), got, code, c.want)
		}
	}
	count := map[bool]int{}
	for _, g := range slices.Concat(namedGrammars(), drawnGrammars(80, 1000)) {
		want := deadAsWritten(g)
		count[len(want) > 0]++
		if got, code := impl.DeadStates(g); !slices.Equal(got, want) || code != impl.OK {
			t.Errorf("DeadStates(%v) = %v, %d, want %v", g, got, code, want)
		}
	}
	if count[true] < 200 || count[false] < 200 {
		t.Errorf("grammars with dead states and without: %v", count)
	}
}

// TestNothingIsAcceptedFromDeadStates begins in each state.
func TestNothingIsAcceptedFromDeadStates(t *testing.T) {
	for _, g := range slices.Concat(namedGrammars(), drawnGrammars(81, 200)) {
		dead, _ := impl.DeadStates(g)
		for state := range g.States {
			from := changed(g, func(g *impl.Grammar) { g.Start = state })
			isDead := slices.Contains(dead, state)
			if _, code := impl.ShortestMelody(from); (code == impl.ErrNotFound) != isDead {
				t.Errorf("ShortestMelody(%v): %d", from, code)
			}
			for n := range int64(13) {
				count, _ := impl.CountMelodies(from, n)
				if melody, code := impl.NumberedMelody(from, n, 0); isDead && (count != 0 || code != impl.ErrRange) {
					t.Errorf("%v, %d: %d, %v, %d", from, n, count, melody, code)
				}
			}
		}
	}
}

func TestMeetGrammars(t *testing.T) {
	one := "1,0;0;0,0,0"
	cases := []struct{ a, b, want string }{
		{"2,0;1;0,0,1;1,2,0", "1,0;0;0,0,0;0,2,0", "2,0;1;0,0,1;1,2,0"}, {"2,0;1;0,0,1;1,2,0", one, "2,0;1;0,0,1"}, {one, one, one}, {one, "1,0;-", "1,0;-"}, {"1,0;-;0,0,0", one, "1,0;-;0,0,0"},
		{one, "1,0;0;0,1,0", "1,0;0"}, {"3,2;0;2,5,0", "2,1;0;1,5,0", "2,0;1;0,5,1"}, {"3,2;0;2,5,0", "2,1;1;1,5,0", "2,0;-;0,5,1"},
		// The pairs are numbered as they are reached: those of lower pitches first, whatever their states are.
		{"3,0;1,2;0,0,2;0,5,1;1,0,0;2,0,1", "1,0;0;0,0,0;0,5,0", "3,0;1,2;0,0,1;0,5,2;1,0,2;2,0,0"},
		{"3,0;1,2;0,0,2;0,5,1;1,0,0;2,0,1", "3,0;2;0,0,2;0,5,1;1,0,2;2,0,1", "7,0;1,5;0,0,1;0,5,2;1,0,2;2,0,3;3,0,4;4,0,5;5,0,6;6,0,1"},
		{"2,0;0;0,0,1;1,0,0", "3,0;0;0,0,1;1,0,2;2,0,0", "6,0;0;0,0,1;1,0,2;2,0,3;3,0,4;4,0,5;5,0,0"},
		// Dead states stay, and so do arcs to them.
		{"2,0;0;0,0,1;0,2,0", "2,0;0;0,0,1;0,2,0;1,2,1", "2,0;0;0,0,1;0,2,0"},
	}
	for _, c := range cases {
		if !isGrammar(grammarFrom(c.want)) {
			t.Fatalf("%s is no grammar", c.want)
		}
		g, code := impl.MeetGrammars(grammarFrom(c.a), grammarFrom(c.b))
		checkGrammar(t, "MeetGrammars("+c.a+", "+c.b+")", g, code, c.want, impl.OK)
	}
}

// TestMeetGrammarsFull holds that the states and the arcs may be as many as there may be, but no more.
func TestMeetGrammarsFull(t *testing.T) {
	with := func(g impl.Grammar, states, first, last int64) impl.Grammar {
		for state := range states {
			for pitch := first; pitch <= last; pitch++ {
				g.Arcs = append(g.Arcs, arc(state, pitch, (state+1)%g.States))
			}
		}
		slices.SortFunc(g.Arcs, func(a, b impl.Arc) int { return int((a.From-b.From)*100 + a.Pitch - b.Pitch) })
		return g
	}
	cases := []struct {
		a, b   impl.Grammar
		states int64
		arcs   int
		code   int64
	}{
		{ringGrammar(32, 0, 1), ringGrammar(1, 0, 1), 32, 32, 0}, {ringGrammar(32, 0, 8), ringGrammar(32, 0, 8), 32, 256, 0}, {ringGrammar(32, 0, 8), ringGrammar(16, -12, 16), 32, 128, 0},
		{ringGrammar(3, 0, 1), ringGrammar(11, 0, 1), 0, 0, impl.ErrFull}, {ringGrammar(5, 0, 1), ringGrammar(6, 0, 1), 30, 30, 0}, {ringGrammar(31, 0, 1), ringGrammar(32, 0, 1), 0, 0, impl.ErrFull},
		{chainGrammar(32, 0), ringGrammar(31, 0, 1), 32, 31, 0}, {chainGrammar(32, 0), chainGrammar(32, 0), 32, 31, 0}, {ringGrammar(31, 0, 8), ringGrammar(32, 8, 8), 1, 0, 0},
		{ringGrammar(3, 0, 10), ringGrammar(8, 0, 10), 24, 240, 0}, {ringGrammar(3, 0, 11), ringGrammar(8, 0, 11), 0, 0, impl.ErrFull},
		// Further pitches at a state of the first ring only lead from eight pairs each.
		{with(ringGrammar(3, 0, 10), 1, 20, 21), with(ringGrammar(8, 0, 10), 8, 20, 22), 24, 256, 0},
		{with(ringGrammar(3, 0, 10), 1, 20, 22), with(ringGrammar(8, 0, 10), 8, 20, 22), 0, 0, impl.ErrFull},
		// A further pitch at a state of both rings leads from a single pair.
		{with(with(ringGrammar(3, 0, 10), 1, 20, 21), 1, 23, 23), with(with(ringGrammar(8, 0, 10), 8, 20, 22), 1, 23, 23), 0, 0, impl.ErrFull},
		{with(with(ringGrammar(3, 0, 10), 1, 20, 20), 1, 23, 23), with(with(ringGrammar(8, 0, 10), 8, 20, 22), 1, 23, 23), 24, 249, 0},
	}
	for k, c := range cases {
		for _, pair := range [][2]impl.Grammar{{c.a, c.b}, {c.b, c.a}} {
			g, code := impl.MeetGrammars(pair[0], pair[1])
			if g.States != c.states || len(g.Arcs) != c.arcs || code != c.code || code != impl.OK && !impl.SameGrammar(g, impl.Grammar{}) {
				t.Errorf("case %d: %d states, %d arcs, %d, want %d, %d, %d", k, g.States, len(g.Arcs), code, c.states, c.arcs, c.code)
			}
		}
	}
}

// meetAsWritten numbers the pairs as the document does, all of them, and looks for each one among those before it.
func meetAsWritten(a, b impl.Grammar) impl.Grammar {
	pairs := [][2]int64{{a.Start, b.Start}}
	var g impl.Grammar
	for k := 0; k < len(pairs); k++ {
		pair := pairs[k]
		for _, pitch := range allPitches() {
			to := [2]int64{toOf(a, pair[0], pitch), toOf(b, pair[1], pitch)}
			if to[0] < 0 || to[1] < 0 {
				continue
			}
			if !slices.Contains(pairs, to) {
				pairs = append(pairs, to)
			}
			g.Arcs = append(g.Arcs, arc(int64(k), pitch, int64(slices.Index(pairs, to))))
		}
		if slices.Contains(a.Final, pair[0]) && slices.Contains(b.Final, pair[1]) {
			g.Final = append(g.Final, int64(k))
		}
	}
	g.States = int64(len(pairs))
	return g
}

func TestMeetGrammarsAsWritten(t *testing.T) {
	draw := rand.New(rand.NewSource(82))
	count := map[int64]int{}
	check := func(a, b impl.Grammar) {
		want, wantCode := meetAsWritten(a, b), int64(impl.OK)
		if want.States > 32 || len(want.Arcs) > 256 {
			want, wantCode = impl.Grammar{}, impl.ErrFull
		}
		count[wantCode]++
		if got, code := impl.MeetGrammars(a, b); code != wantCode || !impl.SameGrammar(got, want) || code == impl.OK && !impl.ValidGrammar(got) {
			t.Errorf("MeetGrammars(%v, %v) = %v, %d, want %v, %d", a, b, got, code, want, wantCode)
		}
	}
	for _, a := range namedGrammars() {
		for _, b := range namedGrammars() {
			check(a, b)
		}
	}
	for range 1500 {
		pitches := drawnNumbers(draw)
		a := drawGrammar(draw, 1+draw.Int63n(8), pitches, 1+draw.Intn(3))
		check(a, drawGrammar(draw, 1+draw.Int63n(8), pitches, 1+draw.Intn(3)))
	}
	if count[impl.OK] < 500 || count[impl.ErrFull] < 100 {
		t.Errorf("grammars with and without room: %v", count)
	}
}

// TestMeetGrammarsAcceptWhatBothAccept tries all short lists.
func TestMeetGrammarsAcceptWhatBothAccept(t *testing.T) {
	draw := rand.New(rand.NewSource(83))
	count := map[bool]int{}
	lists := listsOver([]int64{0, 2, 4}, 5)
	for range 150 {
		a, b := drawGrammar(draw, 1+draw.Int63n(5), []int64{0, 2, 4}, 1), drawGrammar(draw, 1+draw.Int63n(5), []int64{0, 2, 4, 5}, 1)
		g, code := impl.MeetGrammars(a, b)
		if code != impl.OK {
			t.Fatalf("MeetGrammars(%v, %v): %d", a, b, code)
		}
		for _, list := range lists {
			both := impl.Accepts(a, list) && impl.Accepts(b, list)
			count[both]++
			if got := impl.Accepts(g, list); got != both {
				t.Errorf("%v of %v and %v accepts %v: %v", g, a, b, list, got)
			}
		}
	}
	if count[true] < 1000 || count[false] < 1000 {
		t.Errorf("accepted lists and others: %v", count)
	}
}

// checkGrammarOfRaga holds promise 8 for a raga and a range with few pitches: of all lists up to a length those are accepted
// that are in the range, have no wrong move and end on the tonic.
func checkGrammarOfRaga(t *testing.T, r impl.Raga, low, high int64, most int) int {
	t.Helper()
	g, code := impl.GrammarOf(r, low, high)
	if code != impl.OK {
		t.Fatalf("GrammarOf(%v, %d, %d): %d", r, low, high, code)
	}
	accepted := 0
	for _, list := range listsOver(allPitches()[max(low-1, -12)+12:min(high+1, 23)+13], most) {
		_, _, code := impl.FirstWrong(r, list)
		want := code == impl.ErrNotFound && len(list) > 0 && slices.Min(list) >= low && slices.Max(list) <= high && list[len(list)-1]%12 == 0
		if got := impl.Accepts(g, list); got != want {
			t.Fatalf("the grammar of %v from %d to %d accepts %v: %v", r, low, high, list, got)
		}
		if want {
			accepted++
		}
	}
	return accepted
}

// TestGrammarsOfRagasAcceptWhatIsRight is the first half of promise 8.
func TestGrammarsOfRagasAcceptWhatIsRight(t *testing.T) {
	draw := rand.New(rand.NewSource(84))
	accepted := 0
	for _, r := range slices.Concat(namedRagas(), drawnRagas(60)) {
		low := draw.Int63n(30) - 12
		accepted += checkGrammarOfRaga(t, r, low, low+draw.Int63n(min(6, 24-low)), 3)
		low = draw.Int63n(24) - 12
		accepted += checkGrammarOfRaga(t, r, low, min(low+12+draw.Int63n(3), 23), 2)
	}
	if accepted < 1000 {
		t.Errorf("only %d lists", accepted)
	}
}

// TestMelodiesOfRagas draws melodies of ragas by their numbers, and holds both halves of promise 8 against them.
func TestMelodiesOfRagas(t *testing.T) {
	draw := rand.New(rand.NewSource(85))
	found := 0
	for _, r := range slices.Concat(namedRagas(), drawnRagas(60)) {
		for range 6 {
			low := draw.Int63n(36) - 12
			high := low + draw.Int63n(24-low)
			g, code := impl.GrammarOf(r, low, high)
			if code != impl.OK {
				continue
			}
			if count, _ := impl.CountMelodies(g, 0); count != 0 {
				t.Errorf("the grammar of %v accepts no pitches", r)
			}
			for n := int64(1); n <= 12; n++ {
				count, _ := impl.CountMelodies(g, n)
				if count == 0 {
					continue
				}
				number := draw.Int63n(count)
				melody, one := impl.NumberedMelody(g, n, number)
				back, two := impl.MelodyNumber(g, melody)
				if one != impl.OK || two != impl.OK || back != number || int64(len(melody)) != n || melody[n-1]%12 != 0 {
					t.Fatalf("%v, %d, %d: %v, %d, %d, %d", g, n, number, melody, one, back, two)
				}
				if at, reason, code := impl.FirstWrong(r, melody); code != impl.ErrNotFound || slices.Min(melody) < low || slices.Max(melody) > high {
					t.Fatalf("%v from %d to %d: %v is wrong at %d for %d, %d", r, low, high, melody, at, reason, code)
				}
				found++
			}
		}
	}
	if found < 1500 {
		t.Errorf("only %d melodies", found)
	}
}

// TestInvalidGrammars holds that ErrInvalid comes before all other errors.
func TestInvalidGrammars(t *testing.T) {
	good := grammarFrom("1,0;0;0,0,0")
	for _, g := range invalidGrammars() {
		var codes []int64
		var lists [][]int64
		var numbers []int64
		keep := func(number int64, list []int64, code int64) {
			numbers, lists, codes = append(numbers, number), append(lists, list), append(codes, code)
		}
		for _, pitches := range [][]int64{nil, {0}, {24}, make([]int64, 13)} {
			keep(impl.WrongTurn(g, pitches))
			number, code := impl.MelodyNumber(g, pitches)
			keep(number, nil, code)
		}
		for _, n := range []int64{0, 1, 12, 13, -1, math.MinInt64, math.MaxInt64} {
			count, code := impl.CountMelodies(g, n)
			keep(count, nil, code)
			list, code := impl.NumberedMelody(g, n, 0)
			keep(0, list, code)
		}
		list, code := impl.ShortestMelody(g)
		keep(0, list, code)
		list, code = impl.DeadStates(g)
		keep(0, list, code)
		for _, pair := range [][2]impl.Grammar{{g, good}, {good, g}, {g, g}, {g, ringGrammar(32, 0, 8)}} {
			met, code := impl.MeetGrammars(pair[0], pair[1])
			checkGrammar(t, "MeetGrammars with an invalid one", met, code, "", impl.ErrInvalid)
		}
		if !slices.Equal(codes, slices.Repeat([]int64{impl.ErrInvalid}, len(codes))) || len(slices.Concat(lists...)) != 0 || slices.Max(numbers) != 0 || slices.Min(numbers) != 0 {
			t.Errorf("%v: codes %v, lists %v, numbers %v", g, codes, lists, numbers)
		}
		if text := impl.GrammarText(g); text != "" {
			t.Errorf("GrammarText(%v) = %q", g, text)
		}
	}
}

func TestGrammarText(t *testing.T) {
	cases := []struct {
		g    impl.Grammar
		want string
	}{
		{impl.Grammar{States: 1}, "1,0;-"}, {impl.Grammar{States: 32, Start: 31, Final: []int64{0, 31}}, "32,31;0,31"},
		{impl.Grammar{States: 2, Start: 1, Final: []int64{0, 1}, Arcs: []impl.Arc{arc(0, -12, 1), arc(1, 23, 0)}}, "2,1;0,1;0,-12,1;1,23,0"},
		{impl.Grammar{States: 2, Arcs: []impl.Arc{arc(0, -1, 1), arc(0, 0, 0), arc(0, 10, 1)}}, "2,0;-;0,-1,1;0,0,0;0,10,1"},
	}
	for _, c := range cases {
		if got := impl.GrammarText(c.g); got != c.want {
			t.Errorf("GrammarText(%v) = %q, want %q", c.g, got, c.want)
		}
	}
	for _, g := range slices.Concat(namedGrammars(), drawnGrammars(86, 300)) {
		text := impl.GrammarText(g)
		if want := grammarAsWritten(g); text != want {
			t.Errorf("GrammarText(%v) = %q, want %q", g, text, want)
		}
		if back, ok := impl.ReadGrammar(text); !ok || !impl.SameGrammar(back, g) {
			t.Errorf("ReadGrammar(%q) = %v, %v", text, back, ok)
		}
	}
}

func TestReadGrammarRefuses(t *testing.T) {
	most := grammarAsWritten(ringGrammar(32, -12, 8))
	bad := []string{
		"1,0", "1", "1;0", "1;-", "-;-", "-;0", "1,0;", "1,0;;", ";", ";;", "1,0,0;-", "1,0;0;", "1,0;0;;0,0,0", "1,0;0;-", "1,0;0;0", "1,0;0;0,0", "1,0;0;0,0,0,0", "1,0;0;0,0,0;",
		"1,0;0;0,0,0;0,2", "1,0;0;0,0,0;-", "1,0;0;0,2;0,0,0", "0,0;-", "-1,0;-", "1,1;-", "1,-1;-", "33,0;-", "1,0;1", "1,0;-1", "2,0;1,0", "2,0;0,0", "1,0;0;0,0,1", "1,0;0;1,0,0",
		"1,0;0;0,24,0", "1,0;0;0,-13,0", "1,0;0;-1,0,0", "1,0;0;0,0,-1", "2,0;0;0,1,0;0,1,1", "2,0;0;0,1,0;0,0,1", "2,0;0;1,0,0;0,0,1", "1,0;0,0", "1,0;0;0,0,0;0,0,0",
		"1 0;0;0 0 0", "1,0;0;0,0, 0", " 1,0;0", "1,0;0 ", "1,0;0\n", "1,0;+0", "01,0;0", "1,0;00", "1,-0;0", "1,0;0;0,-0,0", "1,0:0:0,0,0", "1,0|0", "1,0;a", "1,0;0;0,S,0", "1.0;0", "1,0\x00;0",
		"1,0; ;0,0,0", "1,0;0;0,0,0\x00", "1,0;0;0,0,9223372036854775808", "18446744073709551617,0;0", "1000000000001,0;-", "1,0;--", "1,0;-,0", "-,1,0;0", "1,0;0,-",
		most + ";31,-1,0", most + ";", most + ";-", most + ";31,-4,0;31,-3,0", most + strings.Repeat(";31,-1,0", 5000), strings.Repeat(";", 5000), strings.Repeat("0,0,0;", 5000),
		"1,0;" + strings.Repeat("0,", 5000) + "0", "1,0;0;" + strings.Repeat("0,", 5000) + "0", "1,0;0" + strings.Repeat(";0,0,0", 5000),
	}
	for _, text := range append(bad, oddTexts...) {
		if g, ok := impl.ReadGrammar(text); ok || !impl.SameGrammar(g, impl.Grammar{}) {
			t.Errorf("ReadGrammar(%.100q) = %v, %v", text, g, ok)
		}
	}
	if g, ok := impl.ReadGrammar(most); !ok || len(g.Arcs) != 256 || g.States != 32 {
		t.Errorf("ReadGrammar(%q) = %v, %v", most, g, ok)
	}
	if g, ok := impl.ReadGrammar(grammarAsWritten(allFinal())); !ok || len(g.Final) != 32 {
		t.Errorf("ReadGrammar with all states final = %v, %v", g, ok)
	}
}

// hasGrammar tells whether a text is that of a grammar, for texts that grammarFrom can read.
func hasGrammar(text string) bool {
	parts := strings.Split(text, ";")
	for k, part := range parts {
		commas := strings.Count(part, ",")
		if k == 0 && commas != 1 || k > 1 && commas != 2 {
			return false
		}
	}
	if len(parts) < 2 {
		return false
	}
	g := grammarFrom(text)
	return isGrammar(g) && grammarAsWritten(g) == text
}

// TestReadGrammarTakesTextsOfGrammarsOnly tries all short texts, and changes, inserts and removes each byte of others.
func TestReadGrammarTakesTextsOfGrammarsOnly(t *testing.T) {
	count := map[bool]int{}
	check := func(text string) {
		has := hasGrammar(text)
		count[has]++
		g, ok := impl.ReadGrammar(text)
		if ok != has || ok && grammarAsWritten(g) != text || !ok && !impl.SameGrammar(g, impl.Grammar{}) {
			t.Errorf("ReadGrammar(%q) = %v, %v", text, g, ok)
		}
	}
	for _, text := range textsOver(";,-012", 7) {
		check(text)
	}
	for _, g := range namedGrammars() {
		text := grammarAsWritten(g)
		if len(text) > 200 {
			continue
		}
		for _, edited := range editsOf(text, ";", ",", "-", "0", "1", "2", "9", " ", "+", "\t", "\xff") {
			check(edited)
		}
	}
	if count[true] < 500 || count[false] < 500 {
		t.Errorf("texts of grammars and others: %v", count)
	}
}

// answersOfGrammars returns what chapter 7 answers to many arguments.
func answersOfGrammars() []any {
	var all []any
	keep := func(answers ...any) { all = append(all, answers...) }
	draw := rand.New(rand.NewSource(87))
	grammars := slices.Concat(namedGrammars(), drawnGrammars(88, 40), invalidGrammars())
	for _, g := range grammars {
		dead, one := impl.DeadStates(g)
		shortest, two := impl.ShortestMelody(g)
		keep(impl.ValidGrammar(g), impl.GrammarText(g), dead, one, shortest, two)
		for n := int64(-1); n < 14; n++ {
			count, one := impl.CountMelodies(g, n)
			melody, two := impl.NumberedMelody(g, n, count/2)
			number, three := impl.MelodyNumber(g, melody)
			turn, next, four := impl.WrongTurn(g, append(slices.Clone(melody), 0, 2))
			keep(count, one, melody, two, number, three, turn, next, four, impl.Accepts(g, melody))
		}
		for range 5 {
			other := grammars[draw.Intn(len(grammars))]
			met, code := impl.MeetGrammars(g, other)
			keep(met, code, impl.SameGrammar(g, other))
		}
		read, ok := impl.ReadGrammar(impl.GrammarText(g))
		keep(read, ok)
	}
	for _, r := range slices.Concat(namedRagas(), invalidRagas()[:20]) {
		g, code := impl.GrammarOf(r, draw.Int63n(38)-13, draw.Int63n(38)-13)
		keep(g, code)
	}
	return all
}

func TestGrammarsReturnEqualResults(t *testing.T) {
	first := answersOfGrammars()
	for range 5 {
		if !reflect.DeepEqual(answersOfGrammars(), first) {
			t.Error("equal arguments, other results")
		}
	}
}

// grammarResults are lists and grammars that functions of chapter 7 returned.
type grammarResults struct {
	lists    [][]int64
	grammars []impl.Grammar
}

func (r grammarResults) clone() grammarResults {
	r.lists, r.grammars = cloneLists(r.lists), slices.Clone(r.grammars)
	for k, g := range r.grammars {
		r.grammars[k] = cloneGrammar(g)
	}
	return r
}

// memories are the lists of all results, and what spoils the memory of each one.
func (r grammarResults) memories() []func() {
	var all []func()
	for _, list := range r.lists {
		all = append(all, func() { spoil(list) })
	}
	for _, g := range r.grammars {
		all = append(all, func() { spoil(g.Final) }, func() {
			for k := range g.Arcs[:cap(g.Arcs)] {
				g.Arcs[:cap(g.Arcs)][k] = arc(99, 99, 99)
			}
		})
	}
	return all
}

// useGrammars calls all functions of chapter 7, and returns the lists and the grammars that they return.
func useGrammars(a, b impl.Grammar, r impl.Raga, pitches []int64) grammarResults {
	impl.ValidGrammar(a)
	impl.SameGrammar(a, b)
	impl.Accepts(a, pitches)
	impl.CountMelodies(a, 5)
	impl.MelodyNumber(a, pitches)
	_, next, _ := impl.WrongTurn(a, pitches)
	_, first, _ := impl.WrongTurn(a, nil)
	melody, _ := impl.NumberedMelody(a, 3, 0)
	shortest, _ := impl.ShortestMelody(a)
	dead, _ := impl.DeadStates(a)
	of, _ := impl.GrammarOf(r, 0, 12)
	met, _ := impl.MeetGrammars(a, b)
	same, _ := impl.MeetGrammars(b, b)
	read, _ := impl.ReadGrammar(impl.GrammarText(a))
	return grammarResults{[][]int64{next, first, melody, shortest, dead}, []impl.Grammar{of, met, same, read}}
}

func TestGrammarsModifyNoArgument(t *testing.T) {
	for _, g := range slices.Concat(namedGrammars(), drawnGrammars(89, 50), invalidGrammars()) {
		final, wholeFinal := spare(g.Final)
		wholeArcs := append(slices.Clone(g.Arcs), arc(91, 92, 93), arc(94, 95, 96))
		own := impl.Grammar{States: g.States, Start: g.Start, Final: final, Arcs: wholeArcs[:len(g.Arcs)]}
		pitches, wholePitches := spare([]int64{0, 2, 0})
		r := ragaOf(deshText)
		finalBefore, arcsBefore, pitchesBefore := slices.Clone(wholeFinal), slices.Clone(wholeArcs), slices.Clone(wholePitches)
		useGrammars(own, own, r, pitches)
		useGrammars(grammarFrom("2,0;1;0,0,1;1,2,0"), own, r, pitches)
		if !slices.Equal(wholeFinal, finalBefore) || !slices.Equal(wholeArcs, arcsBefore) || !slices.Equal(wholePitches, pitchesBefore) {
			t.Errorf("the memory of %v was changed: %v, %v, %v", g, wholeFinal, wholeArcs, wholePitches)
		}
		if !impl.SameRaga(r, ragaOf(deshText)) {
			t.Errorf("a raga was changed: %v", r)
		}
	}
}

// TestGrammarsReturnNewMemory spoils one list that was returned after the other, and holds that all others, and the arguments, stay.
func TestGrammarsReturnNewMemory(t *testing.T) {
	b, r, pitches := grammarFrom("2,0;0,1;0,0,1;0,2,0;1,0,0;1,2,1"), ragaOf(bhupaliText), []int64{0, 2, 0, 5}
	for _, a := range namedGrammars() {
		before := useGrammars(a, b, r, pitches).clone()
		aBefore, bBefore := cloneGrammar(a), cloneGrammar(b)
		for k := range before.memories() {
			results := useGrammars(a, b, r, pitches)
			results.memories()[k]()
			differ := 0
			for h := range before.lists {
				if !slices.Equal(results.lists[h], before.lists[h]) {
					differ++
				}
			}
			for h, g := range before.grammars {
				if !slices.Equal(results.grammars[h].Final, g.Final) {
					differ++
				}
				if !slices.Equal(results.grammars[h].Arcs, g.Arcs) {
					differ++
				}
			}
			if differ > 1 {
				t.Errorf("%v: list %d shares memory with another one", a, k)
			}
			if !impl.SameGrammar(a, aBefore) || !impl.SameGrammar(b, bBefore) || !impl.SameRaga(r, ragaOf(bhupaliText)) || !slices.Equal(pitches, []int64{0, 2, 0, 5}) {
				t.Fatalf("list %d shares memory with an argument", k)
			}
			if again := useGrammars(a, b, r, pitches); !reflect.DeepEqual(again.clone(), before) {
				t.Errorf("%v: list %d shares memory with later results", a, k)
			}
		}
	}
}
