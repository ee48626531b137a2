package tests

import (
	"math"
	"math/big"
	"slices"
	"testing"

	"loop.example/g00989/impl"
)

func prime() impl.Interval { return tone(0, 0, 0, 1) }

// hasNoSteps does not look whether the map and the interval are valid.
func hasNoSteps(m impl.Map, x impl.Interval) bool {
	return m.Two*x.Two+m.Three*x.Three+m.Five*x.Five == 0
}

// bestMapOf is found by the search of the ninth chapter's tests.
func bestMapOf(t *testing.T, n int) impl.Map {
	t.Helper()
	return mapOf(n, nearestOf(t, n, 3, 1), nearestOf(t, n, 5, 1))
}

func timesMap(m impl.Map, n int) impl.Map { return mapOf(n*m.Two, n*m.Three, n*m.Five) }

// searchedShared looks through all valid intervals for those that both maps hide, that are greater than the prime and that no number divides. It ends at the second one: maps that share two share many.
func searchedShared(a, b impl.Map) []impl.Interval {
	var found []impl.Interval
	for three := -400; three <= 400; three++ {
		for five := -400; five <= 400; five++ {
			above := a.Three*three + a.Five*five
			x := tone(-above/a.Two, three, five, 1)
			if !hasNoSteps(a, x) || !hasNoSteps(b, x) || isBeyondLimit(x) || hasDivisor(x) || bigOrder(x, prime()) < 0 {
				continue
			}
			if found = append(found, x); len(found) == 2 {
				return found
			}
		}
	}
	return found
}

// sharedOf repeats the rule of the document with numbers of math/big.
func sharedOf(a, b impl.Map) (impl.Interval, bool) {
	powers := []*big.Int{
		big.NewInt(int64(a.Three*b.Five - a.Five*b.Three)),
		big.NewInt(int64(a.Five*b.Two - a.Two*b.Five)),
		big.NewInt(int64(a.Two*b.Three - a.Three*b.Two)),
	}
	divisor := new(big.Int)
	for _, power := range powers {
		divisor.GCD(nil, nil, divisor, power)
	}
	if divisor.Sign() == 0 {
		return impl.Interval{}, false
	}
	for _, power := range powers {
		power.Quo(power, divisor)
	}
	x := tone(int(powers[0].Int64()), int(powers[1].Int64()), int(powers[2].Int64()), 1)
	if isBeyondLimit(x) {
		return impl.Interval{}, false
	}
	if bigOrder(x, prime()) < 0 {
		return negated(x), true
	}
	return x, true
}

// endMaps have Three and Five at the ends of their range or next to one.
func endMaps() []impl.Map {
	var list []impl.Map
	for _, two := range []int{1, 2, 12, 59, 60} {
		for _, three := range []int{0, 1, 199, 200} {
			for _, five := range []int{0, 1, 199, 200} {
				list = append(list, mapOf(two, three, five))
			}
		}
	}
	return list
}

func checkHides(t *testing.T, m impl.Map, x impl.Interval, want bool) {
	t.Helper()
	if got := impl.Hides(m, x); got != want {
		t.Errorf("Hides(%v, %v) = %v", m, x, got)
	}
}

func checkHiddenCommas(t *testing.T, m impl.Map, limit int, want ...impl.Interval) {
	t.Helper()
	if got := impl.HiddenCommas(m, limit); !slices.Equal(got, want) {
		t.Errorf("HiddenCommas(%v, %d) = %v; want %v", m, limit, got, want)
	}
}

func checkDivisions(t *testing.T, x impl.Interval, most int, want ...int) {
	t.Helper()
	if got := impl.DivisionsHiding(x, most); !slices.Equal(got, want) {
		t.Errorf("DivisionsHiding(%v, %d) = %v; want %v", x, most, got, want)
	}
}

// checkShared asks in both orders, in which all powers have opposite signs before one of them is negated.
func checkShared(t *testing.T, a, b impl.Map, want impl.Interval, wantOk bool) {
	t.Helper()
	if got, ok := impl.SharedBy(a, b); got != want || ok != wantOk {
		t.Errorf("SharedBy(%v, %v) = %v, %v; want %v, %v", a, b, got, ok, want, wantOk)
	}
	if got, ok := impl.SharedBy(b, a); got != want || ok != wantOk {
		t.Errorf("SharedBy(%v, %v) = %v, %v; want %v, %v", b, a, got, ok, want, wantOk)
	}
}

func checkNothingShared(t *testing.T, a, b impl.Map) {
	t.Helper()
	checkShared(t, a, b, impl.Interval{}, false)
}

func TestHidesNamedCommas(t *testing.T) {
	for _, want := range []struct {
		n     int
		hides [6]bool
	}{
		{5, [6]bool{false, true, false, false, false, false}},
		{7, [6]bool{false, true, false, false, false, false}},
		{12, [6]bool{true, true, true, true, true, true}},
		{19, [6]bool{false, true, false, false, false, false}},
		{31, [6]bool{false, true, false, false, false, false}},
		{53, [6]bool{false, false, false, true, false, false}},
		{15, [6]bool{false, false, true, false, false, false}},
		{22, [6]bool{false, false, false, false, true, false}},
		{28, [6]bool{false, false, false, false, false, true}},
	} {
		for i, comma := range sixCommas() {
			checkHides(t, impl.BestMap(want.n), comma, want.hides[i])
			checkHides(t, impl.BestMap(want.n), negated(comma), want.hides[i])
		}
	}
}

func TestHidesOtherIntervals(t *testing.T) {
	checkHides(t, mapOf(12, 19, 28), tone(1, 0, 0, 1), false)
	checkHides(t, mapOf(12, 19, 28), tone(-1, 1, 0, 1), false)
	checkHides(t, mapOf(12, 19, 28), greatestComma(), false)
	checkHides(t, mapOf(7, 11, 16), greatestComma(), true)
	// An interval need not be small: one step in an octave hides the third.
	checkHides(t, mapOf(1, 2, 2), tone(-2, 0, 1, 1), true)
	checkHides(t, mapOf(1, 0, 0), tone(0, 400, -400, 1), true)
	checkHides(t, mapOf(1, 0, 0), tone(1, 400, -400, 1), false)
	checkHides(t, mapOf(60, 200, 200), tone(400, -120, 0, 1), true)
	checkHides(t, mapOf(60, 200, 200), tone(-400, 320, -200, 1), true)
	checkHides(t, mapOf(60, 200, 200), tone(0, 400, -400, 1), true)
	checkHides(t, mapOf(60, 200, 200), tone(0, 400, -399, 1), false)
	checkHides(t, mapOf(60, 0, 200), tone(-400, 333, 120, 1), true)
}

// The list of intervals has the prime, which every map hides.
func TestHidesWhatHasNoSteps(t *testing.T) {
	hidden, heard := 0, 0
	for _, m := range slices.Concat(someMaps(), endMaps()) {
		checkHides(t, m, prime(), true)
		for _, x := range pureIntervals() {
			checkHides(t, m, x, hasNoSteps(m, x))
			if hasNoSteps(m, x) {
				hidden++
			} else {
				heard++
			}
		}
	}
	if hidden < 1000 || heard < 10000 {
		t.Errorf("%d are hidden, %d are not", hidden, heard)
	}
}

// StepsIn rejects these with 0, which does not mean that they have no steps.
func TestHidesInvalid(t *testing.T) {
	for _, m := range invalidMaps() {
		for _, x := range []impl.Interval{prime(), tone(-4, 4, -1, 1), tone(0, 1, -1, 1), tone(1, 0, 0, 1), {}, tone(0, 0, 0, 2)} {
			checkHides(t, m, x, false)
		}
	}
	for _, m := range []impl.Map{mapOf(12, 19, 28), mapOf(1, 0, 0), mapOf(60, 200, 200)} {
		for _, x := range invalidIntervals() {
			checkHides(t, m, x, false)
		}
		for _, x := range append(sixCommas(), prime()) {
			for _, root := range append(extremeInts(), -12, -2, -1, 0, 2, 3, 12, 13, 14) {
				checkHides(t, m, tone(x.Two, x.Three, x.Five, root), false)
			}
			checkHides(t, m, tone(2*x.Two, 2*x.Three, 2*x.Five, 2), false)
		}
	}
	// These would have no steps, but for a power beyond the limit.
	checkHides(t, mapOf(1, 0, 0), tone(0, 401, 0, 1), false)
	checkHides(t, mapOf(1, 0, 0), tone(0, 0, -401, 1), false)
	checkHides(t, mapOf(1, 1, 1), tone(401, -400, -1, 1), false)
	checkHides(t, mapOf(1, 1, 1), tone(-401, 400, 1, 1), false)
	checkHides(t, mapOf(1, 1, 1), tone(0, math.MaxInt, -math.MaxInt, 1), false)
	checkHides(t, mapOf(1, 1, 1), tone(400, -400, 0, 1), true)
}

func TestHiddenCommas(t *testing.T) {
	syntonic, diesis := tone(-4, 4, -1, 1), tone(7, 0, -3, 1)
	checkHiddenCommas(t, mapOf(12, 19, 28), 2)
	checkHiddenCommas(t, mapOf(12, 19, 28), 3, diesis)
	checkHiddenCommas(t, mapOf(12, 19, 28), 4, tone(11, -4, -2, 1), diesis, tone(3, 4, -4, 1), syntonic)
	checkHiddenCommas(t, mapOf(5, 8, 12), 4, syntonic)
	checkHiddenCommas(t, mapOf(7, 11, 16), 5, tone(1, -5, 3, 1), greatestComma(), syntonic)
	checkHiddenCommas(t, mapOf(19, 30, 44), 5, tone(-10, -1, 5, 1), tone(-14, 3, 4, 1), syntonic)
	checkHiddenCommas(t, mapOf(31, 49, 72), 8, tone(17, 1, -8, 1), tone(-21, 3, 7, 1), syntonic, tone(-25, 7, 6, 1))
	checkHiddenCommas(t, mapOf(53, 84, 123), 5)
	checkHiddenCommas(t, mapOf(53, 84, 123), 8, tone(-6, -5, 6, 1), tone(-21, 3, 7, 1), tone(-15, 8, 1, 1))
	checkHiddenCommas(t, mapOf(1, 0, 0), 8)
	checkHiddenCommas(t, mapOf(60, 200, 200), 8)
}

func TestHiddenCommasWithoutPowers(t *testing.T) {
	for _, m := range slices.Concat(someMaps(), endMaps()) {
		checkHiddenCommas(t, m, 0)
	}
}

func TestHiddenCommasAreThoseWithoutSteps(t *testing.T) {
	hidden := 0
	for limit := 0; limit <= 8; limit++ {
		commas := impl.CommasWithin(limit)
		for _, m := range slices.Concat(someMaps(), endMaps()) {
			var want []impl.Interval
			for _, x := range commas {
				if foundSteps(t, m, x) == 0 {
					want = append(want, x)
				}
			}
			checkHiddenCommas(t, m, limit, want...)
			hidden += len(want)
		}
	}
	if hidden < 500 {
		t.Errorf("only %d commas are hidden", hidden)
	}
}

func TestHiddenCommasLikeASearch(t *testing.T) {
	list := searchedCommas(8)
	for n := 1; n <= 60; n++ {
		m := bestMapOf(t, n)
		heard := func(x impl.Interval) bool { return !hasNoSteps(m, x) }
		checkHiddenCommas(t, m, 8, slices.DeleteFunc(slices.Clone(list), heard)...)
	}
}

func TestHiddenCommasInvalid(t *testing.T) {
	limits := append(extremeInts(), -1, -2, -8, 9, 10, 16, 400)
	for _, m := range invalidMaps() {
		for limit := -2; limit <= 10; limit++ {
			checkHiddenCommas(t, m, limit)
		}
		for _, limit := range limits {
			checkHiddenCommas(t, m, limit)
		}
	}
	for _, m := range someMaps() {
		for _, limit := range limits {
			checkHiddenCommas(t, m, limit)
		}
	}
}

func TestHiddenCommasReturnNewMemory(t *testing.T) {
	for _, n := range []int{1, 2, 5, 7, 12, 19, 31, 53, 60} {
		m := impl.BestMap(n)
		want := slices.Clone(impl.HiddenCommas(m, 8))
		first, second := impl.HiddenCommas(m, 8), impl.HiddenCommas(m, 8)
		spare := first[:cap(first)]
		for i := range spare {
			spare[i] = tone(77, 77, 77, 7)
		}
		if !slices.Equal(second, want) {
			t.Errorf("two results of HiddenCommas(%v, 8) share memory: %v", m, second)
		}
		checkHiddenCommas(t, m, 8, want...)
	}
	checkCommasWithin(t, 3, greatestComma(), tone(7, 0, -3, 1))
}

func TestDivisionsHiding(t *testing.T) {
	want := [6][]int{
		{12, 24, 36},
		{5, 7, 12, 19, 24, 26, 31, 36, 38},
		{3, 6, 9, 12, 15, 18, 21, 24, 27, 30, 33, 36, 39},
		{12, 17, 24, 29, 36},
		{2, 10, 12, 14, 20, 22, 24, 32, 34, 36},
		{4, 8, 12, 16, 24, 28, 36, 40},
	}
	for i, comma := range sixCommas() {
		checkDivisions(t, comma, 40, want[i]...)
		checkDivisions(t, negated(comma), 40, want[i]...)
		checkDivisions(t, repeated(comma, 7), 40, want[i]...)
	}
	checkDivisions(t, tone(-4, 4, -1, 1), 12, 5, 7, 12)
	checkDivisions(t, tone(-4, 4, -1, 1), 11, 5, 7)
	checkDivisions(t, tone(3, 4, -4, 1), 39, 4, 8, 12, 16, 24, 28, 36)
	// These need not be commas.
	checkDivisions(t, tone(-2, 0, 1, 1), 40, 1)
	checkDivisions(t, tone(1, 1, -1, 1), 40, 2)
	checkDivisions(t, tone(-1, 1, 0, 1), 40)
	checkDivisions(t, tone(1, 0, 0, 1), 40)
	checkDivisions(t, tone(400, 400, 400, 1), 40)
}

func TestDivisionsHidingLikeASearch(t *testing.T) {
	maps := []impl.Map{{}}
	for n := 1; n <= 40; n++ {
		maps = append(maps, bestMapOf(t, n))
	}
	for _, x := range slices.Concat(sixCommas(), smallCommas(), impl.CommasWithin(8), impl.ChainOf(-12, 12), endIntervals(1)) {
		var want []int
		for most := 0; most <= 40; most++ {
			if most > 0 && hasNoSteps(maps[most], x) {
				want = append(want, most)
			}
			// Every end is tried for the named commas, and the last ones for all intervals.
			if most >= 39 || slices.Contains(sixCommas(), x) {
				checkDivisions(t, x, most, want...)
			}
		}
	}
}

func TestDivisionsHidingAtTheEndsOfTheRange(t *testing.T) {
	var all []int
	for most := 0; most <= 40; most++ {
		if most > 0 {
			all = append(all, most)
		}
		checkDivisions(t, prime(), most, all...)
	}
	for _, x := range append(sixCommas(), prime(), tone(-2, 0, 1, 1)) {
		checkDivisions(t, x, 0)
	}
	for _, comma := range sixCommas() {
		checkDivisions(t, comma, 1)
	}
	checkDivisions(t, prime(), 1, 1)
	checkDivisions(t, tone(-2, 0, 1, 1), 1, 1)
	checkDivisions(t, tone(1, 1, -1, 1), 1)
	checkDivisions(t, tone(1, 1, -1, 1), 2, 2)
}

func TestDivisionsHidingInvalid(t *testing.T) {
	for _, x := range append(sixCommas(), prime()) {
		for _, most := range append(extremeInts(), -1, -2, -12, -40, 41, 42, 60, 61, 1<<32+12) {
			checkDivisions(t, x, most)
		}
		for _, root := range append(extremeInts(), -2, -1, 0, 2, 3, 12, 13, 14) {
			checkDivisions(t, tone(x.Two, x.Three, x.Five, root), 40)
			checkDivisions(t, tone(x.Two, x.Three, x.Five, root), 12)
		}
	}
	for _, x := range append(invalidIntervals(), tone(0, 0, 0, 2), tone(0, 0, 0, 12), tone(14, 0, -6, 2)) {
		for _, most := range append(extremeInts(), -1, 0, 1, 12, 40, 41) {
			checkDivisions(t, x, most)
		}
	}
	// A multiple of the first comma whose power of 2 is beyond the limit, and the last one that is not.
	checkDivisions(t, repeated(tone(-19, 12, 0, 1), 22), 40)
	checkDivisions(t, repeated(tone(-19, 12, 0, 1), 21), 40, 12, 24, 36)
}

func TestDivisionsHidingReturnNewMemory(t *testing.T) {
	for _, x := range append(sixCommas(), prime()) {
		want := slices.Clone(impl.DivisionsHiding(x, 40))
		first, second := impl.DivisionsHiding(x, 40), impl.DivisionsHiding(x, 40)
		spare := first[:cap(first)]
		for i := range spare {
			spare[i] = 77
		}
		if !slices.Equal(second, want) {
			t.Errorf("two results of DivisionsHiding(%v, 40) share memory: %v", x, second)
		}
		checkDivisions(t, x, 40, want...)
	}
}

func TestSharedByBestMaps(t *testing.T) {
	for _, want := range []struct {
		a, b   int
		shared impl.Interval
	}{
		{12, 19, tone(-4, 4, -1, 1)}, {5, 7, tone(-4, 4, -1, 1)}, {7, 12, tone(-4, 4, -1, 1)}, {19, 31, tone(-4, 4, -1, 1)},
		{12, 53, tone(-15, 8, 1, 1)}, {41, 53, tone(-15, 8, 1, 1)}, {12, 22, tone(11, -4, -2, 1)}, {12, 15, tone(7, 0, -3, 1)},
		{3, 12, tone(7, 0, -3, 1)}, {31, 53, tone(-21, 3, 7, 1)}, {15, 22, tone(1, -5, 3, 1)}, {9, 10, tone(-14, 3, 4, 1)},
		{34, 53, tone(-6, -5, 6, 1)}, {1, 60, tone(-88, 19, 25, 1)}, {59, 60, tone(-51, -19, 35, 1)},
	} {
		checkShared(t, impl.BestMap(want.a), impl.BestMap(want.b), want.shared, true)
	}
}

func TestSharedByDivisionsThatAreMultiples(t *testing.T) {
	for _, want := range []struct {
		n      int
		shared impl.Interval
	}{
		{1, tone(4, -1, -1, 1)}, {2, tone(-3, 2, 0, 1)}, {5, tone(8, -5, 0, 1)}, {7, tone(-11, 7, 0, 1)},
		{11, tone(43, -11, -11, 1)}, {17, tone(27, -17, 0, 1)},
	} {
		checkShared(t, impl.BestMap(want.n), impl.BestMap(2*want.n), want.shared, true)
	}
	proportional := []int{3, 10, 12, 15, 19, 22}
	for n := 1; n <= 30; n++ {
		a, b := impl.BestMap(n), impl.BestMap(2*n)
		if (b == timesMap(a, 2)) != slices.Contains(proportional, n) {
			t.Errorf("BestMap(%d) is %v", 2*n, b)
		}
		x, ok := sharedOf(a, b)
		checkShared(t, a, b, x, ok)
		if ok == slices.Contains(proportional, n) {
			t.Errorf("what %v and %v share is %v, %v", a, b, x, ok)
		}
	}
}

// One map hides no less than its multiples, so that there is no single interval for both.
func TestSharedByMultiplesOfOneMap(t *testing.T) {
	for _, m := range slices.Concat(someMaps(), endMaps()) {
		for n := 1; impl.MapOk(timesMap(m, n)); n++ {
			checkNothingShared(t, m, timesMap(m, n))
			checkNothingShared(t, timesMap(m, n), timesMap(m, n))
		}
	}
	checkNothingShared(t, mapOf(12, 19, 28), mapOf(24, 38, 56))
	checkNothingShared(t, mapOf(24, 38, 56), mapOf(36, 57, 84))
	checkNothingShared(t, mapOf(12, 0, 0), mapOf(19, 0, 0))
	checkNothingShared(t, mapOf(60, 200, 200), mapOf(30, 100, 100))
	checkNothingShared(t, mapOf(40, 0, 200), mapOf(20, 0, 100))
}

// A number that divides one of the maps divides the powers, too.
func TestSharedByMultiplesOfTwoMaps(t *testing.T) {
	shared := 0
	for a := 1; a <= 20; a++ {
		for b := 1; b <= 20; b++ {
			one, other := impl.BestMap(a), impl.BestMap(b)
			x, ok := sharedOf(one, other)
			for _, times := range [][2]int{{1, 1}, {2, 1}, {3, 1}, {2, 2}, {2, 3}, {3, 3}} {
				checkShared(t, timesMap(one, times[0]), timesMap(other, times[1]), x, ok)
				shared++
			}
		}
	}
	if shared < 2000 {
		t.Errorf("only %d pairs", shared)
	}
	checkShared(t, mapOf(24, 38, 56), mapOf(57, 90, 132), tone(-4, 4, -1, 1), true)
	checkShared(t, mapOf(60, 95, 140), mapOf(57, 90, 132), tone(-4, 4, -1, 1), true)
}

func TestSharedByMapsAtTheEnds(t *testing.T) {
	checkShared(t, mapOf(60, 200, 0), mapOf(60, 0, 200), tone(-10, 3, 3, 1), true)
	checkShared(t, mapOf(60, 0, 0), mapOf(60, 200, 200), tone(0, -1, 1, 1), true)
	checkShared(t, mapOf(1, 0, 0), mapOf(60, 200, 200), tone(0, -1, 1, 1), true)
	checkShared(t, mapOf(59, 200, 200), mapOf(60, 200, 200), tone(0, -1, 1, 1), true)
	checkShared(t, mapOf(1, 200, 200), mapOf(60, 200, 200), tone(0, -1, 1, 1), true)
	checkShared(t, mapOf(1, 0, 200), mapOf(60, 200, 0), tone(200, -60, -1, 1), true)
	checkShared(t, mapOf(1, 0, 0), mapOf(1, 200, 0), tone(0, 0, 1, 1), true)
	checkShared(t, mapOf(1, 0, 0), mapOf(1, 0, 200), tone(0, 1, 0, 1), true)
	checkShared(t, mapOf(12, 200, 0), mapOf(19, 200, 0), tone(0, 0, 1, 1), true)
	checkShared(t, mapOf(12, 0, 200), mapOf(19, 0, 200), tone(0, 1, 0, 1), true)
	checkShared(t, mapOf(12, 28, 19), mapOf(12, 19, 28), tone(47, -12, -12, 1), true)
	checkNothingShared(t, mapOf(60, 200, 199), mapOf(59, 198, 200))
	checkNothingShared(t, mapOf(60, 200, 1), mapOf(59, 0, 200))
}

// Each power in turn is at the limit or just beyond it.
func TestSharedByAtTheLimitOfPowers(t *testing.T) {
	checkShared(t, mapOf(1, 3, 1), mapOf(1, 2, 134), tone(400, -133, -1, 1), true)
	checkNothingShared(t, mapOf(1, 3, 1), mapOf(1, 1, 134))
	checkShared(t, mapOf(1, 0, 200), mapOf(2, 1, 0), tone(-200, 400, 1, 1), true)
	checkNothingShared(t, mapOf(1, 1, 134), mapOf(3, 0, 1))
	checkShared(t, mapOf(2, 0, 1), mapOf(1, 200, 0), tone(-200, 1, 400, 1), true)
	checkNothingShared(t, mapOf(3, 1, 0), mapOf(1, 134, 1))
	// The powers are beyond the limit until the common divisor is divided out.
	checkShared(t, mapOf(2, 6, 2), mapOf(1, 2, 134), tone(400, -133, -1, 1), true)
	checkShared(t, mapOf(20, 60, 20), mapOf(1, 2, 134), tone(400, -133, -1, 1), true)
	checkNothingShared(t, mapOf(2, 6, 2), mapOf(1, 1, 134))
	// A search finds no valid interval there either.
	for _, pair := range [][2]impl.Map{{mapOf(1, 3, 1), mapOf(1, 1, 134)}, {mapOf(1, 1, 134), mapOf(3, 0, 1)}, {mapOf(3, 1, 0), mapOf(1, 134, 1)}} {
		if found := searchedShared(pair[0], pair[1]); len(found) != 0 {
			t.Errorf("%v and %v share %v", pair[0], pair[1], found)
		}
	}
}

func TestSharedByLikeTheDocument(t *testing.T) {
	shared, failed := 0, 0
	list := slices.Concat(someMaps(), endMaps())
	for i, a := range list {
		for _, b := range list[i:] {
			x, ok := sharedOf(a, b)
			checkShared(t, a, b, x, ok)
			if ok {
				shared++
			} else {
				failed++
			}
		}
	}
	if shared < 3000 || failed < 1000 {
		t.Errorf("%d pairs share an interval, %d do not", shared, failed)
	}
}

// What both maps hide is the only one of its kind, or there is none to be given.
func TestSharedByLikeASearch(t *testing.T) {
	list := []impl.Map{
		mapOf(1, 0, 0), mapOf(1, 0, 200), mapOf(60, 200, 0), mapOf(60, 200, 200), mapOf(59, 199, 200), mapOf(30, 100, 100), mapOf(13, 0, 1),
		mapOf(12, 28, 19), mapOf(17, 27, 40), mapOf(2, 6, 2), mapOf(1, 2, 134),
	}
	for _, n := range []int{1, 2, 3, 5, 6, 7, 10, 12, 19, 20, 22, 24, 31, 34, 53, 57, 60} {
		list = append(list, bestMapOf(t, n))
	}
	for i, a := range list {
		for _, b := range list[i:] {
			found := searchedShared(a, b)
			if len(found) == 1 {
				checkShared(t, a, b, found[0], true)
			} else {
				checkNothingShared(t, a, b)
			}
		}
	}
}

// The interval is greater than the prime, in its simplest form, and hidden by both maps and by their sum.
func TestBothMapsHideWhatTheyShare(t *testing.T) {
	sums := 0
	for a := 1; a <= 60; a++ {
		for b := a + 1; b <= 60; b++ {
			one, other := impl.BestMap(a), impl.BestMap(b)
			x, ok := impl.SharedBy(one, other)
			if !ok {
				continue
			}
			if !impl.IntervalOk(x) || x.Root != 1 || hasDivisor(x) || bigOrder(x, prime()) <= 0 {
				t.Errorf("SharedBy(%v, %v) = %v", one, other, x)
			}
			checkHides(t, one, x, true)
			checkHides(t, other, x, true)
			if sum, ok := impl.AddMaps(one, other); ok {
				checkHides(t, sum, x, true)
				checkShared(t, one, sum, x, true)
				checkShared(t, other, sum, x, true)
				sums++
			}
		}
	}
	if sums < 500 {
		t.Errorf("only %d sums", sums)
	}
}

func TestSumsHideWhatBothMapsHide(t *testing.T) {
	list, maps := slices.Concat(pureIntervals(), impl.CommasWithin(8)), slices.Concat(someMaps(), endMaps())
	hidden := 0
	for _, a := range maps {
		var quiet []impl.Interval
		for _, x := range list {
			if impl.Hides(a, x) && x != prime() {
				quiet = append(quiet, x)
			}
		}
		for _, b := range maps {
			sum, ok := impl.AddMaps(a, b)
			if !ok {
				continue
			}
			for _, x := range quiet {
				// What only one of both hides is heard in the sum, because only the other one has steps for it.
				checkHides(t, sum, x, impl.Hides(b, x))
				if impl.Hides(b, x) {
					hidden++
				}
			}
		}
	}
	if hidden < 2000 {
		t.Errorf("only %d intervals are hidden by both maps", hidden)
	}
}

func TestHiddenCommasOfBothMapsAreHiddenBySums(t *testing.T) {
	maps, hidden := []impl.Map{{}}, [][]impl.Interval{nil}
	for n := 1; n <= 60; n++ {
		maps = append(maps, impl.BestMap(n))
		hidden = append(hidden, impl.HiddenCommas(maps[n], 8))
	}
	common := 0
	for a := 1; a <= 59; a++ {
		for b := a; a+b <= 60; b++ {
			both := slices.DeleteFunc(slices.Clone(hidden[a]), func(x impl.Interval) bool { return !slices.Contains(hidden[b], x) })
			if len(both) == 0 {
				continue
			}
			sum, ok := impl.AddMaps(maps[a], maps[b])
			if !ok {
				t.Fatalf("%v and %v have no sum", maps[a], maps[b])
			}
			inSum := impl.HiddenCommas(sum, 8)
			for _, x := range both {
				common++
				if !slices.Contains(inSum, x) {
					t.Errorf("%v hides %v, and so does %v, but their sum does not", maps[a], x, maps[b])
				}
			}
		}
	}
	if common < 300 {
		t.Errorf("only %d commas are hidden by both maps", common)
	}
}

// What a map hides can be added, and goes on being hidden.
func TestSumsOfHiddenIntervalsAreHidden(t *testing.T) {
	for n := 1; n <= 60; n++ {
		m := impl.BestMap(n)
		hidden := impl.HiddenCommas(m, 8)
		for _, a := range hidden {
			for _, b := range hidden {
				sum, ok := impl.AddIntervals(a, b)
				difference, isOk := impl.AddIntervals(a, negated(b))
				if !ok || !isOk {
					t.Fatalf("%v and %v cannot be added", a, b)
				}
				checkHides(t, m, sum, true)
				checkHides(t, m, difference, true)
			}
		}
	}
}

func TestSharedByInvalid(t *testing.T) {
	valid := []impl.Map{mapOf(12, 19, 28), mapOf(19, 30, 44), mapOf(1, 0, 0), mapOf(60, 200, 200)}
	for _, m := range invalidMaps() {
		for _, other := range slices.Concat(valid, invalidMaps()) {
			checkNothingShared(t, m, other)
		}
	}
	// The powers of these would be those of a valid interval.
	checkNothingShared(t, mapOf(0, 19, 28), mapOf(19, 30, 44))
	checkNothingShared(t, mapOf(-12, -19, -28), mapOf(19, 30, 44))
	checkNothingShared(t, mapOf(12, -1, 28), mapOf(19, 30, 44))
	checkNothingShared(t, mapOf(12, 19, -1), mapOf(19, 30, 44))
	checkNothingShared(t, mapOf(61, 97, 142), mapOf(12, 19, 28))
	checkNothingShared(t, mapOf(1, 201, 0), mapOf(1, 0, 0))
	checkNothingShared(t, mapOf(1, 0, 201), mapOf(1, 0, 0))
	checkNothingShared(t, mapOf(math.MinInt, 0, 0), mapOf(1, 1, 0))
	checkNothingShared(t, mapOf(math.MaxInt, 0, 0), mapOf(1, 1, 0))
}

// No call changes what is found afterwards, neither one that is rejected nor one that is not.
func TestHidingKeepsNothing(t *testing.T) {
	for range 3 {
		m, other, comma := mapOf(12, 19, 28), mapOf(19, 30, 44), tone(-4, 4, -1, 1)
		checkHides(t, m, comma, true)
		checkHides(t, m, tone(-4, 4, -1, 2), false)
		checkHides(t, impl.Map{}, comma, false)
		checkHiddenCommas(t, m, 3, tone(7, 0, -3, 1))
		checkHiddenCommas(t, m, 9)
		checkHiddenCommas(t, other, 3)
		checkDivisions(t, comma, 7, 5, 7)
		checkDivisions(t, comma, 41)
		checkShared(t, m, other, comma, true)
		checkNothingShared(t, m, m)
		checkNothingShared(t, m, impl.Map{})
		if m != mapOf(12, 19, 28) || other != mapOf(19, 30, 44) || comma != tone(-4, 4, -1, 1) {
			t.Error("an argument was modified")
		}
	}
}
