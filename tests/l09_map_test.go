package tests

import (
	"math"
	"math/big"
	"slices"
	"testing"

	"loop.example/g00989/impl"
)

func mapOf(two, three, five int) impl.Map {
	return impl.Map{Two: two, Three: three, Five: five}
}

// nearestOf searches for all numbers k for which the ratio num/den to the power of n is nearest to k octaves, by the inequalities of the document.
func nearestOf(t *testing.T, n, num, den int) int {
	t.Helper()
	power := func(base, exponent int) *big.Int {
		return new(big.Int).Exp(big.NewInt(int64(base)), big.NewInt(int64(exponent)), nil)
	}
	above, below := power(num, 2*n), power(den, 2*n)
	var found []int
	for k := 1; k <= 300; k++ {
		less := new(big.Int).Mul(power(2, 2*k-1), below)
		more := new(big.Int).Mul(power(2, 2*k+1), below)
		if less.Cmp(above) < 0 && above.Cmp(more) < 0 {
			found = append(found, k)
		}
	}
	if len(found) != 1 {
		t.Fatalf("%d times %d/%d is nearest to %v", n, num, den, found)
	}
	return found[0]
}

// isDivision repeats the ranges of the document.
func isDivision(m impl.Map) bool {
	return m.Two >= 1 && m.Two <= 60 && m.Three >= 0 && m.Three <= 200 && m.Five >= 0 && m.Five <= 200
}

// someMaps are valid: the best ones, others and those at the ends of the ranges.
func someMaps() []impl.Map {
	list := []impl.Map{
		mapOf(1, 0, 0), mapOf(1, 200, 200), mapOf(60, 0, 0), mapOf(60, 200, 200), mapOf(1, 0, 200), mapOf(60, 200, 0),
		mapOf(12, 28, 19), mapOf(12, 19, 27), mapOf(12, 18, 28), mapOf(2, 3, 5), mapOf(30, 100, 100), mapOf(17, 27, 40), mapOf(13, 0, 1),
	}
	for n := 1; n <= 60; n++ {
		list = append(list, impl.BestMap(n))
	}
	return list
}

func invalidMaps() []impl.Map {
	list := []impl.Map{
		{}, mapOf(0, 19, 28), mapOf(-12, -19, -28), mapOf(61, 201, 201), mapOf(0, -1, -1), mapOf(0, 200, 200),
		mapOf(math.MaxInt, math.MaxInt, math.MaxInt), mapOf(math.MinInt, math.MinInt, math.MinInt),
		mapOf(math.MinInt, math.MaxInt, math.MinInt), mapOf(math.MaxInt, math.MinInt, math.MaxInt),
		mapOf(12, math.MinInt, math.MaxInt), mapOf(12, math.MaxInt, math.MinInt), mapOf(12, math.MaxInt-9, math.MaxInt),
	}
	others := append(extremeInts(), -1, -2, -12, 201, 202, 256, 400, 1<<32+12, 1<<32, -1<<32)
	for _, n := range others {
		list = append(list, mapOf(n, 19, 28), mapOf(n, 0, 0), mapOf(12, n, 28), mapOf(12, 19, n), mapOf(12, n, n))
	}
	for _, two := range []int{0, 61, 62, 120, 200} {
		list = append(list, mapOf(two, 19, 28), mapOf(two, 0, 0), mapOf(two, 200, 200))
	}
	return append(list, mapOf(61, 97, 142), mapOf(62, 98, 144))
}

// pureIntervals are valid and have the root 1.
func pureIntervals() []impl.Interval {
	list := slices.Concat(sixCommas(), smallCommas(), impl.ChainOf(-12, 12), plainIntervals(), endIntervals(1))
	for _, x := range slices.Concat(someIntervals(), longIntervals()) {
		list = append(list, tone(x.Two, x.Three, x.Five, 1))
	}
	for two := -3; two <= 3; two++ {
		for three := -2; three <= 2; three++ {
			for five := -2; five <= 2; five++ {
				list = append(list, tone(two, three, five, 1))
			}
		}
	}
	return slices.DeleteFunc(list, func(x impl.Interval) bool { return x.Root != 1 })
}

func checkMapOk(t *testing.T, m impl.Map, want bool) {
	t.Helper()
	if got := impl.MapOk(m); got != want {
		t.Errorf("MapOk(%v) = %v", m, got)
	}
}

func checkStepsIn(t *testing.T, m impl.Map, x impl.Interval, want int) {
	t.Helper()
	if got, ok := impl.StepsIn(m, x); got != want || !ok {
		t.Errorf("StepsIn(%v, %v) = %d, %v; want %d, true", m, x, got, ok, want)
	}
}

func checkStepsInFails(t *testing.T, m impl.Map, x impl.Interval) {
	t.Helper()
	if got, ok := impl.StepsIn(m, x); got != 0 || ok {
		t.Errorf("StepsIn(%v, %v) = %d, %v; want 0, false", m, x, got, ok)
	}
}

func foundSteps(t *testing.T, m impl.Map, x impl.Interval) int {
	t.Helper()
	steps, ok := impl.StepsIn(m, x)
	if !ok {
		t.Fatalf("%v has no steps in %v", x, m)
	}
	return steps
}

func checkBestMap(t *testing.T, n int, want impl.Map) {
	t.Helper()
	if got := impl.BestMap(n); got != want {
		t.Errorf("BestMap(%d) = %v; want %v", n, got, want)
	}
}

func checkStepSize(t *testing.T, m impl.Map, want impl.Interval) {
	t.Helper()
	if got := impl.StepSize(m); got != want {
		t.Errorf("StepSize(%v) = %v; want %v", m, got, want)
	}
}

func checkConsistent(t *testing.T, m impl.Map, want bool) {
	t.Helper()
	if got := impl.IsConsistent(m); got != want {
		t.Errorf("IsConsistent(%v) = %v", m, got)
	}
}

// checkMapSum adds in both orders.
func checkMapSum(t *testing.T, a, b, want impl.Map, wantOk bool) {
	t.Helper()
	if got, ok := impl.AddMaps(a, b); got != want || ok != wantOk {
		t.Errorf("AddMaps(%v, %v) = %v, %v; want %v, %v", a, b, got, ok, want, wantOk)
	}
	if got, ok := impl.AddMaps(b, a); got != want || ok != wantOk {
		t.Errorf("AddMaps(%v, %v) = %v, %v; want %v, %v", b, a, got, ok, want, wantOk)
	}
}

func checkMapSumFails(t *testing.T, a, b impl.Map) {
	t.Helper()
	checkMapSum(t, a, b, impl.Map{}, false)
}

func TestMapOk(t *testing.T) {
	for _, m := range someMaps() {
		checkMapOk(t, m, true)
	}
	for _, two := range []int{-2, -1, 0, 1, 2, 12, 59, 60, 61, 62} {
		for _, three := range []int{-2, -1, 0, 1, 59, 60, 61, 199, 200, 201, 202} {
			for _, five := range []int{-2, -1, 0, 1, 59, 60, 61, 199, 200, 201, 202} {
				m := mapOf(two, three, five)
				checkMapOk(t, m, isDivision(m))
			}
		}
	}
}

func TestMapOkInvalid(t *testing.T) {
	for _, m := range invalidMaps() {
		checkMapOk(t, m, false)
	}
}

func TestBestMap(t *testing.T) {
	checkBestMap(t, 1, mapOf(1, 2, 2))
	checkBestMap(t, 2, mapOf(2, 3, 5))
	checkBestMap(t, 3, mapOf(3, 5, 7))
	checkBestMap(t, 5, mapOf(5, 8, 12))
	checkBestMap(t, 7, mapOf(7, 11, 16))
	checkBestMap(t, 12, mapOf(12, 19, 28))
	checkBestMap(t, 13, mapOf(13, 21, 30))
	checkBestMap(t, 19, mapOf(19, 30, 44))
	checkBestMap(t, 22, mapOf(22, 35, 51))
	checkBestMap(t, 31, mapOf(31, 49, 72))
	checkBestMap(t, 34, mapOf(34, 54, 79))
	checkBestMap(t, 41, mapOf(41, 65, 95))
	checkBestMap(t, 53, mapOf(53, 84, 123))
	checkBestMap(t, 60, mapOf(60, 95, 139))
}

func TestBestMapLikeASearch(t *testing.T) {
	for n := 1; n <= 60; n++ {
		m := mapOf(n, nearestOf(t, n, 3, 1), nearestOf(t, n, 5, 1))
		checkBestMap(t, n, m)
		checkMapOk(t, m, true)
	}
}

// The partials of these divisions lie nearly halfway between two numbers of steps.
func TestBestMapBetweenTwoSteps(t *testing.T) {
	for _, place := range []struct{ partial, n, nearest int }{
		{3, 47, 74}, {3, 6, 10}, {3, 59, 94}, {3, 35, 55}, {3, 18, 29}, {3, 23, 36}, {3, 30, 48}, {3, 11, 17},
		{5, 14, 33}, {5, 45, 104}, {5, 42, 98}, {5, 17, 39}, {5, 11, 26}, {5, 48, 111}, {5, 39, 91}, {5, 20, 46},
	} {
		size := float64(place.n) * math.Log2(float64(place.partial))
		if between := size - math.Floor(size); between < 0.43 || between > 0.57 {
			t.Fatalf("%v lies at %v", place, between)
		}
		m := impl.BestMap(place.n)
		got := m.Three
		if place.partial == 5 {
			got = m.Five
		}
		if got != place.nearest {
			t.Errorf("BestMap(%d) has %d steps for the partial %d; want %d", place.n, got, place.partial, place.nearest)
		}
	}
}

func TestBestMapInvalid(t *testing.T) {
	for _, n := range append(extremeInts(), 0, -1, -12, -60, 61, 62, 120, 256, 1<<32+12, 1<<63-48) {
		checkBestMap(t, n, impl.Map{})
	}
}

func TestStepsOfFifthsThirdsAndOctaves(t *testing.T) {
	for _, want := range []struct{ n, fifth, third, small, whole int }{
		{12, 7, 4, 3, 2}, {19, 11, 6, 5, 3}, {31, 18, 10, 8, 5}, {53, 31, 17, 14, 9},
	} {
		m := impl.BestMap(want.n)
		checkStepsIn(t, m, tone(-1, 1, 0, 1), want.fifth)
		checkStepsIn(t, m, tone(-2, 0, 1, 1), want.third)
		checkStepsIn(t, m, tone(1, 1, -1, 1), want.small)
		checkStepsIn(t, m, tone(-3, 2, 0, 1), want.whole)
		checkStepsIn(t, m, tone(1, 0, 0, 1), want.n)
		checkStepsIn(t, m, tone(2, -1, 0, 1), want.n-want.fifth)
		checkStepsIn(t, m, tone(3, 0, 0, 1), 3*want.n)
		// Downwards.
		checkStepsIn(t, m, tone(1, -1, 0, 1), -want.fifth)
		checkStepsIn(t, m, tone(2, 0, -1, 1), -want.third)
		checkStepsIn(t, m, tone(-1, 0, 0, 1), -want.n)
	}
}

func TestStepsOfCommas(t *testing.T) {
	for _, want := range []struct {
		n     int
		steps [6]int
	}{
		{12, [6]int{0, 0, 0, 0, 0, 0}}, {19, [6]int{-1, 0, 1, -1, 1, 1}}, {31, [6]int{-1, 0, 1, -1, 1, 1}}, {53, [6]int{1, 1, 2, 0, 1, 3}},
	} {
		for i, comma := range sixCommas() {
			checkStepsIn(t, impl.BestMap(want.n), comma, want.steps[i])
		}
	}
}

// The partials themselves have the steps that the map gives, and the prime has none.
func TestStepsOfPartials(t *testing.T) {
	for _, m := range someMaps() {
		checkStepsIn(t, m, tone(0, 0, 0, 1), 0)
		for _, n := range []int{-400, -399, -200, -2, -1, 1, 2, 200, 399, 400} {
			checkStepsIn(t, m, tone(n, 0, 0, 1), n*m.Two)
			checkStepsIn(t, m, tone(0, n, 0, 1), n*m.Three)
			checkStepsIn(t, m, tone(0, 0, n, 1), n*m.Five)
		}
	}
}

func TestStepsInAtTheLimits(t *testing.T) {
	most := mapOf(60, 200, 200)
	checkStepsIn(t, most, tone(400, 400, 400, 1), 184000)
	checkStepsIn(t, most, tone(-400, -400, -400, 1), -184000)
	checkStepsIn(t, most, tone(400, -400, 400, 1), 24000)
	checkStepsIn(t, most, tone(-400, 400, 400, 1), 136000)
	checkStepsIn(t, most, tone(400, -400, -400, 1), -136000)
	least := mapOf(1, 0, 0)
	checkStepsIn(t, least, tone(400, 400, 400, 1), 400)
	checkStepsIn(t, least, tone(-400, 400, 400, 1), -400)
	checkStepsIn(t, least, tone(0, -400, 400, 1), 0)
	checkStepsIn(t, mapOf(1, 200, 0), tone(-400, 400, -400, 1), 79600)
	checkStepsIn(t, mapOf(60, 0, 200), tone(-400, 400, -400, 1), -104000)
	checkStepsIn(t, mapOf(12, 19, 28), tone(400, 400, -400, 1), 1200)
	// A sixth that goes down in this map, though it is greater than the prime.
	checkStepsIn(t, mapOf(12, 200, 0), tone(0, -1, 1, 1), -200)
	if impl.MaxPower != 400 {
		t.Error("the limit of powers is", impl.MaxPower)
	}
}

func TestStepsInWithRoots(t *testing.T) {
	for _, m := range []impl.Map{impl.BestMap(12), impl.BestMap(31), mapOf(60, 200, 200), mapOf(1, 0, 0)} {
		for root := 2; root <= 14; root++ {
			checkStepsInFails(t, m, tone(1, 0, 0, root))
			checkStepsInFails(t, m, tone(0, 0, 0, root))
			// An octave and a fifth, in a form that is not the simplest.
			checkStepsInFails(t, m, tone(root, 0, 0, root))
			checkStepsInFails(t, m, tone(-root, root, 0, root))
		}
		for _, root := range append(extremeInts(), 0, -1, -2, -12) {
			checkStepsInFails(t, m, tone(-1, 1, 0, root))
		}
		for _, x := range slices.Concat(someIntervals(), longIntervals(), endIntervals(2, 12)) {
			if x.Root != 1 {
				checkStepsInFails(t, m, x)
			}
		}
	}
}

func TestStepsInInvalid(t *testing.T) {
	for _, m := range invalidMaps() {
		for _, x := range []impl.Interval{tone(-1, 1, 0, 1), tone(0, 0, 0, 1), tone(1, 0, 0, 1), tone(400, 400, 400, 1), {}, tone(1, 0, 0, 2)} {
			checkStepsInFails(t, m, x)
		}
	}
	for _, m := range []impl.Map{impl.BestMap(12), mapOf(1, 0, 0), mapOf(60, 200, 200)} {
		for _, x := range invalidIntervals() {
			checkStepsInFails(t, m, x)
		}
		for _, n := range append(extremeInts(), 401, -401, 402, -402) {
			checkStepsInFails(t, m, tone(n, 0, 0, 1))
			checkStepsInFails(t, m, tone(0, n, 0, 1))
			checkStepsInFails(t, m, tone(0, 0, n, 1))
			checkStepsInFails(t, m, tone(n, n, n, 1))
		}
	}
}

func TestStepsOfSumsAreSumsOfSteps(t *testing.T) {
	list, maps := pureIntervals(), someMaps()
	sums := 0
	for i, a := range list {
		m := maps[i%len(maps)]
		for _, b := range list {
			sum, ok := impl.AddIntervals(a, b)
			if !ok {
				continue
			}
			checkStepsIn(t, m, sum, foundSteps(t, m, a)+foundSteps(t, m, b))
			sums++
		}
	}
	if sums < 10000 {
		t.Errorf("only %d sums", sums)
	}
}

func TestStepsOfMultiplesAndInverses(t *testing.T) {
	maps := someMaps()
	for i, x := range pureIntervals() {
		m := maps[i%len(maps)]
		steps := foundSteps(t, m, x)
		for n := -7; n <= 7; n++ {
			if multiple, ok := impl.TimesInterval(x, n); ok {
				checkStepsIn(t, m, multiple, n*steps)
			}
		}
		if inverse, ok := impl.InvertInterval(x); ok {
			checkStepsIn(t, m, inverse, m.Two-steps)
		}
	}
}

func TestStepsInSumsOfMaps(t *testing.T) {
	list, maps := pureIntervals(), someMaps()
	sums := 0
	for i, a := range maps {
		for j, b := range maps {
			sum, ok := impl.AddMaps(a, b)
			if !ok {
				continue
			}
			for k := range 20 {
				x := list[(31*i+17*j+k)%len(list)]
				checkStepsIn(t, sum, x, foundSteps(t, a, x)+foundSteps(t, b, x))
			}
			sums++
		}
	}
	if sums < 1000 {
		t.Errorf("only %d sums", sums)
	}
}

func TestAddMaps(t *testing.T) {
	checkMapSum(t, mapOf(12, 19, 28), mapOf(19, 30, 44), mapOf(31, 49, 72), true)
	checkMapSum(t, mapOf(31, 49, 72), mapOf(22, 35, 51), mapOf(53, 84, 123), true)
	checkMapSum(t, mapOf(12, 19, 28), mapOf(12, 19, 28), mapOf(24, 38, 56), true)
	checkMapSum(t, mapOf(5, 8, 12), mapOf(7, 11, 16), mapOf(12, 19, 28), true)
	checkMapSum(t, mapOf(1, 0, 0), mapOf(1, 0, 0), mapOf(2, 0, 0), true)
	checkMapSum(t, mapOf(1, 3, 50), mapOf(2, 100, 7), mapOf(3, 103, 57), true)
	maps := someMaps()
	for _, a := range maps {
		for _, b := range maps {
			sum := mapOf(a.Two+b.Two, a.Three+b.Three, a.Five+b.Five)
			if isDivision(sum) {
				checkMapSum(t, a, b, sum, true)
			} else {
				checkMapSumFails(t, a, b)
			}
		}
	}
}

// Three divisions can be added in any grouping, if the whole is within the ranges.
func TestSumsOfThreeMaps(t *testing.T) {
	for a := 1; a <= 20; a++ {
		for b := 1; b <= 20; b++ {
			for c := 1; c <= 20; c += 3 {
				left, leftOk := impl.AddMaps(impl.BestMap(a), impl.BestMap(b))
				right, rightOk := impl.AddMaps(impl.BestMap(b), impl.BestMap(c))
				first, firstOk := impl.AddMaps(left, impl.BestMap(c))
				second, secondOk := impl.AddMaps(impl.BestMap(a), right)
				if !leftOk || !rightOk || !firstOk || !secondOk || first != second {
					t.Fatalf("the sums of %d, %d and %d are %v and %v", a, b, c, first, second)
				}
			}
		}
	}
}

func TestAddMapsAtTheLimits(t *testing.T) {
	checkMapSum(t, mapOf(59, 19, 28), mapOf(1, 2, 2), mapOf(60, 21, 30), true)
	checkMapSumFails(t, mapOf(60, 19, 28), mapOf(1, 2, 2))
	checkMapSum(t, mapOf(30, 0, 0), mapOf(30, 0, 0), mapOf(60, 0, 0), true)
	checkMapSumFails(t, mapOf(30, 0, 0), mapOf(31, 0, 0))
	checkMapSumFails(t, mapOf(60, 0, 0), mapOf(60, 0, 0))
	checkMapSum(t, mapOf(12, 199, 28), mapOf(1, 1, 2), mapOf(13, 200, 30), true)
	checkMapSumFails(t, mapOf(12, 199, 28), mapOf(1, 2, 2))
	checkMapSumFails(t, mapOf(12, 200, 28), mapOf(1, 1, 2))
	checkMapSum(t, mapOf(12, 200, 28), mapOf(1, 0, 2), mapOf(13, 200, 30), true)
	checkMapSum(t, mapOf(12, 19, 199), mapOf(1, 2, 1), mapOf(13, 21, 200), true)
	checkMapSumFails(t, mapOf(12, 19, 199), mapOf(1, 2, 2))
	checkMapSumFails(t, mapOf(12, 19, 200), mapOf(1, 2, 1))
	checkMapSum(t, mapOf(12, 19, 200), mapOf(1, 2, 0), mapOf(13, 21, 200), true)
	checkMapSum(t, mapOf(30, 100, 100), mapOf(30, 100, 100), mapOf(60, 200, 200), true)
	checkMapSumFails(t, mapOf(30, 100, 100), mapOf(30, 101, 100))
	checkMapSumFails(t, mapOf(30, 100, 101), mapOf(30, 100, 100))
	checkMapSumFails(t, mapOf(31, 100, 100), mapOf(30, 100, 100))
	checkMapSumFails(t, mapOf(60, 200, 200), mapOf(60, 200, 200))
}

func TestAddMapsInvalid(t *testing.T) {
	for _, m := range invalidMaps() {
		for _, other := range append(invalidMaps(), mapOf(12, 19, 28), mapOf(1, 0, 0), mapOf(60, 200, 200)) {
			checkMapSumFails(t, m, other)
		}
	}
}

// These sums are within the ranges, or would be with numbers of 64 bits that begin again at the least one, but a part is not.
func TestAddMapsWithInvalidPartsOfValidSums(t *testing.T) {
	checkMapSumFails(t, mapOf(0, 0, 0), mapOf(12, 19, 28))
	checkMapSumFails(t, mapOf(-1, 0, 0), mapOf(13, 19, 28))
	checkMapSumFails(t, mapOf(61, 0, 0), mapOf(-49, 19, 28))
	checkMapSumFails(t, mapOf(1, -1, 0), mapOf(12, 19, 28))
	checkMapSumFails(t, mapOf(1, 0, -1), mapOf(12, 19, 28))
	checkMapSumFails(t, mapOf(1, 201, 0), mapOf(12, -101, 28))
	checkMapSumFails(t, mapOf(1, 0, 201), mapOf(12, 19, -101))
	checkMapSumFails(t, mapOf(math.MinInt, 19, 28), mapOf(math.MinInt+12, 0, 0))
	checkMapSumFails(t, mapOf(math.MaxInt, 19, 28), mapOf(math.MinInt+13, 0, 0))
	checkMapSumFails(t, mapOf(1, math.MinInt, 28), mapOf(1, math.MinInt+19, 0))
	checkMapSumFails(t, mapOf(1, 19, math.MaxInt), mapOf(1, 0, math.MinInt+29))
}

func TestStepSize(t *testing.T) {
	for n := 1; n <= 12; n++ {
		checkStepSize(t, impl.BestMap(n), tone(1, 0, 0, n))
		checkStepSize(t, mapOf(n, 0, 0), tone(1, 0, 0, n))
		checkStepSize(t, mapOf(n, 200, 200), tone(1, 0, 0, n))
	}
	for n := 13; n <= 60; n++ {
		checkStepSize(t, impl.BestMap(n), impl.Interval{})
		checkStepSize(t, mapOf(n, 0, 0), impl.Interval{})
		checkStepSize(t, mapOf(n, 200, 200), impl.Interval{})
	}
	if impl.MaxRoot != 12 {
		t.Error("the limit of roots is", impl.MaxRoot)
	}
}

func TestAllStepsAreAnOctave(t *testing.T) {
	for n := 1; n <= 12; n++ {
		step := impl.StepSize(impl.BestMap(n))
		if !impl.IntervalOk(step) || impl.SimplestOf(step) != step {
			t.Errorf("the step %v of %d is not valid or not in its simplest form", step, n)
		}
		checkMultiple(t, step, n, tone(1, 0, 0, 1), true)
		checkSign(t, step, 1)
		if n > 1 {
			checkOrder(t, step, impl.StepSize(impl.BestMap(n-1)), -1)
		}
	}
}

func TestStepSizeInvalid(t *testing.T) {
	for _, m := range invalidMaps() {
		checkStepSize(t, m, impl.Interval{})
	}
	for n := 1; n <= 12; n++ {
		checkStepSize(t, mapOf(n, -1, 0), impl.Interval{})
		checkStepSize(t, mapOf(n, 0, -1), impl.Interval{})
		checkStepSize(t, mapOf(n, 201, 0), impl.Interval{})
		checkStepSize(t, mapOf(n, 0, 201), impl.Interval{})
		checkStepSize(t, mapOf(-n, 19, 28), impl.Interval{})
	}
}

func TestWhichBestMapsAreConsistent(t *testing.T) {
	inconsistent := []int{1, 2, 11, 13, 14, 17, 20, 21, 32, 33, 40, 51, 52, 54}
	for n := 1; n <= 60; n++ {
		m := impl.BestMap(n)
		checkConsistent(t, m, !slices.Contains(inconsistent, n))
		checkConsistent(t, m, m.Five-m.Three == nearestOf(t, n, 5, 3))
	}
}

// Whether a map is the best one does not matter, only its difference does.
func TestConsistentLikeASearch(t *testing.T) {
	for n := 1; n <= 60; n++ {
		nearest := nearestOf(t, n, 5, 3)
		for difference := -2; difference <= 2; difference++ {
			five := nearest + difference
			for _, three := range []int{0, 1, n, 100, 199 - nearest, 200 - nearest, 200} {
				m := mapOf(n, three, three+five)
				checkConsistent(t, m, difference == 0 && isDivision(m))
			}
		}
		// The difference in the other direction, and none.
		checkConsistent(t, mapOf(n, nearest, 0), false)
		checkConsistent(t, mapOf(n, 100+nearest, 100), false)
		checkConsistent(t, mapOf(n, 100, 100), false)
		checkConsistent(t, mapOf(n, 200, 0), false)
		checkConsistent(t, mapOf(n, 0, 200), false)
	}
}

func TestConsistentOtherMaps(t *testing.T) {
	checkConsistent(t, mapOf(12, 19, 28), true)
	checkConsistent(t, mapOf(12, 19, 29), false)
	checkConsistent(t, mapOf(12, 19, 27), false)
	checkConsistent(t, mapOf(12, 20, 28), false)
	checkConsistent(t, mapOf(12, 18, 27), true)
	checkConsistent(t, mapOf(12, 28, 19), false)
	checkConsistent(t, mapOf(12, 0, 9), true)
	checkConsistent(t, mapOf(12, 191, 200), true)
	checkConsistent(t, mapOf(12, 0, 0), false)
	checkConsistent(t, mapOf(1, 2, 2), false)
	checkConsistent(t, mapOf(1, 2, 3), true)
	checkConsistent(t, mapOf(1, 3, 2), false)
	checkConsistent(t, mapOf(60, 95, 139), true)
	checkConsistent(t, mapOf(60, 156, 200), true)
	// The sixth lies nearly halfway between two numbers of steps.
	checkConsistent(t, mapOf(59, 94, 137), true)
	checkConsistent(t, mapOf(59, 94, 138), false)
	checkConsistent(t, mapOf(17, 27, 39), false)
	checkConsistent(t, mapOf(17, 27, 40), true)
	checkConsistent(t, mapOf(2, 3, 4), true)
	checkConsistent(t, mapOf(2, 3, 5), false)
}

func TestConsistentInvalid(t *testing.T) {
	for _, m := range invalidMaps() {
		checkConsistent(t, m, false)
	}
	// The differences are the nearest ones.
	checkConsistent(t, mapOf(12, -1, 8), false)
	checkConsistent(t, mapOf(12, -9, 0), false)
	checkConsistent(t, mapOf(12, 192, 201), false)
	checkConsistent(t, mapOf(12, math.MaxInt-9, math.MaxInt), false)
	checkConsistent(t, mapOf(12, math.MinInt, math.MinInt+9), false)
	checkConsistent(t, mapOf(12, math.MaxInt, math.MinInt+8), false)
	checkConsistent(t, mapOf(61, 97, 142), false)
	checkConsistent(t, mapOf(0, 5, 5), false)
	checkConsistent(t, mapOf(-1, 6, 5), false)
}

// No call changes what is found afterwards, neither one that is rejected nor one that is not.
func TestMapsKeepNothing(t *testing.T) {
	for range 3 {
		m, other, fifth := mapOf(12, 19, 28), mapOf(19, 30, 44), tone(-1, 1, 0, 1)
		checkBestMap(t, 12, m)
		checkBestMap(t, 61, impl.Map{})
		checkMapSum(t, m, other, mapOf(31, 49, 72), true)
		checkMapSumFails(t, m, mapOf(60, 95, 139))
		checkStepsIn(t, m, fifth, 7)
		checkStepsInFails(t, m, tone(-1, 1, 0, 2))
		checkStepsIn(t, other, fifth, 11)
		checkStepSize(t, m, tone(1, 0, 0, 12))
		checkStepSize(t, other, impl.Interval{})
		checkConsistent(t, m, true)
		checkConsistent(t, mapOf(13, 21, 30), false)
		if m != mapOf(12, 19, 28) || other != mapOf(19, 30, 44) || fifth != tone(-1, 1, 0, 1) {
			t.Error("an argument was modified")
		}
	}
}
