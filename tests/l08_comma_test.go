package tests

import (
	"cmp"
	"math"
	"slices"
	"testing"

	"loop.example/g00989/impl"
)

// sixCommas are in the order of their numbers, which begin with 1.
func sixCommas() []impl.Interval {
	return []impl.Interval{
		tone(-19, 12, 0, 1), tone(-4, 4, -1, 1), tone(7, 0, -3, 1), tone(-15, 8, 1, 1), tone(11, -4, -2, 1), tone(3, 4, -4, 1),
	}
}

// greatestComma is 25/24.
func greatestComma() impl.Interval { return tone(-3, -1, 2, 1) }

func repeated(x impl.Interval, n int) impl.Interval {
	return tone(n*x.Two, n*x.Three, n*x.Five, x.Root)
}

// joined is not limited to valid intervals; both must have the same root.
func joined(a, b impl.Interval) impl.Interval {
	return tone(a.Two+b.Two, a.Three+b.Three, a.Five+b.Five, a.Root)
}

func sumOfBoth(a, b int) impl.Interval {
	return joined(repeated(tone(-19, 12, 0, 1), a), repeated(tone(-4, 4, -1, 1), b))
}

func isBeyondLimit(x impl.Interval) bool {
	return max(x.Two, -x.Two, x.Three, -x.Three, x.Five, -x.Five) > 400
}

// hasDivisor tries every number that can divide a power.
func hasDivisor(x impl.Interval) bool {
	for n := 2; n <= 400; n++ {
		if x.Two%n == 0 && x.Three%n == 0 && x.Five%n == 0 {
			return true
		}
	}
	return false
}

// isComma compares whole numbers of math/big.
func isComma(x impl.Interval) bool {
	return x.Root == 1 && !isBeyondLimit(x) && !hasDivisor(x) &&
		bigOrder(x, tone(0, 0, 0, 1)) > 0 && bigOrder(x, greatestComma()) <= 0
}

// searchedCommas has no rule for the power of 2: it tries all those that are not far beyond the others.
func searchedCommas(limit int) []impl.Interval {
	var list []impl.Interval
	for three := -limit; three <= limit; three++ {
		for five := -limit; five <= limit; five++ {
			for two := -40; two <= 40; two++ {
				if x := tone(two, three, five, 1); isComma(x) {
					list = append(list, x)
				}
			}
		}
	}
	return list
}

// commaWith searches for a comma in which the power of 2 (place 0), 3 or 5 is the given one and the others are within the limit.
func commaWith(t *testing.T, place, power int) impl.Interval {
	t.Helper()
	for a := -400; a <= 400; a++ {
		for b := -400; b <= 400; b++ {
			powers := slices.Insert([]int{a, b}, place, power)
			size := float64(powers[0]) + float64(powers[1])*math.Log2(3) + float64(powers[2])*math.Log2(5)
			x := tone(powers[0], powers[1], powers[2], 1)
			if size > 0.001 && size < 0.058 && !hasDivisor(x) {
				return x
			}
		}
	}
	t.Fatalf("no comma has the power %d at the place %d", power, place)
	return impl.Interval{}
}

func checkNamedComma(t *testing.T, k int, want impl.Interval, name string) {
	t.Helper()
	if got := impl.CommaOf(k); got != want {
		t.Errorf("CommaOf(%d) = %v; want %v", k, got, want)
	}
	if got := impl.CommaName(k); got != name {
		t.Errorf("CommaName(%d) = %q; want %q", k, got, name)
	}
}

func checkIsComma(t *testing.T, x impl.Interval, want bool) {
	t.Helper()
	if got := impl.IsComma(x); got != want {
		t.Errorf("IsComma(%v) = %v", x, got)
	}
}

func checkCommasWithin(t *testing.T, limit int, want ...impl.Interval) {
	t.Helper()
	if got := impl.CommasWithin(limit); !slices.Equal(got, want) {
		t.Errorf("CommasWithin(%d) = %v; want %v", limit, got, want)
	}
}

func checkSplit(t *testing.T, x impl.Interval, wantA, wantB int, wantOk bool) {
	t.Helper()
	if a, b, ok := impl.SplitComma(x); a != wantA || b != wantB || ok != wantOk {
		t.Errorf("SplitComma(%v) = %d, %d, %v; want %d, %d, %v", x, a, b, ok, wantA, wantB, wantOk)
	}
}

func checkNoSplit(t *testing.T, x impl.Interval) {
	t.Helper()
	checkSplit(t, x, 0, 0, false)
}

func TestSixCommas(t *testing.T) {
	checkNamedComma(t, 1, tone(-19, 12, 0, 1), "pythagorean")
	checkNamedComma(t, 2, tone(-4, 4, -1, 1), "syntonic")
	checkNamedComma(t, 3, tone(7, 0, -3, 1), "diesis")
	checkNamedComma(t, 4, tone(-15, 8, 1, 1), "schisma")
	checkNamedComma(t, 5, tone(11, -4, -2, 1), "diaschisma")
	checkNamedComma(t, 6, tone(3, 4, -4, 1), "greatdiesis")
}

func TestOtherNumbersAreNoCommas(t *testing.T) {
	for _, k := range append(extremeInts(), 0, -1, 7, 8, -2, -6, 12, 13, 256, 257, 1<<32+1) {
		checkNamedComma(t, k, impl.Interval{}, "")
	}
}

// The commas are found again from fifths, thirds and octaves, as the document explains them.
func TestCommasOfFifthsAndThirds(t *testing.T) {
	fifth, third, octave := tone(-1, 1, 0, 1), tone(-2, 0, 1, 1), tone(1, 0, 0, 1)
	smallThird := tone(1, 1, -1, 1)
	checkSum(t, repeated(fifth, 12), repeated(octave, -7), impl.CommaOf(1), true)
	checkSum(t, repeated(fifth, 4), joined(repeated(third, -1), repeated(octave, -2)), impl.CommaOf(2), true)
	checkSum(t, octave, repeated(third, -3), impl.CommaOf(3), true)
	checkSum(t, repeated(fifth, 8), joined(third, repeated(octave, -5)), impl.CommaOf(4), true)
	checkSum(t, repeated(octave, 3), joined(repeated(fifth, -4), repeated(third, -2)), impl.CommaOf(5), true)
	checkSum(t, repeated(smallThird, 4), repeated(octave, -1), impl.CommaOf(6), true)
}

func TestCommasAreSumsOfOthers(t *testing.T) {
	pythagorean, syntonic, diesis := impl.CommaOf(1), impl.CommaOf(2), impl.CommaOf(3)
	schisma, diaschisma, greatDiesis := impl.CommaOf(4), impl.CommaOf(5), impl.CommaOf(6)
	checkSum(t, pythagorean, negated(syntonic), schisma, true)
	checkSum(t, syntonic, schisma, pythagorean, true)
	checkSum(t, schisma, diaschisma, syntonic, true)
	checkSum(t, syntonic, diaschisma, diesis, true)
	checkSum(t, syntonic, diesis, greatDiesis, true)
	ascending := []impl.Interval{schisma, diaschisma, syntonic, pythagorean, diesis, greatDiesis, greatestComma()}
	for i := 1; i < len(ascending); i++ {
		checkOrder(t, ascending[i-1], ascending[i], -1)
	}
}

// Every comma is built again from the two numbers into which it is split.
func TestCommasAreSumsOfTheirParts(t *testing.T) {
	for _, x := range slices.Concat(sixCommas(), impl.CommasWithin(8)) {
		a, b, ok := impl.SplitComma(x)
		if !ok {
			continue
		}
		first, firstOk := impl.TimesInterval(impl.CommaOf(1), a)
		second, secondOk := impl.TimesInterval(impl.CommaOf(2), b)
		if !firstOk || !secondOk {
			t.Errorf("%d and %d are not numbers of commas", a, b)
		}
		checkSum(t, first, second, x, true)
	}
}

func TestIsComma(t *testing.T) {
	for _, x := range sixCommas() {
		checkIsComma(t, x, true)
	}
	for k := 1; k <= 6; k++ {
		checkIsComma(t, impl.CommaOf(k), true)
	}
	for _, x := range smallCommas() {
		checkIsComma(t, x, true)
	}
	checkIsComma(t, tone(1, -5, 3, 1), true)
	checkIsComma(t, tone(-14, 3, 4, 1), true)
	checkIsComma(t, tone(-10, -1, 5, 1), true)
	// Half tones and greater ones.
	for _, x := range []impl.Interval{tone(-7, 3, 1, 1), tone(8, -5, 0, 1), tone(4, -1, -1, 1), tone(0, 3, -2, 1), tone(-11, 7, 0, 1), tone(-3, 2, 0, 1), tone(-1, 1, 0, 1), tone(1, 0, 0, 1)} {
		checkIsComma(t, x, false)
		checkIsComma(t, negated(x), false)
	}
}

func TestIsCommaNextToTheGreatest(t *testing.T) {
	checkIsComma(t, greatestComma(), true)
	checkIsComma(t, negated(greatestComma()), false)
	below := 0
	for _, comma := range smallCommas() {
		checkIsComma(t, joined(greatestComma(), comma), false)
		less := joined(greatestComma(), negated(comma))
		checkIsComma(t, less, isComma(less))
		if isComma(less) {
			below++
		}
	}
	checkIsComma(t, tone(-143, 373, -193, 1), true)
	checkIsComma(t, tone(137, -375, 197, 1), false)
	checkIsComma(t, tone(-164, 83, 14, 1), true)
	checkIsComma(t, tone(158, -85, -10, 1), false)
	if below < 6 {
		t.Errorf("only %d of the intervals below the greatest comma are commas", below)
	}
}

func TestIsCommaNextToThePrime(t *testing.T) {
	for root := 1; root <= 12; root++ {
		checkIsComma(t, tone(0, 0, 0, root), false)
	}
	for _, n := range []int{-400, -2, -1, 0, 1, 2, 3, 400} {
		prime, ok := impl.TimesInterval(tone(0, 0, 0, 1), n)
		if !ok {
			t.Fatalf("the prime has no multiple %d", n)
		}
		checkIsComma(t, prime, false)
		checkSplit(t, prime, 0, 0, true)
	}
	for _, comma := range smallCommas() {
		checkIsComma(t, comma, true)
		checkIsComma(t, negated(comma), false)
		// An octave more or less.
		checkIsComma(t, shifted(comma, 1), false)
		checkIsComma(t, shifted(comma, -1), false)
	}
}

func TestMultiplesOfCommasAreNoCommas(t *testing.T) {
	for _, comma := range append(sixCommas(), greatestComma()) {
		for n := -400; n <= 400; n++ {
			multiple, ok := impl.TimesInterval(comma, n)
			if ok {
				checkIsComma(t, multiple, n == 1)
			}
		}
	}
	// These are not greater than the greatest comma, so that only their powers tell.
	schisma := tone(-15, 8, 1, 1)
	for n := 2; n <= 26; n++ {
		multiple := repeated(schisma, n)
		if bigOrder(multiple, greatestComma()) > 0 {
			t.Fatalf("%d schismas are too great", n)
		}
		checkIsComma(t, multiple, false)
	}
	checkIsComma(t, tone(-38, 24, 0, 1), false)
	checkIsComma(t, tone(-8, 8, -2, 1), false)
	checkIsComma(t, tone(-12, 12, -3, 1), false)
	checkIsComma(t, tone(22, -8, -4, 1), false)
	checkIsComma(t, tone(33, -12, -6, 1), false)
	checkIsComma(t, tone(322, -168, -24, 1), false)
	checkIsComma(t, tone(-336, 212, 0, 1), false)
}

// A number that divides two of the powers does not count.
func TestCommasWithDivisorsOfTwoPowers(t *testing.T) {
	found := [3]int{}
	for three := -60; three <= 60; three++ {
		for five := -60; five <= 60; five++ {
			x := withPowers(three, five)
			if bigOrder(x, greatestComma()) > 0 || x == tone(0, 0, 0, 1) {
				continue
			}
			checkIsComma(t, x, !hasDivisor(x))
			if hasDivisor(x) {
				continue
			}
			for i, without := range []impl.Interval{tone(0, x.Three, x.Five, 1), tone(x.Two, 0, x.Five, 1), tone(x.Two, x.Three, 0, 1)} {
				if hasDivisor(without) {
					found[i]++
				}
			}
		}
	}
	if min(found[0], found[1], found[2]) < 50 {
		t.Errorf("too few commas have divisors of two powers: %v", found)
	}
}

func TestIsCommaWithRoots(t *testing.T) {
	for _, comma := range append(sixCommas(), greatestComma()) {
		for root := -13; root <= 14; root++ {
			checkIsComma(t, tone(comma.Two, comma.Three, comma.Five, root), root == 1)
			// Of the same size as the comma.
			checkIsComma(t, tone(root*comma.Two, root*comma.Three, root*comma.Five, root), root == 1)
		}
		for _, root := range extremeInts() {
			checkIsComma(t, tone(comma.Two, comma.Three, comma.Five, root), false)
		}
	}
	checkIsComma(t, tone(-3, -1, 2, 2), false)
	checkIsComma(t, tone(1, 0, 0, 12), false)
}

func TestIsCommaLikeWholeNumbers(t *testing.T) {
	commas := 0
	for three := -13; three <= 13; three++ {
		for five := -13; five <= 13; five++ {
			within := withPowers(three, five)
			for octaves := -2; octaves <= 2; octaves++ {
				x := shifted(within, octaves)
				checkIsComma(t, x, isComma(x))
				if isComma(x) {
					commas++
				}
			}
		}
	}
	if commas < 20 {
		t.Errorf("only %d commas", commas)
	}
	for _, x := range slices.Concat(plainIntervals(), someIntervals(), longIntervals(), endIntervals(1, 2, 12)) {
		checkIsComma(t, x, isComma(x))
	}
}

func TestIsCommaInvalid(t *testing.T) {
	for _, x := range invalidIntervals() {
		checkIsComma(t, x, false)
	}
	for _, n := range extremeInts() {
		checkIsComma(t, tone(n, n, n, 1), false)
		checkIsComma(t, tone(n, 12, 0, 1), false)
		checkIsComma(t, tone(-19, n, 0, 1), false)
		checkIsComma(t, tone(-19, 12, n, 1), false)
	}
}

// The intervals beyond the limits would be commas by their sizes.
func TestIsCommaAtTheLimits(t *testing.T) {
	for place := range 3 {
		for _, power := range []int{-400, -399, 399, 400} {
			checkIsComma(t, commaWith(t, place, power), true)
		}
		for _, power := range []int{-403, -402, -401, 401, 402, 403} {
			checkIsComma(t, commaWith(t, place, power), false)
		}
	}
	checkIsComma(t, tone(401, -253, 0, 1), false)
}

func TestCommasWithin(t *testing.T) {
	greatest, diesis, syntonic := greatestComma(), tone(7, 0, -3, 1), tone(-4, 4, -1, 1)
	checkCommasWithin(t, 0)
	checkCommasWithin(t, 1)
	checkCommasWithin(t, 2, greatest)
	checkCommasWithin(t, 3, greatest, diesis)
	checkCommasWithin(t, 4, tone(11, -4, -2, 1), greatest, diesis, tone(-14, 3, 4, 1), tone(3, 4, -4, 1), syntonic)
	checkCommasWithin(t, 8,
		tone(1, -5, 3, 1), tone(-6, -5, 6, 1), tone(18, -4, -5, 1), tone(11, -4, -2, 1), greatest, tone(-10, -1, 5, 1), diesis,
		tone(17, 1, -8, 1), tone(-14, 3, 4, 1), tone(-21, 3, 7, 1), tone(3, 4, -4, 1), syntonic, tone(-25, 7, 6, 1), tone(-15, 8, 1, 1))
}

func TestCommasWithinLikeASearch(t *testing.T) {
	for limit := 0; limit <= 8; limit++ {
		checkCommasWithin(t, limit, searchedCommas(limit)...)
	}
}

func TestOrderOfCommasWithin(t *testing.T) {
	widest := impl.CommasWithin(8)
	for limit := 0; limit <= 8; limit++ {
		list := impl.CommasWithin(limit)
		for i, x := range list {
			checkIsComma(t, x, true)
			if i == 0 {
				continue
			}
			before := list[i-1]
			if cmp.Or(cmp.Compare(before.Three, x.Three), cmp.Compare(before.Five, x.Five)) >= 0 {
				t.Errorf("CommasWithin(%d) has %v before %v", limit, before, x)
			}
		}
		// A narrower limit leaves out just what is beyond it.
		want := slices.DeleteFunc(slices.Clone(widest), func(x impl.Interval) bool {
			return max(x.Three, -x.Three, x.Five, -x.Five) > limit
		})
		checkCommasWithin(t, limit, want...)
	}
}

func TestCommasWithinInvalid(t *testing.T) {
	for _, limit := range append(extremeInts(), -1, -2, -8, -9, 9, 10, 16, 400) {
		checkCommasWithin(t, limit)
	}
}

func TestCommasWithinReturnsNewMemory(t *testing.T) {
	for limit := 0; limit <= 8; limit++ {
		want := searchedCommas(limit)
		first, second := impl.CommasWithin(limit), impl.CommasWithin(limit)
		spare := first[:cap(first)]
		for i := range spare {
			spare[i] = tone(77, 77, 77, 7)
		}
		if !slices.Equal(second, want) {
			t.Errorf("two results of CommasWithin(%d) share memory: %v", limit, second)
		}
		checkCommasWithin(t, limit, want...)
	}
	checkNamedComma(t, 4, tone(-15, 8, 1, 1), "schisma")
}

func TestSplitComma(t *testing.T) {
	checkSplit(t, tone(0, 0, 0, 1), 0, 0, true)
	checkSplit(t, impl.CommaOf(1), 1, 0, true)
	checkSplit(t, impl.CommaOf(2), 0, 1, true)
	checkSplit(t, impl.CommaOf(3), -1, 3, true)
	checkSplit(t, impl.CommaOf(4), 1, -1, true)
	checkSplit(t, impl.CommaOf(5), -1, 2, true)
	checkSplit(t, impl.CommaOf(6), -1, 4, true)
	checkSplit(t, tone(19, -12, 0, 1), -1, 0, true)
	checkSplit(t, tone(4, -4, 1, 1), 0, -1, true)
	checkSplit(t, tone(15, -8, -1, 1), -1, 1, true)
	checkSplit(t, tone(-65, 44, -2, 1), 3, 2, true)
	checkSplit(t, tone(-19*21, 12*21, 0, 1), 21, 0, true)
	checkNoSplit(t, tone(1, 0, 0, 1))
	checkNoSplit(t, tone(-1, 1, 0, 1))
	checkNoSplit(t, tone(-2, 0, 1, 1))
	checkNoSplit(t, greatestComma())
	checkNoSplit(t, tone(-84, 53, 0, 1))
}

// The multiples of one of the commas, or of both, are beyond the limit of powers, but their sum is not.
func TestSplitSumOfMultiplesThatAreNotValid(t *testing.T) {
	checkSplit(t, tone(-275, 100, 50, 1), 25, -50, true)
	checkSplit(t, tone(275, -100, -50, 1), -25, 50, true)
	checkSplit(t, tone(-397, 180, 48, 1), 31, -48, true)
	checkSplit(t, tone(389, -172, -50, 1), -31, 50, true)
	if _, ok := impl.TimesInterval(impl.CommaOf(1), 25); ok {
		t.Error("25 of the first comma are valid")
	}
}

func TestSplitAtTheEndsOfTheRange(t *testing.T) {
	checkSplit(t, tone(-200, 200, -50, 1), 0, 50, true)
	checkSplit(t, tone(200, -200, 50, 1), 0, -50, true)
	checkSplit(t, tone(-196, 196, -49, 1), 0, 49, true)
	checkSplit(t, tone(196, -196, 49, 1), 0, -49, true)
	checkNoSplit(t, tone(-204, 204, -51, 1))
	checkNoSplit(t, tone(204, -204, 51, 1))
	checkNoSplit(t, tone(-400, 400, -100, 1))
	checkNoSplit(t, tone(400, -400, 100, 1))
	checkNoSplit(t, sumOfBoth(1, 51))
	checkNoSplit(t, sumOfBoth(-1, -51))
	checkNoSplit(t, sumOfBoth(30, -60))
}

func TestSplitEverySum(t *testing.T) {
	valid, beyond := 0, 0
	for a := -60; a <= 60; a++ {
		for b := -60; b <= 60; b++ {
			x := sumOfBoth(a, b)
			inRange := max(a, -a, b, -b) <= 50
			if isBeyondLimit(x) || !inRange {
				checkNoSplit(t, x)
				beyond++
				continue
			}
			checkSplit(t, x, a, b, true)
			valid++
		}
	}
	if valid < 3000 || beyond < 3000 {
		t.Errorf("%d sums are valid, %d are not", valid, beyond)
	}
}

// No sum of the two commas has just one other power.
func TestSplitWithOneOtherPower(t *testing.T) {
	for _, parts := range [][2]int{{0, 0}, {1, 0}, {0, 1}, {1, -1}, {-1, 2}, {-1, 3}, {-1, 4}, {2, -5}, {12, 7}, {0, 50}, {-20, 50}, {25, -50}} {
		x := sumOfBoth(parts[0], parts[1])
		checkSplit(t, x, parts[0], parts[1], true)
		for _, n := range []int{1, 2, 3, 4, 7, 8, 11, 12, 19, 23, 24, 28, 38} {
			for _, other := range []impl.Interval{tone(n, 0, 0, 1), tone(0, n, 0, 1), tone(0, 0, n, 1)} {
				checkNoSplit(t, joined(x, other))
				checkNoSplit(t, joined(x, negated(other)))
			}
		}
	}
}

// Every interval is looked for among all the sums.
func TestSplitLikeASearch(t *testing.T) {
	sums := map[impl.Interval][2]int{}
	for a := -50; a <= 50; a++ {
		for b := -50; b <= 50; b++ {
			sums[sumOfBoth(a, b)] = [2]int{a, b}
		}
	}
	split := 0
	for two := -45; two <= 45; two++ {
		for three := -30; three <= 30; three++ {
			for five := -9; five <= 9; five++ {
				x := tone(two, three, five, 1)
				parts, ok := sums[x]
				checkSplit(t, x, parts[0], parts[1], ok)
				// The sums are just what twelve equal steps in an octave hide.
				if ok != (12*two+19*three+28*five == 0) {
					t.Errorf("the search for %v found %v", x, ok)
				}
				if ok {
					split++
				}
			}
		}
	}
	if split < 50 {
		t.Errorf("only %d intervals are sums", split)
	}
	for _, x := range slices.Concat(someIntervals(), longIntervals(), smallCommas(), endIntervals(1, 2), impl.CommasWithin(8)) {
		parts, ok := sums[x]
		checkSplit(t, x, parts[0], parts[1], ok)
	}
}

func TestSplitWithRoots(t *testing.T) {
	for _, x := range append(sixCommas(), tone(0, 0, 0, 1)) {
		for root := -13; root <= 14; root++ {
			if root == 1 {
				continue
			}
			checkNoSplit(t, tone(x.Two, x.Three, x.Five, root))
			checkNoSplit(t, tone(root*x.Two, root*x.Three, root*x.Five, root))
		}
		for _, root := range extremeInts() {
			checkNoSplit(t, tone(x.Two, x.Three, x.Five, root))
		}
	}
}

func TestSplitInvalid(t *testing.T) {
	for _, x := range invalidIntervals() {
		checkNoSplit(t, x)
	}
	for _, n := range extremeInts() {
		checkNoSplit(t, tone(n, n, n, 1))
		checkNoSplit(t, tone(n, 12, 0, 1))
		checkNoSplit(t, tone(-19, n, 0, 1))
		checkNoSplit(t, tone(-19, 12, n, 1))
	}
	// Sums that have a power just beyond the limit, and one at it.
	checkNoSplit(t, tone(401, -268, 10, 1))
	checkNoSplit(t, tone(-401, 268, -10, 1))
	checkNoSplit(t, tone(-402, 276, -15, 1))
	checkNoSplit(t, tone(402, -276, 15, 1))
	if sumOfBoth(-19, -10) != tone(401, -268, 10, 1) || sumOfBoth(18, 15) != tone(-402, 276, -15, 1) {
		t.Error("the sums beyond the limit are other ones")
	}
	checkSplit(t, sumOfBoth(-20, -5), -20, -5, true)
	if x := sumOfBoth(-20, -5); x.Two != 400 {
		t.Error("the sum at the limit is", x)
	}
}
