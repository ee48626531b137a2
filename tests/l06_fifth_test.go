package tests

import (
	"math"
	"math/big"
	"slices"
	"testing"

	"loop.example/g00989/impl"
)

// fifthsOf counts the octaves in a power of 3 by the bits of that number.
func fifthsOf(n int) impl.Interval {
	bits := new(big.Int).Exp(big.NewInt(3), big.NewInt(int64(max(n, -n))), nil).BitLen()
	if n < 0 {
		return tone(bits, n, 0, 1)
	}
	return tone(1-bits, n, 0, 1)
}

// chainOf has no limits of its own.
func chainOf(low, high int) []impl.Interval {
	var list []impl.Interval
	for n := low; n <= high; n++ {
		list = append(list, fifthsOf(n))
	}
	slices.SortFunc(list, bigOrder)
	return list
}

func differenceLikeFractions(from, to impl.Interval) (impl.Interval, bool) {
	return exponentsOf(to).plus(exponentsOf(negated(from))).simplest()
}

// stepsOf does not check the order of the list.
func stepsOf(list []impl.Interval) []impl.Interval {
	var steps []impl.Interval
	for i, x := range list {
		next := tone(1, 0, 0, 1)
		if i < len(list)-1 {
			next = list[i+1]
		}
		step, ok := differenceLikeFractions(x, next)
		if !ok {
			return nil
		}
		steps = append(steps, step)
	}
	return steps
}

func sizesOf(list []impl.Interval) int {
	var sizes []impl.Interval
	for _, x := range list {
		if !slices.ContainsFunc(sizes, func(size impl.Interval) bool { return bigOrder(size, x) == 0 }) {
			sizes = append(sizes, x)
		}
	}
	return len(sizes)
}

// withPowers has the powers of 3 and 5, and that of 2 with which it is within an octave.
func withPowers(three, five int) impl.Interval {
	x := tone(0, three, five, 1)
	return shifted(x, -octavesOf(x))
}

// fromPrime puts the prime before the others.
func fromPrime(others ...impl.Interval) []impl.Interval {
	return append([]impl.Interval{tone(0, 0, 0, 1)}, others...)
}

func extremeInts() []int {
	return []int{math.MinInt, math.MinInt + 1, -1 << 32, 1 << 32, math.MaxInt - 1, math.MaxInt}
}

func checkFifths(t *testing.T, n int, want impl.Interval, wantOk bool) {
	t.Helper()
	if got, ok := impl.Fifths(n); got != want || ok != wantOk {
		t.Errorf("Fifths(%d) = %v, %v; want %v, %v", n, got, ok, want, wantOk)
	}
}

func checkChain(t *testing.T, low, high int, want ...impl.Interval) {
	t.Helper()
	if got := impl.ChainOf(low, high); !slices.Equal(got, want) {
		t.Errorf("ChainOf(%d, %d) = %v; want %v", low, high, got, want)
	}
}

func checkSteps(t *testing.T, list []impl.Interval, want ...impl.Interval) {
	t.Helper()
	if got := impl.StepsOf(list); !slices.Equal(got, want) {
		t.Errorf("StepsOf(%v) = %v; want %v", list, got, want)
	}
}

func checkNoSteps(t *testing.T, list ...impl.Interval) {
	t.Helper()
	checkSteps(t, list)
}

func checkSizes(t *testing.T, want int, list ...impl.Interval) {
	t.Helper()
	if got := impl.CountSizes(list); got != want {
		t.Errorf("CountSizes(%v) = %d; want %d", list, got, want)
	}
}

// The steps are added as fractions, because a sum of some of them can be beyond the limits.
func checkStepsAreAnOctave(t *testing.T, list, steps []impl.Interval) {
	t.Helper()
	sum := exponentsOf(tone(0, 0, 0, 1))
	for _, step := range steps {
		sum = sum.plus(exponentsOf(step))
	}
	if whole, ok := sum.simplest(); whole != tone(1, 0, 0, 1) || !ok {
		t.Errorf("the steps %v of %v are together %v", steps, list, whole)
	}
}

func TestFifths(t *testing.T) {
	checkFifths(t, 0, tone(0, 0, 0, 1), true)
	checkFifths(t, 1, tone(-1, 1, 0, 1), true)
	checkFifths(t, 2, tone(-3, 2, 0, 1), true)
	checkFifths(t, 3, tone(-4, 3, 0, 1), true)
	checkFifths(t, 4, tone(-6, 4, 0, 1), true)
	checkFifths(t, 5, tone(-7, 5, 0, 1), true)
	checkFifths(t, 6, tone(-9, 6, 0, 1), true)
	checkFifths(t, 7, tone(-11, 7, 0, 1), true)
	checkFifths(t, 53, tone(-84, 53, 0, 1), true)
}

func TestFifthsDownwards(t *testing.T) {
	checkFifths(t, -1, tone(2, -1, 0, 1), true)
	checkFifths(t, -2, tone(4, -2, 0, 1), true)
	checkFifths(t, -3, tone(5, -3, 0, 1), true)
	checkFifths(t, -4, tone(7, -4, 0, 1), true)
	checkFifths(t, -5, tone(8, -5, 0, 1), true)
	checkFifths(t, -6, tone(10, -6, 0, 1), true)
	checkFifths(t, -7, tone(12, -7, 0, 1), true)
	checkFifths(t, -53, tone(85, -53, 0, 1), true)
}

func TestFifthsAtTheEnds(t *testing.T) {
	checkFifths(t, 100, tone(-158, 100, 0, 1), true)
	checkFifths(t, -100, tone(159, -100, 0, 1), true)
	checkFifths(t, 99, tone(-156, 99, 0, 1), true)
	checkFifths(t, -99, tone(157, -99, 0, 1), true)
	for _, n := range append(extremeInts(), -400, -253, -102, -101, 101, 102, 253, 400) {
		checkFifths(t, n, impl.Interval{}, false)
	}
}

func TestFifthsLikeWholeNumbers(t *testing.T) {
	for n := -100; n <= 100; n++ {
		want := fifthsOf(n)
		if !isWithin(want) {
			t.Fatalf("the reference %v for %d is not within an octave", want, n)
		}
		checkFifths(t, n, want, true)
		fifths, ok := impl.TimesInterval(tone(-1, 1, 0, 1), n)
		if !ok {
			t.Fatalf("%d fifths are not an interval", n)
		}
		checkWithin(t, fifths, want, true)
		checkClass(t, fifths, want, true)
		if n != 0 {
			checkInverse(t, want, fifthsOf(-n), true)
		}
	}
}

func TestFifthsAreAdded(t *testing.T) {
	for a := -50; a <= 50; a += 3 {
		for b := -50; b <= 50; b += 4 {
			one, _ := impl.Fifths(a)
			other, _ := impl.Fifths(b)
			whole, _ := impl.Fifths(a + b)
			sum, ok := impl.AddIntervals(one, other)
			if !ok {
				t.Fatalf("%v and %v have no sum", one, other)
			}
			checkWithin(t, sum, whole, true)
		}
	}
}

func TestTwelveFifthsAreNotSevenOctaves(t *testing.T) {
	prime, octaves := tone(0, 0, 0, 1), tone(7, 0, 0, 1)
	checkFifths(t, 12, tone(-19, 12, 0, 1), true)
	checkFifths(t, -12, tone(20, -12, 0, 1), true)
	twelve, _ := impl.TimesInterval(tone(-1, 1, 0, 1), 12)
	checkOrder(t, twelve, octaves, 1)
	checkOctaves(t, twelve, 7)
	checkSame(t, twelve, octaves, false)
	checkClass(t, twelve, octaves, false)
	// No other number of fifths leads back to the prime either, nor to a note that was there before.
	seen := map[impl.Interval]int{}
	for n := -100; n <= 100; n++ {
		note, _ := impl.Fifths(n)
		if before, ok := seen[note]; ok {
			t.Errorf("%d and %d fifths are both %v", before, n, note)
		}
		seen[note] = n
		checkSame(t, note, prime, n == 0)
	}
}

func TestChainOf(t *testing.T) {
	prime, fifth, fourth, whole := tone(0, 0, 0, 1), tone(-1, 1, 0, 1), tone(2, -1, 0, 1), tone(-3, 2, 0, 1)
	third, sixth, seventh := tone(-6, 4, 0, 1), tone(-4, 3, 0, 1), tone(-7, 5, 0, 1)
	checkChain(t, 0, 1, prime, fifth)
	checkChain(t, 0, 2, prime, whole, fifth)
	checkChain(t, 0, 4, prime, whole, third, fifth, sixth)
	checkChain(t, -1, 5, prime, whole, third, fourth, fifth, sixth, seventh)
	checkChain(t, 0, 6, prime, whole, third, tone(-9, 6, 0, 1), fifth, sixth, seventh)
	checkChain(t, -1, 1, prime, fourth, fifth)
	checkChain(t, -2, 0, prime, fourth, tone(4, -2, 0, 1))
	checkChain(t, -6, 1, prime, tone(8, -5, 0, 1), tone(5, -3, 0, 1), fourth, tone(10, -6, 0, 1), fifth, tone(7, -4, 0, 1), tone(4, -2, 0, 1))
	// Without the prime.
	checkChain(t, 1, 2, whole, fifth)
	checkChain(t, 3, 5, third, sixth, seventh)
	checkChain(t, -3, -1, tone(5, -3, 0, 1), fourth, tone(4, -2, 0, 1))
	checkChain(t, -1, 0, prime, fourth)
	// The thirteenth note is a comma above the first one.
	chain := impl.ChainOf(0, 12)
	if len(chain) != 13 || chain[0] != prime || chain[1] != tone(-19, 12, 0, 1) || chain[12] != seventh {
		t.Error("the chain of thirteen notes is", chain)
	}
}

func TestChainsOfOneNote(t *testing.T) {
	for n := -30; n <= 30; n++ {
		checkChain(t, n, n, fifthsOf(n))
	}
	checkSteps(t, impl.ChainOf(0, 0), tone(1, 0, 0, 1))
	checkSizes(t, 1, impl.ChainOf(0, 0)...)
	for root := 1; root <= 12; root++ {
		checkSteps(t, []impl.Interval{tone(0, 0, 0, root)}, tone(1, 0, 0, 1))
	}
}

func TestChainsLikeWholeNumbers(t *testing.T) {
	all := chainOf(-30, 30)
	for low := -30; low <= 30; low++ {
		for high := low; high <= 30; high++ {
			var want []impl.Interval
			for _, x := range all {
				if x.Three >= low && x.Three <= high {
					want = append(want, x)
				}
			}
			checkChain(t, low, high, want...)
		}
	}
}

func TestTheLongestChain(t *testing.T) {
	chain := impl.ChainOf(-30, 30)
	if len(chain) != 61 || chain[0] != tone(0, 0, 0, 1) {
		t.Fatal("the longest chain is", chain)
	}
	for i, x := range chain {
		checkOctaves(t, x, 0)
		if i > 0 {
			checkOrder(t, chain[i-1], x, -1)
		}
	}
	steps := impl.StepsOf(chain)
	if len(steps) != 61 {
		t.Errorf("the longest chain has %d steps", len(steps))
	}
	checkSizes(t, 61, chain...)
}

func TestChainOfInvalid(t *testing.T) {
	checkChain(t, 1, 0)
	checkChain(t, 0, -1)
	checkChain(t, 30, -30)
	checkChain(t, 30, 29)
	checkChain(t, -29, -30)
	for n := -31; n <= 31; n++ {
		checkChain(t, -31, n)
		checkChain(t, n, 31)
		checkChain(t, n, -31)
		checkChain(t, 31, n)
	}
	for _, n := range append(extremeInts(), -100, -32, 32, 100) {
		for _, other := range append(extremeInts(), -31, -30, 0, 1, 30, 31) {
			checkChain(t, n, other)
			checkChain(t, other, n)
		}
		checkChain(t, n, n)
	}
}

func TestStepsOf(t *testing.T) {
	whole, half, fourth := tone(-3, 2, 0, 1), tone(8, -5, 0, 1), tone(2, -1, 0, 1)
	checkSteps(t, impl.ChainOf(0, 1), tone(-1, 1, 0, 1), fourth)
	checkSteps(t, impl.ChainOf(-1, 0), fourth, tone(-1, 1, 0, 1))
	checkSteps(t, impl.ChainOf(-1, 1), fourth, whole, fourth)
	checkSteps(t, impl.ChainOf(0, 4), whole, whole, tone(5, -3, 0, 1), whole, tone(5, -3, 0, 1))
	checkSteps(t, impl.ChainOf(-1, 5), whole, whole, half, whole, whole, whole, half)
	checkSteps(t, impl.ChainOf(0, 6), whole, whole, whole, half, whole, whole, half)
	// Lists that are no chains.
	checkSteps(t, fromPrime(tone(-2, 0, 1, 1), tone(-1, 1, 0, 1)), tone(-2, 0, 1, 1), tone(1, 1, -1, 1), fourth)
	checkSteps(t, fromPrime(tone(-3, 2, 0, 1), tone(-2, 0, 1, 1)), whole, tone(1, -2, 1, 1), tone(3, 0, -1, 1))
}

func TestStepsWithRoots(t *testing.T) {
	var equal, forms []impl.Interval
	for i := range 12 {
		equal = append(equal, impl.SimplestOf(tone(i, 0, 0, 12)))
		forms = append(forms, tone(i, 0, 0, 12))
	}
	checkSteps(t, equal, slices.Repeat([]impl.Interval{tone(1, 0, 0, 12)}, 12)...)
	checkSteps(t, forms, slices.Repeat([]impl.Interval{tone(1, 0, 0, 12)}, 12)...)
	checkSteps(t, fromPrime(tone(1, 0, 0, 3), tone(1, 0, 0, 2)), tone(1, 0, 0, 3), tone(1, 0, 0, 6), tone(1, 0, 0, 2))
	checkSteps(t, fromPrime(tone(1, 0, 0, 8), tone(3, 0, 0, 8)), tone(1, 0, 0, 8), tone(1, 0, 0, 4), tone(5, 0, 0, 8))
	checkSteps(t, fromPrime(tone(1, 0, 0, 4), tone(2, 0, 0, 3)), tone(1, 0, 0, 4), tone(5, 0, 0, 12), tone(1, 0, 0, 3))
	// The third and the fifth of the quarter-comma meantone.
	checkSteps(t, fromPrime(tone(-2, 0, 1, 1), tone(0, 0, 1, 4)), tone(-2, 0, 1, 1), tone(8, 0, -3, 4), tone(4, 0, -1, 4))
	// Steps are simplest even where the list is not.
	checkSteps(t, []impl.Interval{tone(0, 0, 0, 5), tone(2, 0, 0, 12), tone(-6, 6, 0, 6)}, tone(1, 0, 0, 6), tone(-7, 6, 0, 6), tone(2, -1, 0, 1))
	checkSteps(t, []impl.Interval{tone(0, 0, 0, 12), tone(-12, 12, 0, 12)}, tone(-1, 1, 0, 1), tone(2, -1, 0, 1))
}

func TestStepsOfEveryChain(t *testing.T) {
	most := 0
	for low := -30; low <= 30; low++ {
		for high := low; high <= 30; high++ {
			chain := impl.ChainOf(low, high)
			if low > 0 || high < 0 {
				checkNoSteps(t, chain...)
				continue
			}
			steps := impl.StepsOf(chain)
			if !slices.Equal(steps, stepsOf(chain)) || len(steps) != high-low+1 {
				t.Errorf("StepsOf(%v) = %v", chain, steps)
			}
			sizes := impl.CountSizes(steps)
			if sizes < 1 || sizes > 3 || sizes != sizesOf(steps) {
				t.Errorf("the steps %v have %d sizes", steps, sizes)
			}
			most = max(most, sizes)
			checkStepsAreAnOctave(t, chain, steps)
		}
	}
	if most != 3 {
		t.Errorf("the steps have at most %d sizes", most)
	}
}

// The sizes of the steps depend on the number of the notes alone, and with some numbers there are just two of them.
func TestSizesOfTheStepsOfChains(t *testing.T) {
	twoSizes := []int{2, 3, 5, 7, 12, 17, 29, 41, 53}
	for count := 2; count <= 61; count++ {
		want := 3
		if slices.Contains(twoSizes, count) {
			want = 2
		}
		for low := max(-30, 1-count); low <= 0 && low+count-1 <= 30; low++ {
			steps := impl.StepsOf(impl.ChainOf(low, low+count-1))
			checkSizes(t, want, steps...)
		}
	}
}

func TestStepsOfOneAndSixtyIntervals(t *testing.T) {
	all := chainOf(-31, 31)
	for _, count := range []int{60, 61} {
		list := all[:count]
		checkSteps(t, list, stepsOf(list)...)
		if steps := impl.StepsOf(list); len(steps) != count {
			t.Errorf("%d intervals have %d steps", count, len(steps))
		}
	}
	// Not a chain: multiples of the Pythagorean comma and of the syntonic one, up to the octave.
	list := chainOf(0, 0)
	for n := 1; n <= 50; n++ {
		list = append(list, tone(-4*n, 4*n, -n, 1))
		if n <= 10 {
			list = append(list, tone(1+19*n, -12*n, 0, 1))
		}
	}
	slices.SortFunc(list, bigOrder)
	want := stepsOf(list)
	if len(list) != 61 || len(want) != 61 {
		t.Fatalf("%d intervals have %d steps", len(list), len(want))
	}
	checkSteps(t, list, want...)
}

func TestStepsOfTooManyIntervals(t *testing.T) {
	checkNoSteps(t, chainOf(-31, 30)...)
	checkNoSteps(t, chainOf(-30, 31)...)
	checkNoSteps(t, chainOf(0, 61)...)
	checkNoSteps(t, chainOf(-31, 31)...)
	checkNoSteps(t, chainOf(-60, 60)...)
	checkNoSteps(t, slices.Repeat(impl.ChainOf(-30, 30), 2)...)
	checkNoSteps(t, slices.Repeat([]impl.Interval{tone(0, 0, 0, 1)}, 5000)...)
}

func TestStepsOfNoIntervals(t *testing.T) {
	checkSteps(t, nil)
	checkSteps(t, []impl.Interval{})
	checkSteps(t, impl.ChainOf(0, 4)[:0])
}

func TestStepsNextToTheOctave(t *testing.T) {
	for _, comma := range smallCommas() {
		below, above := shifted(negated(comma), 1), shifted(comma, 1)
		checkSteps(t, fromPrime(below), below, comma)
		checkSteps(t, fromPrime(comma), comma, below)
		checkSteps(t, fromPrime(tone(-1, 1, 0, 1), below), stepsOf(fromPrime(tone(-1, 1, 0, 1), below))...)
		checkNoSteps(t, fromPrime(above)...)
		checkNoSteps(t, fromPrime(negated(comma))...)
	}
	checkSteps(t, fromPrime(tone(11, 0, 0, 12)), tone(11, 0, 0, 12), tone(1, 0, 0, 12))
	checkSteps(t, fromPrime(tone(-7, 5, 0, 1)), tone(-7, 5, 0, 1), tone(8, -5, 0, 1))
}

func TestStepsNotWithinAnOctave(t *testing.T) {
	fifth, octave := tone(-1, 1, 0, 1), tone(1, 0, 0, 1)
	checkNoSteps(t, fromPrime(octave)...)
	checkNoSteps(t, fromPrime(tone(12, 0, 0, 12))...)
	checkNoSteps(t, fromPrime(fifth, octave)...)
	checkNoSteps(t, fromPrime(fifth, tone(0, 1, 0, 1))...)
	checkNoSteps(t, fromPrime(tone(0, 1, 0, 1))...)
	checkNoSteps(t, fromPrime(fifth, octave, tone(0, 1, 0, 1))...)
	checkNoSteps(t, fromPrime(tone(0, 1, 0, 1), fifth)...)
	checkNoSteps(t, fromPrime(tone(-1, 0, 0, 1))...)
	checkNoSteps(t, fromPrime(negated(fifth), fifth)...)
	checkNoSteps(t, fromPrime(tone(0, 399, 0, 1))...)
	checkNoSteps(t, fromPrime(tone(13, 0, 0, 12))...)
	checkNoSteps(t, fromPrime(tone(-1, 0, 0, 12))...)
}

func TestStepsNotFromThePrime(t *testing.T) {
	fifth, fourth, octave := tone(-1, 1, 0, 1), tone(2, -1, 0, 1), tone(1, 0, 0, 1)
	checkNoSteps(t, fifth)
	checkNoSteps(t, fourth, fifth)
	checkNoSteps(t, octave)
	checkNoSteps(t, octave, tone(0, 1, 0, 1))
	checkNoSteps(t, tone(-1, 0, 0, 1))
	checkNoSteps(t, tone(-1, 0, 0, 1), tone(0, 0, 0, 1), fifth)
	checkNoSteps(t, negated(fourth), tone(0, 0, 0, 1), fourth)
	checkNoSteps(t, tone(1, 0, 0, 12), fourth)
	checkNoSteps(t, tone(-1, 0, 0, 12), fourth)
	checkNoSteps(t, impl.ChainOf(1, 7)...)
	for _, comma := range smallCommas() {
		checkNoSteps(t, comma, fifth)
		checkNoSteps(t, negated(comma), fifth)
		checkNoSteps(t, comma)
		checkNoSteps(t, negated(comma))
	}
}

func TestStepsNotInOrder(t *testing.T) {
	prime, fifth, fourth := tone(0, 0, 0, 1), tone(-1, 1, 0, 1), tone(2, -1, 0, 1)
	checkNoSteps(t, fromPrime(fifth, fourth)...)
	checkNoSteps(t, fromPrime(fourth, fifth, fourth)...)
	checkNoSteps(t, fromPrime(fifth, prime)...)
	checkNoSteps(t, fromPrime(tone(7, 0, 0, 12), tone(0, 0, 1, 4))...)
	// Equal ones, also in other forms.
	checkNoSteps(t, prime, prime)
	checkNoSteps(t, prime, tone(0, 0, 0, 7), fifth)
	checkNoSteps(t, fromPrime(fifth, fifth)...)
	checkNoSteps(t, fromPrime(fifth, tone(-12, 12, 0, 12))...)
	checkNoSteps(t, fromPrime(tone(1, 0, 0, 2), tone(6, 0, 0, 12))...)
	for _, comma := range smallCommas() {
		higher, lower := tone(comma.Two-1, comma.Three+1, comma.Five, 1), tone(-comma.Two-1, -comma.Three+1, -comma.Five, 1)
		checkNoSteps(t, fromPrime(higher, fifth)...)
		checkNoSteps(t, fromPrime(fifth, lower)...)
		checkNoSteps(t, fromPrime(comma, prime, fifth)...)
		if steps := impl.StepsOf(fromPrime(lower, fifth)); len(steps) != 3 || steps[1] != comma {
			t.Error("the steps with a comma are", steps)
		}
	}
}

// Each pair of the longest chain that follow each other is exchanged, and each interval is repeated.
func TestStepsNotInOrderAtEveryPlace(t *testing.T) {
	chain := chainOf(-30, 30)
	for i := 1; i < len(chain); i++ {
		exchanged := slices.Clone(chain)
		exchanged[i-1], exchanged[i] = exchanged[i], exchanged[i-1]
		checkNoSteps(t, exchanged...)
		repeated := slices.Clone(chain)
		repeated[i] = repeated[i-1]
		checkNoSteps(t, repeated...)
	}
	slices.Reverse(chain)
	checkNoSteps(t, chain...)
}

// All the intervals are valid, within an octave and in ascending order, but not all the differences are valid.
func TestStepsWithDifferencesThatAreNotValid(t *testing.T) {
	checkNoSteps(t, fromPrime(tone(1, 0, 0, 7), tone(1, 0, 0, 5))...)
	checkNoSteps(t, fromPrime(tone(1, 0, 0, 12), tone(1, 0, 0, 8))...)
	checkNoSteps(t, fromPrime(tone(1, 0, 0, 6), tone(4, 0, 0, 10))...)
	checkNoSteps(t, fromPrime(tone(1, 0, 0, 5), tone(1, 0, 0, 2), tone(4, 0, 0, 7))...)
	checkSteps(t, fromPrime(tone(1, 0, 0, 5), tone(1, 0, 0, 2)), tone(1, 0, 0, 5), tone(3, 0, 0, 10), tone(1, 0, 0, 2))
	// A power beyond the limit.
	lists := [][]impl.Interval{
		{withPowers(200, -136), withPowers(-201, 137)},
		{withPowers(200, -201), withPowers(-199, 200)},
		{withPowers(64, 43), withPowers(-64, -43)},
		{withPowers(-150, 0), withPowers(150, 0)},
		{withPowers(0, 100), withPowers(0, -100)},
	}
	for _, list := range lists {
		slices.SortFunc(list, bigOrder)
		for _, x := range list {
			if !impl.IntervalOk(x) || len(impl.StepsOf(fromPrime(x))) != 2 {
				t.Fatalf("%v has no steps alone", x)
			}
		}
		if _, ok := differenceLikeFractions(list[0], list[1]); ok {
			t.Fatalf("the difference of %v is valid", list)
		}
		checkNoSteps(t, fromPrime(list...)...)
	}
	// The last difference is to the octave.
	checkNoSteps(t, fromPrime(tone(-400, 253, 0, 1))...)
	if steps := impl.StepsOf(fromPrime(withPowers(252, 0))); len(steps) != 2 {
		t.Error("an interval that has an inverse has the steps", steps)
	}
}

// The last list has a difference that is beyond the limit until it is divided.
func TestStepsWithDifferencesAtTheLimit(t *testing.T) {
	lists := [][]impl.Interval{
		{withPowers(200, -136), withPowers(-200, 136)},
		{withPowers(200, -200), withPowers(-199, 200)},
		{withPowers(122, 3), withPowers(-63, -43)},
		{tone(0, 397, -269, 12), tone(0, -395, 271, 12)},
	}
	for _, list := range lists {
		slices.SortFunc(list, bigOrder)
		list = fromPrime(list...)
		want := stepsOf(list)
		if len(want) != 3 {
			t.Fatalf("a difference of %v is not valid", list)
		}
		checkSteps(t, list, want...)
	}
	checkSteps(t, fromPrime(tone(0, -395, 271, 12), tone(0, 397, -269, 12)), tone(0, -395, 271, 12), tone(0, 66, -45, 1), tone(12, -397, 269, 12))
}

func TestStepsOfManyLists(t *testing.T) {
	var all []impl.Interval
	for _, x := range slices.Concat(plainIntervals(), someIntervals(), smallCommas(), endIntervals(1, 5, 12)) {
		if within, ok := exponentsOf(shifted(x, -octavesOf(x))).simplest(); ok && bigOrder(within, tone(0, 0, 0, 1)) > 0 {
			all = append(all, within)
		}
	}
	succeeded, failed := 0, 0
	for i := range all {
		list := []impl.Interval{all[i], all[(i*7+3)%len(all)], all[(i*31+5)%len(all)]}
		slices.SortFunc(list, bigOrder)
		list = fromPrime(slices.Compact(list)...)
		want := stepsOf(list)
		checkSteps(t, list, want...)
		if want == nil {
			failed++
		} else {
			succeeded++
		}
	}
	if succeeded < 200 || failed < 200 {
		t.Errorf("%d lists had steps, %d had none", succeeded, failed)
	}
}

func TestStepsOfInvalidIntervals(t *testing.T) {
	chain := chainOf(-30, 30)
	for _, bad := range invalidIntervals() {
		checkNoSteps(t, bad)
		checkNoSteps(t, bad, tone(-1, 1, 0, 1))
		checkNoSteps(t, fromPrime(bad)...)
		checkNoSteps(t, fromPrime(bad, tone(-1, 1, 0, 1))...)
		checkNoSteps(t, fromPrime(tone(-1, 1, 0, 1), bad)...)
		for place := 0; place < len(chain); place += 6 {
			list := slices.Clone(chain)
			list[place] = bad
			checkNoSteps(t, list...)
		}
	}
	// These are within an octave and in order if they are not checked.
	checkNoSteps(t, tone(0, 0, 0, 13))
	checkNoSteps(t, tone(0, 0, 0, 0))
	checkNoSteps(t, fromPrime(tone(8, 0, 0, 16))...)
	checkNoSteps(t, fromPrime(tone(-8, 0, 0, -16))...)
	checkNoSteps(t, fromPrime(tone(-402, 402, 0, 402))...)
	checkNoSteps(t, fromPrime(tone(-635, 401, 0, 1))...)
}

func TestCountSizes(t *testing.T) {
	fifth, fourth := tone(-1, 1, 0, 1), tone(2, -1, 0, 1)
	checkSizes(t, 0)
	checkSizes(t, 0, []impl.Interval{}...)
	checkSizes(t, 1, fifth)
	checkSizes(t, 2, fifth, fourth)
	checkSizes(t, 2, fifth, fourth, fifth, fourth, fourth)
	checkSizes(t, 3, fifth, fourth, tone(1, 0, 0, 1))
	checkSizes(t, 2, fifth, negated(fifth))
	checkSizes(t, 4, fifth, tone(0, 1, 0, 1), tone(-1, 1, 0, 2), tone(-1, 1, 1, 1))
	checkSizes(t, 1, slices.Repeat([]impl.Interval{fifth}, 5000)...)
	checkSizes(t, 9, smallCommas()...)
	checkSizes(t, 12, longIntervals()...)
	checkSizes(t, 2, tone(5, 5, 2, 11), tone(154, 142, -155, 12))
}

func TestCountSizesOfOtherForms(t *testing.T) {
	checkSizes(t, 1, tone(1, 0, 0, 2), tone(2, 0, 0, 4), tone(6, 0, 0, 12))
	checkSizes(t, 2, tone(1, 0, 0, 2), tone(2, 0, 0, 4), tone(6, 0, 0, 11))
	checkSizes(t, 1, tone(-1, 1, 0, 1), tone(-12, 12, 0, 12), tone(-5, 5, 0, 5))
	checkSizes(t, 1, tone(-8, 8, 4, 12), tone(-4, 4, 2, 6), tone(-2, 2, 1, 3))
	var primes []impl.Interval
	for root := 1; root <= 12; root++ {
		primes = append(primes, tone(0, 0, 0, root))
	}
	checkSizes(t, 1, primes...)
	sizes := slices.Concat(plainIntervals(), someIntervals(), smallCommas())
	var forms, simplest []impl.Interval
	for i, x := range sizes {
		checkSizes(t, 1, otherForms(x)...)
		if i%9 == 0 {
			forms = append(forms, otherForms(x)...)
			simplest = append(simplest, impl.SimplestOf(x))
		}
	}
	want := sizesOf(simplest)
	if len(forms) <= want || want < 200 {
		t.Fatalf("%d forms have %d sizes", len(forms), want)
	}
	checkSizes(t, want, forms...)
	slices.Reverse(forms)
	checkSizes(t, want, forms...)
	checkSizes(t, want, simplest...)
}

func TestCountSizesInvalid(t *testing.T) {
	for _, bad := range invalidIntervals() {
		checkSizes(t, 0, bad)
		checkSizes(t, 0, bad, bad)
		for _, count := range []int{2, 3, 61, 62} {
			for _, place := range []int{0, 1, count / 2, count - 1} {
				list := slices.Repeat([]impl.Interval{tone(-1, 1, 0, 1)}, count)
				list[place] = bad
				checkSizes(t, 0, list...)
			}
		}
	}
	// These have a simplest form if they are not checked.
	checkSizes(t, 0, tone(1, 0, 0, 2), tone(7, 0, 0, 14))
	checkSizes(t, 0, tone(402, 0, 0, 2), tone(1, 0, 0, 2))
}

func TestChainsLeaveTheirArguments(t *testing.T) {
	backing := slices.Concat(impl.ChainOf(-12, 12), invalidIntervals(), []impl.Interval{tone(2, 0, 0, 4), tone(0, 0, 0, 1)})
	want := slices.Clone(backing)
	for start := range backing {
		for end := start; end <= len(backing); end += 5 {
			impl.StepsOf(backing[start:end])
			impl.CountSizes(backing[start:end])
		}
	}
	impl.StepsOf(backing[:25])
	if !slices.Equal(backing, want) {
		t.Error("an argument, or the capacity behind it, was changed")
	}
}

func TestChainsBelongToTheCaller(t *testing.T) {
	chain := impl.ChainOf(-12, 12)
	want := slices.Clone(chain)
	list := slices.Clone(chain)
	steps, again := impl.StepsOf(list), impl.StepsOf(list)
	wantSteps := slices.Clone(steps)
	for i := range chain {
		chain[i], steps[i] = impl.Interval{}, impl.Interval{}
	}
	_ = append(chain[:5], tone(9, 9, 9, 9))
	_ = append(steps[:5], tone(9, 9, 9, 9))
	checkChain(t, -12, 12, want...)
	if !slices.Equal(list, want) || !slices.Equal(again, wantSteps) {
		t.Error("a result shares memory with an argument or with another result")
	}
	checkSteps(t, list, wantSteps...)
	// A change of the argument does not reach the result.
	clear(list)
	if !slices.Equal(again, wantSteps) {
		t.Error("a result shares memory with an argument")
	}
}
