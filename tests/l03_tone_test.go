package tests

import (
	"math"
	"math/big"
	"testing"

	"loop.example/g00989/impl"
)

// tone is short for an interval with all four fields.
func tone(two, three, five, root int) impl.Interval {
	return impl.Interval{Two: two, Three: three, Five: five, Root: root}
}

// exponents holds the true powers of 2, 3 and 5, so that it is the same for each form of one interval.
type exponents [3]*big.Rat

func exponentsOf(x impl.Interval) exponents {
	root := int64(x.Root)
	return exponents{big.NewRat(int64(x.Two), root), big.NewRat(int64(x.Three), root), big.NewRat(int64(x.Five), root)}
}

func (e exponents) plus(other exponents) exponents {
	var sum exponents
	for i := range e {
		sum[i] = new(big.Rat).Add(e[i], other[i])
	}
	return sum
}

func (e exponents) times(n int) exponents {
	var product exponents
	for i := range e {
		product[i] = new(big.Rat).Mul(e[i], big.NewRat(int64(n), 1))
	}
	return product
}

// simplest finds the least root with which all powers are whole numbers, by trying them; false if a limit is exceeded.
func (e exponents) simplest() (impl.Interval, bool) {
	for root := 1; root <= 12; root++ {
		whole := e.times(root)
		if !whole[0].IsInt() || !whole[1].IsInt() || !whole[2].IsInt() {
			continue
		}
		powers := [3]int{}
		for i := range powers {
			powers[i] = int(whole[i].Num().Int64())
			if powers[i] < -400 || powers[i] > 400 {
				return impl.Interval{}, false
			}
		}
		return tone(powers[0], powers[1], powers[2], root), true
	}
	return impl.Interval{}, false
}

func invalidIntervals() []impl.Interval {
	list := []impl.Interval{
		{}, tone(1, 1, 1, 0), tone(0, 0, 0, 13), tone(0, 0, 0, -1), tone(2, 4, 6, -2), tone(26, 13, 0, 13),
		tone(401, 401, 401, 1), tone(-401, -401, -401, 12), tone(402, 0, 0, 2), tone(0, 4800, 0, 12),
		tone(math.MaxInt, math.MaxInt, math.MaxInt, math.MaxInt), tone(math.MinInt, math.MinInt, math.MinInt, math.MinInt),
		tone(math.MinInt, math.MaxInt, math.MinInt, 1), tone(math.MinInt, math.MinInt, math.MinInt, 0), tone(0, 0, 0, math.MinInt+1),
	}
	for _, n := range []int{-401, 401, -402, 402, math.MinInt, math.MinInt + 1, math.MaxInt, math.MaxInt - 1} {
		for _, root := range []int{1, 2, 12} {
			list = append(list, tone(n, 0, 0, root), tone(0, n, 0, root), tone(0, 0, n, root))
		}
		list = append(list, tone(1, 1, 1, n))
	}
	return list
}

// someIntervals are valid and of all roots, with both ends of the powers and forms that are not the simplest.
func someIntervals() []impl.Interval {
	list := []impl.Interval{
		tone(400, -400, 400, 1), tone(-400, 400, -400, 12), tone(400, 0, 0, 3), tone(0, 399, -399, 7), tone(200, -200, 1, 2),
		tone(-19, 12, 0, 1), tone(-19, 12, 0, 12), tone(-2, 0, 1, 1), tone(-2, 0, 1, 4), tone(-8, 8, 4, 12),
	}
	for root := 1; root <= 12; root++ {
		list = append(list, tone(0, 0, 0, root), tone(1, 0, 0, root), tone(-root, root, 0, root), tone(6, -9, 3*root, root), tone(-5, 4, -12, root))
	}
	return list
}

func checkSimplest(t *testing.T, x, want impl.Interval) {
	t.Helper()
	if got := impl.SimplestOf(x); got != want {
		t.Errorf("SimplestOf(%v) = %v; want %v", x, got, want)
	}
}

func checkSum(t *testing.T, a, b, want impl.Interval, wantOk bool) {
	t.Helper()
	if got, ok := impl.AddIntervals(a, b); got != want || ok != wantOk {
		t.Errorf("AddIntervals(%v, %v) = %v, %v; want %v, %v", a, b, got, ok, want, wantOk)
	}
	if got, ok := impl.AddIntervals(b, a); got != want || ok != wantOk {
		t.Errorf("AddIntervals(%v, %v) = %v, %v; want %v, %v", b, a, got, ok, want, wantOk)
	}
}

func checkSumFails(t *testing.T, a, b impl.Interval) {
	t.Helper()
	checkSum(t, a, b, impl.Interval{}, false)
}

func checkMultiple(t *testing.T, x impl.Interval, n int, want impl.Interval, wantOk bool) {
	t.Helper()
	if got, ok := impl.TimesInterval(x, n); got != want || ok != wantOk {
		t.Errorf("TimesInterval(%v, %d) = %v, %v; want %v, %v", x, n, got, ok, want, wantOk)
	}
}

func checkMultipleFails(t *testing.T, x impl.Interval, n int) {
	t.Helper()
	checkMultiple(t, x, n, impl.Interval{}, false)
}

func checkIntervalText(t *testing.T, x impl.Interval, want string) {
	t.Helper()
	if got := impl.IntervalText(x); got != want {
		t.Errorf("IntervalText(%v) = %q; want %q", x, got, want)
	}
}

func TestLimitsOfIntervals(t *testing.T) {
	if impl.MaxPower != 400 || impl.MaxRoot != 12 {
		t.Error("a limit of chapter 3 differs from the document")
	}
}

func TestIntervalOk(t *testing.T) {
	for _, x := range someIntervals() {
		if !impl.IntervalOk(x) {
			t.Errorf("IntervalOk(%v) = false", x)
		}
	}
	for _, x := range invalidIntervals() {
		if impl.IntervalOk(x) {
			t.Errorf("IntervalOk(%v) = true", x)
		}
	}
}

// Each field is tried around both ends of its range, with every root.
func TestIntervalOkEveryField(t *testing.T) {
	for root := -2; root <= 15; root++ {
		rootOk := root >= 1 && root <= 12
		for _, n := range []int{-4800, -402, -401, -400, -399, -1, 0, 1, 399, 400, 401, 402, 4800} {
			want := rootOk && n >= -400 && n <= 400
			for _, x := range []impl.Interval{tone(n, 3, -5, root), tone(2, n, -5, root), tone(2, 3, n, root), tone(n, n, n, root), tone(n, -n, 0, root)} {
				if got := impl.IntervalOk(x); got != want {
					t.Errorf("IntervalOk(%v) = %v", x, got)
				}
			}
		}
	}
}

func TestSimplestOf(t *testing.T) {
	checkSimplest(t, tone(2, 0, 0, 12), tone(1, 0, 0, 6))
	checkSimplest(t, tone(4, 6, 8, 10), tone(2, 3, 4, 5))
	checkSimplest(t, tone(-4, 6, -8, 10), tone(-2, 3, -4, 5))
	checkSimplest(t, tone(-3, -9, -6, 12), tone(-1, -3, -2, 4))
	checkSimplest(t, tone(0, -8, 0, 12), tone(0, -2, 0, 3))
	checkSimplest(t, tone(0, 0, -9, 6), tone(0, 0, -3, 2))
	// The root becomes 1.
	checkSimplest(t, tone(-12, 12, 0, 12), tone(-1, 1, 0, 1))
	checkSimplest(t, tone(396, -132, 24, 12), tone(33, -11, 2, 1))
	checkSimplest(t, tone(-7, 0, 0, 7), tone(-1, 0, 0, 1))
	checkSimplest(t, tone(400, -400, 400, 10), tone(40, -40, 40, 1))
	// Nothing divides all four: one of the numbers is in the way.
	checkSimplest(t, tone(3, 6, 6, 4), tone(3, 6, 6, 4))
	checkSimplest(t, tone(6, -3, 6, 4), tone(6, -3, 6, 4))
	checkSimplest(t, tone(6, 6, -3, 4), tone(6, 6, -3, 4))
	checkSimplest(t, tone(6, -6, 6, 1), tone(6, -6, 6, 1))
	checkSimplest(t, tone(9, 9, 9, 8), tone(9, 9, 9, 8))
	checkSimplest(t, tone(6, 10, 15, 12), tone(6, 10, 15, 12))
}

func TestSimplestOfPrime(t *testing.T) {
	for root := 1; root <= 12; root++ {
		checkSimplest(t, tone(0, 0, 0, root), tone(0, 0, 0, 1))
	}
}

func TestSimplestOfEveryForm(t *testing.T) {
	powers := []int{-400, -399, -36, -24, -7, -2, 0, 1, 5, 9, 60, 396, 400}
	for root := 1; root <= 12; root++ {
		for _, two := range powers {
			for _, three := range powers {
				for _, five := range powers {
					x := tone(two, three, five, root)
					want, _ := exponentsOf(x).simplest()
					checkSimplest(t, x, want)
					checkSimplest(t, want, want)
				}
			}
		}
	}
}

func TestSimplestOfInvalid(t *testing.T) {
	for _, x := range invalidIntervals() {
		checkSimplest(t, x, impl.Interval{})
	}
	// These would be valid if they were divided first.
	checkSimplest(t, tone(402, 0, 0, 2), impl.Interval{})
	checkSimplest(t, tone(14, 28, -14, 14), impl.Interval{})
	checkSimplest(t, tone(0, 0, 0, 13), impl.Interval{})
	checkSimplest(t, tone(-2, -2, -2, -2), impl.Interval{})
}

func TestAddIntervals(t *testing.T) {
	checkSum(t, tone(-1, 1, 0, 1), tone(2, -1, 0, 1), tone(1, 0, 0, 1), true)
	checkSum(t, tone(-2, 0, 1, 1), tone(1, 1, -1, 1), tone(-1, 1, 0, 1), true)
	checkSum(t, tone(1, 2, 3, 1), tone(10, 20, 30, 1), tone(11, 22, 33, 1), true)
	// Different roots.
	checkSum(t, tone(1, 0, 0, 3), tone(1, 0, 0, 4), tone(7, 0, 0, 12), true)
	checkSum(t, tone(1, 0, 0, 2), tone(0, 1, 0, 3), tone(3, 2, 0, 6), true)
	checkSum(t, tone(-1, 1, 0, 1), tone(4, -4, 1, 4), tone(0, 0, 1, 4), true)
	checkSum(t, tone(0, 1, -1, 5), tone(0, 1, -1, 1), tone(0, 6, -6, 5), true)
	checkSum(t, tone(1, 0, 0, 6), tone(1, 0, 0, 3), tone(1, 0, 0, 2), true)
	checkSum(t, tone(1, 0, 0, 12), tone(-1, 0, 0, 6), tone(-1, 0, 0, 12), true)
}

// The product of the roots, or a power multiplied by the other root, is beyond the limits until the sum is divided.
func TestSumsValidOnlyWhenSimplest(t *testing.T) {
	checkSum(t, tone(1, 0, 0, 12), tone(1, 0, 0, 12), tone(1, 0, 0, 6), true)
	checkSum(t, tone(5, -5, 0, 12), tone(7, 5, 0, 12), tone(1, 0, 0, 1), true)
	checkSum(t, tone(400, -400, 400, 12), tone(400, -400, 400, 12), tone(200, -200, 200, 3), true)
	checkSum(t, tone(400, 1, 0, 2), tone(0, 1, 0, 2), tone(200, 1, 0, 1), true)
	checkSum(t, tone(400, 400, 400, 1), tone(0, 0, 0, 12), tone(400, 400, 400, 1), true)
	checkSum(t, tone(399, -399, 0, 1), tone(12, -12, 0, 12), tone(400, -400, 0, 1), true)
	checkSum(t, tone(398, 0, 0, 5), tone(2, 0, 0, 5), tone(80, 0, 0, 1), true)
	checkSum(t, tone(1, 0, 0, 8), tone(3, 0, 0, 8), tone(1, 0, 0, 2), true)
	checkSum(t, tone(3, 0, 0, 10), tone(2, 0, 0, 4), tone(4, 0, 0, 5), true)
	checkSum(t, tone(6, 0, 0, 9), tone(6, 0, 0, 8), tone(17, 0, 0, 12), true)
}

func checkSumEnds(t *testing.T, unit func(n, root int) impl.Interval) {
	t.Helper()
	for _, sign := range []int{-1, 1} {
		checkSum(t, unit(399*sign, 1), unit(sign, 1), unit(400*sign, 1), true)
		checkSum(t, unit(400*sign, 1), unit(0, 1), unit(400*sign, 1), true)
		checkSum(t, unit(400*sign, 1), unit(-400*sign, 1), unit(0, 1), true)
		checkSumFails(t, unit(400*sign, 1), unit(sign, 1))
		checkSumFails(t, unit(400*sign, 1), unit(400*sign, 1))
		checkSumFails(t, unit(200*sign, 1), unit(201*sign, 1))
		checkSum(t, unit(200*sign, 3), unit(199*sign, 3), unit(133*sign, 1), true)
		checkSum(t, unit(399*sign, 7), unit(sign, 7), unit(400*sign, 7), true)
		checkSumFails(t, unit(400*sign, 7), unit(sign, 7))
		checkSumFails(t, unit(400*sign, 2), unit(sign, 3))
		checkSumFails(t, unit(400*sign, 11), unit(sign, 1))
		// A small interval, but no root within the limit makes its power smaller.
		checkSumFails(t, unit(200*sign, 12), unit(201*sign, 12))
	}
}

func TestSumsAtTheEnds(t *testing.T) {
	checkSumEnds(t, func(n, root int) impl.Interval { return tone(n, 0, 0, root) })
	checkSumEnds(t, func(n, root int) impl.Interval { return tone(0, n, 0, root) })
	checkSumEnds(t, func(n, root int) impl.Interval { return tone(0, 0, n, root) })
}

func TestSumsWithRootsBeyondTheLimit(t *testing.T) {
	checkSumFails(t, tone(1, 0, 0, 5), tone(1, 0, 0, 7))
	checkSumFails(t, tone(1, 0, 0, 8), tone(1, 0, 0, 12))
	checkSumFails(t, tone(1, 0, 0, 6), tone(1, 0, 0, 10))
	checkSumFails(t, tone(2, 0, 0, 10), tone(8, 0, 0, 12))
	checkSumFails(t, tone(1, 0, 0, 2), tone(0, 1, 0, 7))
	checkSumFails(t, tone(0, 1, 0, 11), tone(0, 0, 1, 12))
	checkSum(t, tone(1, 0, 0, 3), tone(0, 0, 1, 4), tone(4, 0, 3, 12), true)
	checkSum(t, tone(1, 0, 0, 2), tone(0, 1, 0, 5), tone(5, 2, 0, 10), true)
	checkSum(t, tone(7, 0, 0, 7), tone(0, 5, 0, 5), tone(1, 1, 0, 1), true)
}

func TestSumsLikeFractions(t *testing.T) {
	for _, a := range someIntervals() {
		for _, b := range someIntervals() {
			want, ok := exponentsOf(a).plus(exponentsOf(b)).simplest()
			checkSum(t, a, b, want, ok)
		}
	}
}

// The form in which an interval is written makes no difference.
func TestSumsOfSimplestForms(t *testing.T) {
	for _, a := range someIntervals() {
		for _, b := range someIntervals() {
			want, ok := impl.AddIntervals(a, b)
			checkSum(t, impl.SimplestOf(a), b, want, ok)
			checkSum(t, impl.SimplestOf(a), impl.SimplestOf(b), want, ok)
		}
	}
}

func TestAddIntervalsInvalid(t *testing.T) {
	for _, bad := range invalidIntervals() {
		for _, good := range someIntervals() {
			checkSumFails(t, bad, good)
		}
		for _, other := range invalidIntervals() {
			checkSumFails(t, bad, other)
		}
	}
	// The sums themselves would be valid.
	checkSumFails(t, tone(401, 0, 0, 1), tone(-1, 0, 0, 1))
	checkSumFails(t, tone(402, 0, 0, 2), tone(0, 0, 0, 1))
	checkSumFails(t, tone(math.MaxInt, 0, 0, 1), tone(-math.MaxInt, 0, 0, 1))
	checkSumFails(t, tone(1, 0, 0, 13), tone(12, 0, 0, 13))
	checkSumFails(t, tone(-1, 0, 0, -1), tone(-1, 0, 0, -1))
}

func TestTimesInterval(t *testing.T) {
	checkMultiple(t, tone(-1, 1, 0, 1), 12, tone(-12, 12, 0, 1), true)
	checkMultiple(t, tone(-1, 1, 0, 1), -2, tone(2, -2, 0, 1), true)
	checkMultiple(t, tone(1, 0, 0, 12), 7, tone(7, 0, 0, 12), true)
	checkMultiple(t, tone(1, 0, 0, 12), 4, tone(1, 0, 0, 3), true)
	checkMultiple(t, tone(1, 0, 0, 12), -18, tone(-3, 0, 0, 2), true)
	checkMultiple(t, tone(1, 0, 0, 12), 12, tone(1, 0, 0, 1), true)
	checkMultiple(t, tone(0, 0, 1, 4), 4, tone(0, 0, 1, 1), true)
	checkMultiple(t, tone(-8, 8, 4, 12), 1, tone(-2, 2, 1, 3), true)
	checkMultiple(t, tone(-8, 8, 4, 12), -1, tone(2, -2, -1, 3), true)
}

func TestTimesIntervalEnds(t *testing.T) {
	checkMultiple(t, tone(1, -1, 1, 1), 400, tone(400, -400, 400, 1), true)
	checkMultiple(t, tone(1, -1, 1, 1), -400, tone(-400, 400, -400, 1), true)
	checkMultiple(t, tone(1, 0, 0, 12), 400, tone(100, 0, 0, 3), true)
	checkMultiple(t, tone(1, 0, 0, 12), -400, tone(-100, 0, 0, 3), true)
	checkMultiple(t, tone(0, 12, 0, 12), 400, tone(0, 400, 0, 1), true)
	checkMultiple(t, tone(400, -400, 400, 12), -12, tone(-400, 400, -400, 1), true)
	for _, x := range someIntervals() {
		checkMultiple(t, x, 0, tone(0, 0, 0, 1), true)
		for _, n := range []int{-401, 401, -402, 402, -4800, 4800, math.MinInt, math.MinInt + 1, math.MaxInt, math.MaxInt - 1} {
			checkMultipleFails(t, x, n)
		}
	}
	for root := 1; root <= 12; root++ {
		for _, n := range []int{-400, -1, 0, 1, 400} {
			checkMultiple(t, tone(0, 0, 0, root), n, tone(0, 0, 0, 1), true)
		}
	}
}

func TestMultiplesValidOnlyWhenSimplest(t *testing.T) {
	checkMultiple(t, tone(400, 400, -400, 12), 12, tone(400, 400, -400, 1), true)
	checkMultiple(t, tone(400, 400, -400, 12), 6, tone(200, 200, -200, 1), true)
	checkMultiple(t, tone(399, 0, 0, 2), 2, tone(399, 0, 0, 1), true)
	checkMultiple(t, tone(0, 100, 0, 3), -12, tone(0, -400, 0, 1), true)
	checkMultipleFails(t, tone(400, 400, -400, 12), 13)
	checkMultipleFails(t, tone(400, 400, -400, 12), -24)
	checkMultipleFails(t, tone(399, 0, 0, 2), 3)
	checkMultipleFails(t, tone(0, 101, 0, 3), 12)
	for _, x := range []impl.Interval{tone(2, 0, 0, 1), tone(0, -2, 0, 1), tone(0, 0, 2, 1), tone(4, -4, 4, 2)} {
		for _, n := range []int{-200, 200} {
			if _, ok := impl.TimesInterval(x, n); !ok {
				t.Errorf("TimesInterval(%v, %d) failed", x, n)
			}
		}
		for _, n := range []int{-400, -201, 201, 400} {
			checkMultipleFails(t, x, n)
		}
	}
}

func TestMultiplesLikeFractions(t *testing.T) {
	for _, x := range someIntervals() {
		for n := -400; n <= 400; n++ {
			want, ok := exponentsOf(x).times(n).simplest()
			checkMultiple(t, x, n, want, ok)
		}
	}
}

func TestTimesIntervalInvalid(t *testing.T) {
	for _, x := range invalidIntervals() {
		for _, n := range []int{math.MinInt, -401, -400, -1, 0, 1, 2, 400, 401, math.MaxInt} {
			checkMultipleFails(t, x, n)
		}
	}
}

func TestSumsOfThreeInBothGroupings(t *testing.T) {
	list := someIntervals()
	compared := 0
	for _, a := range list {
		for _, b := range list {
			left, leftOk := impl.AddIntervals(a, b)
			for _, c := range list {
				right, rightOk := impl.AddIntervals(b, c)
				// Either inner sum may be beyond the limits although the whole one is not.
				if !leftOk || !rightOk {
					continue
				}
				one, oneOk := impl.AddIntervals(left, c)
				other, otherOk := impl.AddIntervals(a, right)
				if one != other || oneOk != otherOk {
					t.Errorf("(%v + %v) + %v = %v, %v but %v, %v in the other grouping", a, b, c, one, oneOk, other, otherOk)
				}
				if oneOk {
					compared++
				}
			}
		}
	}
	if compared < 10000 {
		t.Errorf("only %d sums of three were compared", compared)
	}
}

func TestPrimeAndInverse(t *testing.T) {
	prime := tone(0, 0, 0, 1)
	for _, x := range someIntervals() {
		for root := 1; root <= 12; root++ {
			checkSum(t, x, tone(0, 0, 0, root), impl.SimplestOf(x), true)
		}
		checkMultiple(t, x, 1, impl.SimplestOf(x), true)
		inverse, ok := impl.TimesInterval(x, -1)
		if !ok {
			t.Errorf("TimesInterval(%v, -1) failed", x)
		}
		checkSum(t, x, inverse, prime, true)
		checkMultiple(t, inverse, -1, impl.SimplestOf(x), true)
	}
}

func TestThreeTimesIsASumOfThree(t *testing.T) {
	compared := 0
	for _, x := range someIntervals() {
		twice, ok := impl.AddIntervals(x, x)
		checkMultiple(t, x, 2, twice, ok)
		if !ok {
			continue
		}
		sum, sumOk := impl.AddIntervals(twice, x)
		checkMultiple(t, x, 3, sum, sumOk)
		compared++
	}
	if compared < 60 {
		t.Errorf("only %d multiples were compared", compared)
	}
	// Twice this interval is beyond the limit, three times is not.
	checkSumFails(t, tone(400, 0, 0, 3), tone(400, 0, 0, 3))
	checkMultiple(t, tone(400, 0, 0, 3), 3, tone(400, 0, 0, 1), true)
}

func TestPureOf(t *testing.T) {
	for _, n := range []int{-400, -399, -12, -1, 0, 1, 7, 399, 400} {
		for _, x := range []impl.Interval{tone(n, 0, 0, 1), tone(0, n, 0, 1), tone(0, 0, n, 1), tone(n, 2*n/3, -n, 1)} {
			if got := impl.PureOf(x.Two, x.Three, x.Five); got != x {
				t.Errorf("PureOf(%d, %d, %d) = %v", x.Two, x.Three, x.Five, got)
			}
		}
	}
	for _, n := range []int{-401, 401, -402, 402, 4800, math.MinInt, math.MinInt + 1, math.MaxInt} {
		for _, p := range [][3]int{{n, 0, 0}, {0, n, 0}, {0, 0, n}, {n, n, n}, {400, n, -400}, {n, 400, 400}, {-400, -400, n}} {
			if got := impl.PureOf(p[0], p[1], p[2]); got != (impl.Interval{}) {
				t.Errorf("PureOf(%d, %d, %d) = %v; want the zero Interval", p[0], p[1], p[2], got)
			}
		}
	}
}

func TestIntervalText(t *testing.T) {
	checkIntervalText(t, tone(-1, 1, 0, 1), "-1,1,0")
	checkIntervalText(t, tone(0, 0, 0, 1), "0,0,0")
	checkIntervalText(t, tone(1, 2, 3, 1), "1,2,3")
	checkIntervalText(t, tone(1, 0, 0, 12), "1,0,0/12")
	checkIntervalText(t, tone(0, 0, 1, 4), "0,0,1/4")
	checkIntervalText(t, tone(-10, 0, -3, 2), "-10,0,-3/2")
	checkIntervalText(t, tone(400, -400, 400, 1), "400,-400,400")
	checkIntervalText(t, tone(-400, 400, -400, 12), "-400,400,-400/12")
	// The text is that of the interval as it is written, not of its simplest form.
	checkIntervalText(t, tone(2, 0, 0, 12), "2,0,0/12")
	checkIntervalText(t, tone(12, -12, 0, 12), "12,-12,0/12")
	checkIntervalText(t, tone(0, 0, 0, 7), "0,0,0/7")
	for _, x := range invalidIntervals() {
		checkIntervalText(t, x, "")
	}
}
