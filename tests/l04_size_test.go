package tests

import (
	"math"
	"math/big"
	"slices"
	"testing"

	"loop.example/g00989/impl"
)

// bigOrder compares both ratios, to the power of both roots, as whole numbers of math/big.
func bigOrder(a, b impl.Interval) int {
	above, below := big.NewInt(1), big.NewInt(1)
	times := func(base, exponent int) {
		power := new(big.Int).Exp(big.NewInt(int64(base)), big.NewInt(int64(max(exponent, -exponent))), nil)
		if exponent > 0 {
			above.Mul(above, power)
		} else {
			below.Mul(below, power)
		}
	}
	times(2, a.Two*b.Root-b.Two*a.Root)
	times(3, a.Three*b.Root-b.Three*a.Root)
	times(5, a.Five*b.Root-b.Five*a.Root)
	return above.Cmp(below)
}

func negated(x impl.Interval) impl.Interval {
	return tone(-x.Two, -x.Three, -x.Five, x.Root)
}

// otherForms are of the same size as x, and valid.
func otherForms(x impl.Interval) []impl.Interval {
	var forms []impl.Interval
	simplest := impl.SimplestOf(x)
	for n := 1; n*simplest.Root <= 12; n++ {
		form := tone(n*simplest.Two, n*simplest.Three, n*simplest.Five, n*simplest.Root)
		if impl.IntervalOk(form) {
			forms = append(forms, form)
		}
	}
	return forms
}

// smallCommas are greater than the prime, in ascending order, each greater than the one before by less than a comma.
func smallCommas() []impl.Interval {
	return []impl.Interval{
		tone(140, -374, 195, 1), tone(161, -84, -12, 1), tone(-15, 8, 1, 1), tone(-84, 53, 0, 1),
		tone(11, -4, -2, 1), tone(-4, 4, -1, 1), tone(-19, 12, 0, 1), tone(7, 0, -3, 1), tone(3, 4, -4, 1),
	}
}

// longIntervals have powers so great that the powers of their comparisons are far beyond MaxPower.
func longIntervals() []impl.Interval {
	return []impl.Interval{
		tone(400, 400, 400, 1), tone(-400, -400, -400, 1), tone(400, -400, 400, 1), tone(-400, 400, -400, 12),
		tone(400, 400, 400, 12), tone(-400, -400, -400, 12), tone(400, 0, -400, 11), tone(0, 400, -400, 12),
		tone(397, -398, 399, 11), tone(-399, 400, -397, 12), tone(-400, 0, 0, 12), tone(400, 0, 0, 1),
	}
}

func checkSign(t *testing.T, x impl.Interval, want int) {
	t.Helper()
	if got := impl.SignOf(x); got != want {
		t.Errorf("SignOf(%v) = %d; want %d", x, got, want)
	}
}

// checkSigns tries the interval, its other forms and its roots, and the inverses of all of these.
func checkSigns(t *testing.T, x impl.Interval, want int) {
	t.Helper()
	list := otherForms(x)
	for root := 1; root <= 12; root++ {
		list = append(list, tone(x.Two, x.Three, x.Five, root))
	}
	for _, form := range list {
		checkSign(t, form, want)
		checkSign(t, negated(form), -want)
	}
}

func checkOrder(t *testing.T, a, b impl.Interval, want int) {
	t.Helper()
	if got := impl.CompareIntervals(a, b); got != want {
		t.Errorf("CompareIntervals(%v, %v) = %d; want %d", a, b, got, want)
	}
	if got := impl.CompareIntervals(b, a); got != -want {
		t.Errorf("CompareIntervals(%v, %v) = %d; want %d", b, a, got, -want)
	}
}

func checkGreatest(t *testing.T, want int, list ...impl.Interval) {
	t.Helper()
	if got := impl.GreatestOf(list); got != want {
		t.Errorf("GreatestOf(%v) = %d; want %d", list, got, want)
	}
}

func checkSame(t *testing.T, a, b impl.Interval, want bool) {
	t.Helper()
	if got := impl.SameSize(a, b); got != want {
		t.Errorf("SameSize(%v, %v) = %v", a, b, got)
	}
	if got := impl.SameSize(b, a); got != want {
		t.Errorf("SameSize(%v, %v) = %v", b, a, got)
	}
}

func checkBetween(t *testing.T, x, low, high impl.Interval, want bool) {
	t.Helper()
	if got := impl.IsBetween(x, low, high); got != want {
		t.Errorf("IsBetween(%v, %v, %v) = %v", x, low, high, got)
	}
}

func TestSignOf(t *testing.T) {
	checkSigns(t, tone(-1, 1, 0, 1), 1)
	checkSigns(t, tone(-2, 0, 1, 1), 1)
	checkSigns(t, tone(1, 1, -1, 1), 1)
	checkSigns(t, tone(2, -1, 0, 1), 1)
	checkSigns(t, tone(-3, -1, 2, 1), 1)
	checkSigns(t, tone(1, 0, 0, 1), 1)
	checkSigns(t, tone(0, 1, 0, 1), 1)
	checkSigns(t, tone(0, 0, 1, 1), 1)
	checkSigns(t, tone(1, 1, 1, 1), 1)
	checkSigns(t, tone(-2, 1, 0, 1), -1)
	checkSigns(t, tone(-3, 0, 1, 1), -1)
	checkSigns(t, tone(0, 1, -1, 1), -1)
	// One power is against the two others.
	checkSigns(t, tone(-1, -1, 1, 1), -1)
	checkSigns(t, tone(-4, 1, 1, 1), -1)
	checkSigns(t, tone(-3, 1, 1, 1), 1)
	checkSigns(t, tone(3, -2, 0, 5), -1)
}

func TestSignOfPrime(t *testing.T) {
	for root := 1; root <= 12; root++ {
		checkSign(t, tone(0, 0, 0, root), 0)
		for _, n := range []int{-1, 1} {
			checkSign(t, tone(n, 0, 0, root), n)
			checkSign(t, tone(0, n, 0, root), n)
			checkSign(t, tone(0, 0, n, root), n)
		}
	}
}

func TestSignOfSmallCommas(t *testing.T) {
	prime := tone(0, 0, 0, 1)
	for i, x := range smallCommas() {
		checkSigns(t, x, 1)
		checkOrder(t, x, prime, 1)
		for _, greater := range smallCommas()[i+1:] {
			checkOrder(t, x, greater, -1)
			checkOrder(t, negated(x), negated(greater), 1)
			checkOrder(t, negated(x), greater, -1)
		}
	}
	checkSigns(t, tone(-21, -290, 207, 1), -1)
	checkSigns(t, tone(-322, 168, 24, 1), -1)
	checkSigns(t, tone(-317, 200, 0, 1), -1)
	checkSigns(t, tone(-182, -206, 219, 1), -1)
}

func TestSignsAtTheEnds(t *testing.T) {
	powers := []int{-400, -399, -1, 0, 1, 399, 400}
	for _, two := range powers {
		for _, three := range powers {
			for _, five := range powers {
				want := bigOrder(tone(two, three, five, 1), tone(0, 0, 0, 1))
				for _, root := range []int{1, 7, 12} {
					checkSign(t, tone(two, three, five, root), want)
				}
			}
		}
	}
}

func TestSignsOfManyIntervals(t *testing.T) {
	for two := -30; two <= 30; two++ {
		for three := -12; three <= 12; three++ {
			for five := -6; five <= 6; five++ {
				want := bigOrder(tone(two, three, five, 1), tone(0, 0, 0, 1))
				checkSign(t, tone(two, three, five, 1), want)
				checkSign(t, tone(two, three, five, 5), want)
			}
		}
	}
}

func TestSignOfInvalid(t *testing.T) {
	for _, x := range invalidIntervals() {
		checkSign(t, x, 0)
	}
	// These have a sign if they are not checked.
	for _, n := range []int{401, 4800, math.MaxInt} {
		for _, x := range []impl.Interval{tone(n, 0, 0, 1), tone(0, n, 0, 1), tone(0, 0, n, 1), tone(n, n, n, 12), tone(1, 1, 1, 0), tone(1, 1, 1, 13), tone(1, 1, 1, n), tone(1, 1, 1, -n)} {
			checkSign(t, x, 0)
			checkSign(t, negated(x), 0)
		}
	}
}

func TestCompareIntervals(t *testing.T) {
	fifth, fourth, third := tone(-1, 1, 0, 1), tone(2, -1, 0, 1), tone(-2, 0, 1, 1)
	checkOrder(t, fifth, fourth, 1)
	checkOrder(t, third, fourth, -1)
	checkOrder(t, fifth, fifth, 0)
	checkOrder(t, fifth, tone(1, 0, 0, 1), -1)
	checkOrder(t, negated(fifth), fourth, -1)
	checkOrder(t, negated(fifth), negated(fourth), -1)
	checkOrder(t, negated(fifth), tone(0, 0, 0, 1), -1)
	checkOrder(t, tone(1, 1, -1, 1), tone(5, -3, 0, 1), 1)
	checkOrder(t, tone(-3, 2, 0, 1), tone(1, -2, 1, 1), 1)
}

func TestCompareDifferentRoots(t *testing.T) {
	fifth, fourth, third := tone(-1, 1, 0, 1), tone(2, -1, 0, 1), tone(-2, 0, 1, 1)
	checkOrder(t, third, tone(1, 0, 0, 3), -1)
	checkOrder(t, fifth, tone(7, 0, 0, 12), 1)
	checkOrder(t, fourth, tone(5, 0, 0, 12), -1)
	checkOrder(t, tone(1, 1, -1, 1), tone(1, 0, 0, 4), 1)
	// The fifth of the quarter-comma meantone, and that of twelve equal steps.
	checkOrder(t, tone(0, 0, 1, 4), fifth, -1)
	checkOrder(t, tone(0, 0, 1, 4), tone(7, 0, 0, 12), -1)
	checkOrder(t, tone(0, 1, 0, 2), tone(0, 0, 1, 3), 1)
	checkOrder(t, tone(1, 0, 0, 2), tone(0, 1, 0, 3), -1)
	checkOrder(t, tone(-1, 0, 0, 2), tone(0, -1, 0, 3), 1)
	for root := 1; root < 12; root++ {
		checkOrder(t, tone(1, 0, 0, root), tone(1, 0, 0, root+1), 1)
		checkOrder(t, tone(0, -1, 0, root), tone(0, -1, 0, root+1), -1)
		checkOrder(t, tone(-19, 12, 0, root), tone(-19, 12, 0, root+1), 1)
		checkOrder(t, tone(root, 0, 0, root+1), tone(root-1, 0, 0, root), 1)
	}
}

// The two intervals of each pair differ by less than the hundred thousandth part of a step.
func TestCompareNearlyEqual(t *testing.T) {
	checkOrder(t, tone(5, 5, 2, 11), tone(154, 142, -155, 12), -1)
	checkOrder(t, tone(-1, -1, 4, 11), tone(296, 272, -310, 12), -1)
	checkOrder(t, tone(-3, 1, 2, 11), tone(109, 266, -227, 12), 1)
	checkOrder(t, tone(3, -4, 0, 11), tone(-33, 124, -72, 12), 1)
	checkOrder(t, tone(-154, -142, 155, 12), tone(-5, -5, -2, 11), -1)
	checkOrder(t, tone(140, -374, 195, 12), tone(0, 0, 0, 7), 1)
}

func TestComparePrimes(t *testing.T) {
	for root := 1; root <= 12; root++ {
		for other := 1; other <= 12; other++ {
			checkOrder(t, tone(0, 0, 0, root), tone(0, 0, 0, other), 0)
			checkOrder(t, tone(1, 0, 0, root), tone(0, 0, 0, other), 1)
			checkOrder(t, tone(2, -2, 0, root), tone(0, 0, 0, other), -1)
		}
	}
}

func TestCompareBeyondMaxPower(t *testing.T) {
	for _, a := range longIntervals() {
		for _, b := range longIntervals() {
			checkOrder(t, a, b, bigOrder(a, b))
		}
		for _, b := range smallCommas() {
			checkOrder(t, a, b, bigOrder(a, b))
		}
	}
	checkOrder(t, tone(400, -400, 400, 12), tone(-400, 400, -400, 12), 1)
	checkOrder(t, tone(400, 0, 0, 1), tone(399, 0, 0, 1), 1)
	checkOrder(t, tone(400, 0, 0, 12), tone(33, 0, 0, 1), 1)
	checkOrder(t, tone(400, 0, 0, 12), tone(34, 0, 0, 1), -1)
	checkOrder(t, tone(0, 400, -400, 12), tone(0, 400, -400, 12), 0)
}

func TestCompareLikeWholeNumbers(t *testing.T) {
	for _, a := range someIntervals() {
		for _, b := range someIntervals() {
			checkOrder(t, a, b, bigOrder(a, b))
		}
	}
}

// The sign of a difference, where it is an interval, is the order.
func TestOrderIsTheSignOfTheDifference(t *testing.T) {
	compared := 0
	for _, a := range someIntervals() {
		for _, b := range someIntervals() {
			if difference, ok := impl.AddIntervals(a, negated(b)); ok {
				checkOrder(t, a, b, impl.SignOf(difference))
				compared++
			}
		}
	}
	if compared < 2000 {
		t.Errorf("only %d differences were compared", compared)
	}
}

func TestOrderOfThree(t *testing.T) {
	list := append(someIntervals(), smallCommas()...)
	orders := make([][]int, len(list))
	for i, a := range list {
		for _, b := range list {
			orders[i] = append(orders[i], impl.CompareIntervals(a, b))
		}
	}
	for i, a := range list {
		for j, b := range list {
			for k, c := range list {
				if orders[i][j] >= 0 && orders[j][k] >= 0 && orders[i][k] != max(orders[i][j], orders[j][k]) {
					t.Errorf("%v, %v and %v are not in order", a, b, c)
				}
			}
		}
	}
}

func TestCompareInvalid(t *testing.T) {
	for _, bad := range invalidIntervals() {
		for _, good := range someIntervals() {
			checkOrder(t, bad, good, 0)
		}
		for _, other := range invalidIntervals() {
			checkOrder(t, bad, other, 0)
		}
	}
	checkOrder(t, tone(401, 0, 0, 1), tone(0, 0, 0, 1), 0)
	checkOrder(t, tone(5, 0, 0, 1), tone(1, 0, 0, 13), 0)
	checkOrder(t, tone(math.MaxInt, 0, 0, 1), tone(math.MinInt, 0, 0, 1), 0)
}

func TestGreatestOf(t *testing.T) {
	fifth, fourth, third := tone(-1, 1, 0, 1), tone(2, -1, 0, 1), tone(-2, 0, 1, 1)
	checkGreatest(t, 0, fifth, fourth, third)
	checkGreatest(t, 1, fourth, fifth, third)
	checkGreatest(t, 2, third, fourth, fifth)
	checkGreatest(t, 1, negated(fifth), tone(0, 0, 0, 3), negated(third))
	checkGreatest(t, 2, negated(fifth), negated(fourth), negated(third))
	checkGreatest(t, 3, tone(0, 0, 1, 4), tone(7, 0, 0, 12), third, fifth)
	checkGreatest(t, 0, tone(1, 0, 0, 11), tone(1, 0, 0, 12), tone(-1, 0, 0, 2))
	checkGreatest(t, 1, tone(5, 5, 2, 11), tone(154, 142, -155, 12), tone(5, 5, 2, 11))
	commas := smallCommas()
	checkGreatest(t, len(commas)-1, commas...)
	slices.Reverse(commas)
	checkGreatest(t, 0, commas...)
}

func TestGreatestOfCounts(t *testing.T) {
	checkGreatest(t, -1)
	checkGreatest(t, -1, []impl.Interval{}...)
	for _, x := range someIntervals() {
		checkGreatest(t, 0, x)
	}
	for count := 1; count <= 20; count++ {
		for greatest := range count {
			list := slices.Repeat([]impl.Interval{tone(-1, 1, 0, 1)}, count)
			list[greatest] = tone(1, 0, 0, 1)
			checkGreatest(t, greatest, list...)
		}
	}
	for _, count := range []int{21, 22, 40, 500} {
		checkGreatest(t, -1, slices.Repeat([]impl.Interval{tone(-1, 1, 0, 1)}, count)...)
	}
}

func TestGreatestOfEqualOnes(t *testing.T) {
	checkGreatest(t, 0, slices.Repeat([]impl.Interval{tone(-1, 1, 0, 1)}, 20)...)
	checkGreatest(t, 1, tone(1, 0, 0, 3), tone(1, 0, 0, 2), tone(2, 0, 0, 4), tone(6, 0, 0, 12))
	checkGreatest(t, 1, tone(1, 0, 0, 3), tone(6, 0, 0, 12), tone(1, 0, 0, 2), tone(0, 0, 0, 1), tone(2, 0, 0, 4))
	checkGreatest(t, 2, tone(-1, 0, 0, 1), tone(-3, 2, 0, 7), tone(-9, 6, 0, 9), tone(-3, 2, 0, 3), tone(-12, 8, 0, 12))
	checkGreatest(t, 1, tone(-1, 0, 0, 12), tone(0, 0, 0, 5), tone(0, 0, 0, 1), tone(0, 0, 0, 12))
}

// Each window of twenty intervals is turned, so that the greatest one comes to every place.
func TestGreatestOfLikeWholeNumbers(t *testing.T) {
	all := someIntervals()
	for start := 0; start+20 <= len(all); start += 10 {
		for turn := range 20 {
			window := all[start : start+20]
			list := slices.Concat(window[turn:], window[:turn])
			want := 0
			for i, x := range list {
				if bigOrder(x, list[want]) > 0 {
					want = i
				}
			}
			checkGreatest(t, want, list...)
		}
	}
}

func TestGreatestOfInvalid(t *testing.T) {
	for _, bad := range invalidIntervals() {
		for _, count := range []int{1, 2, 7, 20, 21} {
			for place := range count {
				list := slices.Repeat([]impl.Interval{tone(1, 0, 0, 2)}, count)
				list[count-1] = tone(-1, 0, 0, 1)
				list[place] = bad
				checkGreatest(t, -1, list...)
			}
			checkGreatest(t, -1, slices.Repeat([]impl.Interval{bad}, count)...)
		}
	}
}

func TestGreatestOfLeavesItsArgument(t *testing.T) {
	backing := append(someIntervals()[:20], invalidIntervals()...)
	want := slices.Clone(backing)
	for count := range backing {
		impl.GreatestOf(backing[:count])
	}
	if !slices.Equal(backing, want) {
		t.Error("GreatestOf changed its argument or the capacity behind it")
	}
}

func TestSameSize(t *testing.T) {
	checkSame(t, tone(2, 0, 0, 4), tone(1, 0, 0, 2), true)
	checkSame(t, tone(-1, 1, 0, 1), tone(-12, 12, 0, 12), true)
	checkSame(t, tone(-8, 8, 4, 12), tone(-4, 4, 2, 6), true)
	checkSame(t, tone(6, 9, 12, 9), tone(4, 6, 8, 6), true)
	checkSame(t, tone(400, -400, 400, 10), tone(40, -40, 40, 1), true)
	checkSame(t, tone(0, 0, 0, 12), tone(0, 0, 0, 1), true)
	checkSame(t, tone(-1, 1, 0, 1), tone(2, -1, 0, 1), false)
	checkSame(t, tone(-1, 1, 0, 1), tone(1, -1, 0, 1), false)
	checkSame(t, tone(-1, 1, 0, 1), tone(-1, 1, 0, 2), false)
	checkSame(t, tone(2, 0, 0, 4), tone(2, 0, 0, 3), false)
	checkSame(t, tone(1, 0, 0, 2), tone(0, 1, 0, 2), false)
	checkSame(t, tone(0, 1, 0, 2), tone(0, 0, 1, 2), false)
	checkSame(t, tone(400, 0, 0, 12), tone(100, 0, 0, 3), true)
	checkSame(t, tone(400, 0, 0, 12), tone(400, 0, 0, 11), false)
	for root := 1; root <= 12; root++ {
		checkSame(t, tone(0, 0, 0, root), tone(0, 0, 0, 1), true)
		checkSame(t, tone(root, -2*root, 3*root, root), tone(1, -2, 3, 1), true)
	}
	// Commas differ from the prime, however small they are.
	for _, x := range smallCommas() {
		checkSame(t, x, tone(0, 0, 0, 1), false)
	}
	checkSame(t, tone(5, 5, 2, 11), tone(154, 142, -155, 12), false)
}

func TestSameSizeJustIfSimplestFormsAreTheSame(t *testing.T) {
	list := slices.Concat(someIntervals(), smallCommas(), longIntervals())
	same := 0
	for _, a := range list {
		for _, b := range list {
			want := impl.SimplestOf(a) == impl.SimplestOf(b)
			if want {
				same++
			}
			checkSame(t, a, b, want)
			if got := impl.CompareIntervals(a, b) == 0; got != want {
				t.Errorf("CompareIntervals(%v, %v) is 0: %v", a, b, got)
			}
		}
	}
	if same < len(list)+20 {
		t.Errorf("only %d pairs had the same size", same)
	}
}

func TestOtherFormsHaveTheSameSize(t *testing.T) {
	forms := 0
	for _, x := range slices.Concat(someIntervals(), smallCommas()) {
		for _, form := range otherForms(x) {
			forms++
			checkSame(t, x, form, true)
			checkOrder(t, x, form, 0)
			checkBetween(t, x, form, form, true)
			checkGreatest(t, 0, x, form)
			for _, other := range smallCommas() {
				checkOrder(t, form, other, impl.CompareIntervals(x, other))
			}
		}
	}
	if forms < 150 {
		t.Errorf("only %d forms were compared", forms)
	}
}

func TestSameSizeInvalid(t *testing.T) {
	for _, bad := range invalidIntervals() {
		checkSame(t, bad, bad, false)
		for _, good := range someIntervals() {
			checkSame(t, bad, good, false)
		}
		for _, other := range invalidIntervals() {
			checkSame(t, bad, other, false)
		}
	}
}

func TestIsBetween(t *testing.T) {
	fifth, fourth, third := tone(-1, 1, 0, 1), tone(2, -1, 0, 1), tone(-2, 0, 1, 1)
	checkBetween(t, fourth, third, fifth, true)
	checkBetween(t, third, fourth, fifth, false)
	checkBetween(t, fifth, third, fourth, false)
	checkBetween(t, tone(0, 0, 0, 9), negated(third), third, true)
	checkBetween(t, negated(fourth), negated(fifth), negated(third), true)
	checkBetween(t, negated(fifth), negated(fourth), negated(third), false)
	checkBetween(t, tone(7, 0, 0, 12), tone(0, 0, 1, 4), fifth, true)
	checkBetween(t, tone(0, 0, 1, 4), tone(7, 0, 0, 12), fifth, false)
	checkBetween(t, tone(-4, 4, -1, 1), tone(11, -4, -2, 1), tone(-19, 12, 0, 1), true)
	checkBetween(t, tone(400, -400, 400, 12), tone(-400, 400, -400, 12), tone(400, 400, 400, 11), true)
}

func TestIsBetweenAtBothEnds(t *testing.T) {
	fifth, third := tone(-1, 1, 0, 1), tone(-2, 0, 1, 1)
	checkBetween(t, third, third, fifth, true)
	checkBetween(t, fifth, third, fifth, true)
	checkBetween(t, tone(-4, 0, 2, 2), third, fifth, true)
	checkBetween(t, tone(-12, 12, 0, 12), third, fifth, true)
	checkBetween(t, third, tone(-10, 0, 5, 5), fifth, true)
	// Beyond an end by a small comma.
	checkBetween(t, tone(-2+140, -374, 1+195, 1), third, fifth, true)
	checkBetween(t, tone(-2-140, 374, 1-195, 1), third, fifth, false)
	checkBetween(t, tone(-1+140, 1-374, 195, 1), third, fifth, false)
	checkBetween(t, tone(-1-140, 1+374, -195, 1), third, fifth, true)
	for root := 1; root <= 12; root++ {
		checkBetween(t, tone(0, 0, 0, root), tone(0, 0, 0, 1), tone(0, 0, 0, 12), true)
		checkBetween(t, tone(1, 0, 0, root), tone(1, 0, 0, root), tone(1, 0, 0, root), true)
	}
}

func TestIsBetweenLowAboveHigh(t *testing.T) {
	fifth, fourth, third := tone(-1, 1, 0, 1), tone(2, -1, 0, 1), tone(-2, 0, 1, 1)
	checkBetween(t, fourth, fifth, third, false)
	checkBetween(t, fifth, fifth, third, false)
	checkBetween(t, third, fifth, third, false)
	checkBetween(t, tone(1, 0, 0, 1), fifth, third, false)
	checkBetween(t, tone(0, 0, 0, 1), fifth, third, false)
}

func TestIsBetweenLikeWholeNumbers(t *testing.T) {
	list := slices.Concat(smallCommas(), someIntervals()[20:40])
	for _, x := range list {
		for _, low := range list {
			for _, high := range list {
				checkBetween(t, x, low, high, bigOrder(x, low) >= 0 && bigOrder(x, high) <= 0)
			}
		}
	}
}

func TestIsBetweenInvalid(t *testing.T) {
	low, x, high := tone(-1, 0, 0, 1), tone(0, 0, 0, 1), tone(1, 0, 0, 1)
	checkBetween(t, x, low, high, true)
	for _, bad := range invalidIntervals() {
		checkBetween(t, bad, low, high, false)
		checkBetween(t, x, bad, high, false)
		checkBetween(t, x, low, bad, false)
		checkBetween(t, x, bad, bad, false)
		checkBetween(t, bad, bad, high, false)
		checkBetween(t, bad, low, bad, false)
		checkBetween(t, bad, bad, bad, false)
	}
}
