package tests

import (
	"math"
	"slices"
	"testing"

	"loop.example/g00989/impl"
)

// shifted adds octaves to x and keeps its form, so the result may be not valid.
func shifted(x impl.Interval, octaves int) impl.Interval {
	return tone(x.Two+octaves*x.Root, x.Three, x.Five, x.Root)
}

// isWithin tells, with whole numbers of math/big, whether x is not less than the prime and less than an octave.
func isWithin(x impl.Interval) bool {
	return bigOrder(x, tone(0, 0, 0, 1)) >= 0 && bigOrder(x, tone(1, 0, 0, 1)) < 0
}

// octavesOf finds the octaves by an estimate with floats, which is then set right with whole numbers.
func octavesOf(x impl.Interval) int {
	size := (float64(x.Two) + float64(x.Three)*math.Log2(3) + float64(x.Five)*math.Log2(5)) / float64(x.Root)
	octaves := int(math.Floor(size))
	for bigOrder(shifted(x, -octaves), tone(0, 0, 0, 1)) < 0 {
		octaves--
	}
	for bigOrder(shifted(x, -octaves), tone(1, 0, 0, 1)) >= 0 {
		octaves++
	}
	return octaves
}

// endIntervals have every power at an end, next to one, or near the prime.
func endIntervals(roots ...int) []impl.Interval {
	powers := []int{-400, -399, -1, 0, 1, 399, 400}
	var list []impl.Interval
	for _, root := range roots {
		for _, two := range powers {
			for _, three := range powers {
				for _, five := range powers {
					list = append(list, tone(two, three, five, root))
				}
			}
		}
	}
	return list
}

// plainIntervals are of both directions and of every root, and many of them are of several octaves.
func plainIntervals() []impl.Interval {
	var list []impl.Interval
	for two := -9; two <= 9; two += 3 {
		for three := -6; three <= 6; three += 2 {
			for five := -4; five <= 4; five++ {
				for root := 1; root <= 12; root++ {
					list = append(list, tone(two, three, five, root))
				}
			}
		}
	}
	return list
}

func checkOctaves(t *testing.T, x impl.Interval, want int) {
	t.Helper()
	if got := impl.OctavesIn(x); got != want {
		t.Errorf("OctavesIn(%v) = %d; want %d", x, got, want)
	}
}

func checkWithin(t *testing.T, x, want impl.Interval, wantOk bool) {
	t.Helper()
	if got, ok := impl.WithinOctave(x); got != want || ok != wantOk {
		t.Errorf("WithinOctave(%v) = %v, %v; want %v, %v", x, got, ok, want, wantOk)
	}
}

func checkWithinFails(t *testing.T, x impl.Interval) {
	t.Helper()
	checkWithin(t, x, impl.Interval{}, false)
}

// checkWithinLikeFractions tells whether WithinOctave succeeded.
func checkWithinLikeFractions(t *testing.T, x impl.Interval) bool {
	t.Helper()
	want, ok := exponentsOf(shifted(x, -octavesOf(x))).simplest()
	checkWithin(t, x, want, ok)
	return ok
}

func checkInverse(t *testing.T, x, want impl.Interval, wantOk bool) {
	t.Helper()
	if got, ok := impl.InvertInterval(x); got != want || ok != wantOk {
		t.Errorf("InvertInterval(%v) = %v, %v; want %v, %v", x, got, ok, want, wantOk)
	}
}

func checkInverseFails(t *testing.T, x impl.Interval) {
	t.Helper()
	checkInverse(t, x, impl.Interval{}, false)
}

func checkClass(t *testing.T, a, b impl.Interval, want bool) {
	t.Helper()
	if got := impl.SamePitchClass(a, b); got != want {
		t.Errorf("SamePitchClass(%v, %v) = %v", a, b, got)
	}
	if got := impl.SamePitchClass(b, a); got != want {
		t.Errorf("SamePitchClass(%v, %v) = %v", b, a, got)
	}
}

func TestOctavesIn(t *testing.T) {
	checkOctaves(t, tone(-1, 1, 0, 1), 0)
	checkOctaves(t, tone(0, 1, 0, 1), 1)
	checkOctaves(t, tone(0, 0, 1, 1), 2)
	checkOctaves(t, tone(0, 1, 1, 1), 3)
	checkOctaves(t, tone(0, 4, 0, 1), 6)
	checkOctaves(t, tone(7, 0, -1, 1), 4)
	checkOctaves(t, tone(-3, 12, 0, 1), 16)
	checkOctaves(t, tone(0, 1, 0, 2), 0)
	checkOctaves(t, tone(0, 3, 0, 2), 2)
	checkOctaves(t, tone(7, 0, 0, 2), 3)
	checkOctaves(t, tone(0, 0, 7, 4), 4)
	checkOctaves(t, tone(5, 7, -3, 3), 3)
	checkOctaves(t, tone(100, 0, 0, 12), 8)
	checkOctaves(t, tone(0, 100, 100, 12), 32)
}

// An interval downwards has the octaves below it, not those that are nearer to the prime.
func TestOctavesInDownwards(t *testing.T) {
	checkOctaves(t, tone(0, -1, 0, 1), -2)
	checkOctaves(t, tone(0, 0, -1, 1), -3)
	checkOctaves(t, tone(0, -4, 0, 1), -7)
	checkOctaves(t, tone(-7, 0, 1, 1), -5)
	checkOctaves(t, tone(0, -3, 0, 2), -3)
	checkOctaves(t, tone(-7, 0, 0, 2), -4)
	checkOctaves(t, tone(-100, 0, 0, 12), -9)
	checkOctaves(t, tone(0, -100, -100, 12), -33)
	// Less than one octave below the prime.
	checkOctaves(t, tone(1, -1, 0, 1), -1)
	checkOctaves(t, tone(0, 1, -1, 1), -1)
	checkOctaves(t, tone(19, -12, 0, 1), -1)
	checkOctaves(t, tone(0, -1, 0, 2), -1)
	for root := 2; root <= 12; root++ {
		checkOctaves(t, tone(-1, 0, 0, root), -1)
		checkOctaves(t, tone(1-root, 0, 0, root), -1)
		checkOctaves(t, tone(-1-root, 0, 0, root), -2)
	}
}

func TestOctavesInWholeOctaves(t *testing.T) {
	for root := 1; root <= 12; root++ {
		for n := -400 / root; n <= 400/root; n++ {
			checkOctaves(t, tone(n*root, 0, 0, root), n)
			if n*root < 400 && root > 1 {
				checkOctaves(t, tone(n*root+1, 0, 0, root), n)
			}
			if n*root > -400 {
				checkOctaves(t, tone(n*root-1, 0, 0, root), n-1)
			}
		}
	}
}

func TestOctavesInNextToOctaves(t *testing.T) {
	for _, comma := range smallCommas() {
		for n := -20; n <= 20; n++ {
			for root := 1; root <= 12; root++ {
				above := shifted(tone(comma.Two, comma.Three, comma.Five, root), n)
				below := shifted(negated(tone(comma.Two, comma.Three, comma.Five, root)), n)
				if impl.IntervalOk(above) {
					checkOctaves(t, above, n)
				}
				if impl.IntervalOk(below) {
					checkOctaves(t, below, n-1)
				}
			}
		}
	}
}

func TestOctavesAtTheEnds(t *testing.T) {
	checkOctaves(t, tone(400, 400, 400, 1), 1962)
	checkOctaves(t, tone(-400, -400, -400, 1), -1963)
	checkOctaves(t, tone(400, 400, 400, 12), 163)
	checkOctaves(t, tone(-400, -400, -400, 12), -164)
	checkOctaves(t, tone(0, 400, 0, 1), 633)
	checkOctaves(t, tone(0, 0, -400, 12), -78)
	checkOctaves(t, tone(400, 0, 0, 1), 400)
	checkOctaves(t, tone(-400, 0, 0, 1), -400)
	checkOctaves(t, tone(400, 0, 0, 12), 33)
	checkOctaves(t, tone(-400, 0, 0, 12), -34)
	for _, x := range endIntervals(1, 2, 7, 11, 12) {
		checkOctaves(t, x, octavesOf(x))
	}
}

func TestOctavesLikeWholeNumbers(t *testing.T) {
	for _, x := range slices.Concat(plainIntervals(), someIntervals(), longIntervals()) {
		want := octavesOf(x)
		checkOctaves(t, x, want)
		for _, form := range otherForms(x) {
			checkOctaves(t, form, want)
		}
	}
}

func TestOctavesInInvalid(t *testing.T) {
	for _, x := range invalidIntervals() {
		checkOctaves(t, x, 0)
	}
	// These have octaves if they are not checked.
	for _, n := range []int{401, 402, 4800, math.MaxInt} {
		for _, x := range []impl.Interval{tone(n, 0, 0, 1), tone(0, n, 0, 1), tone(0, 0, n, 1), tone(n, n, n, 12), tone(26, 0, 0, 13), tone(5, 0, 0, -1), tone(5, 0, 0, 0)} {
			checkOctaves(t, x, 0)
			checkOctaves(t, negated(x), 0)
		}
	}
}

func TestWithinOctave(t *testing.T) {
	checkWithin(t, tone(0, 1, 0, 1), tone(-1, 1, 0, 1), true)
	checkWithin(t, tone(0, 0, 1, 1), tone(-2, 0, 1, 1), true)
	checkWithin(t, tone(0, 2, 0, 1), tone(-3, 2, 0, 1), true)
	checkWithin(t, tone(-12, 12, 0, 1), tone(-19, 12, 0, 1), true)
	checkWithin(t, tone(9, 0, 0, 2), tone(1, 0, 0, 2), true)
	checkWithin(t, tone(17, 0, 0, 12), tone(5, 0, 0, 12), true)
	checkWithin(t, tone(0, 0, 7, 4), tone(-16, 0, 7, 4), true)
	checkWithin(t, tone(0, 3, 0, 2), tone(-4, 3, 0, 2), true)
	// Already within an octave.
	checkWithin(t, tone(-1, 1, 0, 1), tone(-1, 1, 0, 1), true)
	checkWithin(t, tone(7, 0, 0, 12), tone(7, 0, 0, 12), true)
	checkWithin(t, tone(0, 0, 1, 4), tone(0, 0, 1, 4), true)
}

func TestWithinOctaveDownwards(t *testing.T) {
	checkWithin(t, tone(0, -1, 0, 1), tone(2, -1, 0, 1), true)
	checkWithin(t, tone(1, -1, 0, 1), tone(2, -1, 0, 1), true)
	checkWithin(t, tone(0, 0, -1, 1), tone(3, 0, -1, 1), true)
	checkWithin(t, tone(0, 1, -1, 1), tone(1, 1, -1, 1), true)
	checkWithin(t, tone(12, -12, 0, 1), tone(20, -12, 0, 1), true)
	checkWithin(t, tone(-1, 0, 0, 12), tone(11, 0, 0, 12), true)
	checkWithin(t, tone(-9, 0, 0, 2), tone(1, 0, 0, 2), true)
	checkWithin(t, tone(0, -1, 0, 2), tone(2, -1, 0, 2), true)
	checkWithin(t, tone(0, 0, -7, 4), tone(20, 0, -7, 4), true)
}

func TestWithinOctaveIsSimplest(t *testing.T) {
	checkWithin(t, tone(0, 12, 0, 12), tone(-1, 1, 0, 1), true)
	checkWithin(t, tone(6, 6, 0, 6), tone(-1, 1, 0, 1), true)
	checkWithin(t, tone(-8, 8, 4, 12), tone(-5, 2, 1, 3), true)
	checkWithin(t, tone(30, 0, 0, 12), tone(1, 0, 0, 2), true)
	checkWithin(t, tone(-8, 0, 0, 12), tone(1, 0, 0, 3), true)
	checkWithin(t, tone(0, -9, -9, 9), tone(4, -1, -1, 1), true)
}

func TestWithinOctaveWholeOctaves(t *testing.T) {
	prime := tone(0, 0, 0, 1)
	for root := 1; root <= 12; root++ {
		for n := -400 / root; n <= 400/root; n++ {
			checkWithin(t, tone(n*root, 0, 0, root), prime, true)
		}
	}
}

func TestWithinOctaveNextToOctaves(t *testing.T) {
	for _, comma := range smallCommas() {
		for n := -20; n <= 20; n++ {
			above, below := shifted(comma, n), shifted(negated(comma), n)
			if impl.IntervalOk(above) {
				checkWithin(t, above, comma, true)
			}
			if impl.IntervalOk(below) {
				checkWithin(t, below, shifted(negated(comma), 1), true)
			}
		}
	}
}

// The power of 2 is the only one that octaves change, so it alone can leave the limit.
func TestWithinOctaveAtTheEnds(t *testing.T) {
	checkWithin(t, tone(0, 253, 0, 1), tone(-400, 253, 0, 1), true)
	checkWithinFails(t, tone(0, 252, 1, 1))
	checkWithinFails(t, tone(0, 254, 0, 1))
	checkWithin(t, tone(0, -252, 0, 1), tone(400, -252, 0, 1), true)
	checkWithinFails(t, tone(0, -253, 0, 1))
	checkWithin(t, tone(400, 253, 0, 1), tone(-400, 253, 0, 1), true)
	checkWithin(t, tone(-400, -252, 0, 1), tone(400, -252, 0, 1), true)
	checkWithin(t, tone(-400, 253, 0, 1), tone(-400, 253, 0, 1), true)
	checkWithinFails(t, tone(-400, 254, 0, 1))
	checkWithinFails(t, tone(400, 400, 400, 1))
	checkWithinFails(t, tone(-400, -400, -400, 1))
	checkWithinFails(t, tone(400, 400, 400, 11))
	checkWithinFails(t, tone(-400, -400, -400, 11))
	checkWithin(t, tone(400, 0, 0, 12), tone(1, 0, 0, 3), true)
	checkWithin(t, tone(-400, 0, 0, 12), tone(2, 0, 0, 3), true)
	checkWithin(t, tone(400, -400, 400, 1), shifted(tone(400, -400, 400, 1), -694), true)
}

// The power of 2 is beyond the limit until the interval is divided.
func TestWithinOctaveValidOnlyWhenSimplest(t *testing.T) {
	checkWithin(t, tone(400, 400, 400, 8), tone(-195, 50, 50, 1), true)
	checkWithin(t, tone(-400, -400, -400, 8), tone(196, -50, -50, 1), true)
	checkWithin(t, tone(0, 400, 0, 2), tone(-316, 200, 0, 1), true)
	checkWithin(t, tone(0, 0, -400, 10), tone(93, 0, -40, 1), true)
	checkWithinFails(t, tone(0, 399, 0, 2))
	checkWithinFails(t, tone(1, 400, 0, 2))
}

func TestWithinOctaveLikeFractions(t *testing.T) {
	succeeded, failed := 0, 0
	for _, x := range slices.Concat(plainIntervals(), someIntervals(), longIntervals(), smallCommas(), endIntervals(1, 2, 4, 7, 8, 11, 12)) {
		if checkWithinLikeFractions(t, x) {
			succeeded++
		} else {
			failed++
		}
	}
	if succeeded < 1000 || failed < 500 {
		t.Errorf("%d intervals were brought within an octave, %d were not", succeeded, failed)
	}
}

// Each interval that is within an octave is tried with all its octaves and all its forms.
func TestWithinOctaveEveryForm(t *testing.T) {
	forms := 0
	for _, x := range slices.Concat(plainIntervals(), smallCommas()) {
		want, ok := exponentsOf(shifted(x, -octavesOf(x))).simplest()
		if !ok {
			t.Fatal("no reference for", x)
		}
		for _, n := range []int{-30, -2, -1, 0, 1, 2, 30} {
			for _, form := range otherForms(shifted(want, n)) {
				checkWithin(t, form, want, true)
				forms++
			}
		}
	}
	if forms < 10000 {
		t.Errorf("only %d forms were tried", forms)
	}
}

func TestEveryIntervalIsWithinOneOctave(t *testing.T) {
	prime, octave := tone(0, 0, 0, 1), tone(1, 0, 0, 1)
	for _, x := range slices.Concat(plainIntervals(), someIntervals(), smallCommas()) {
		y, ok := impl.WithinOctave(x)
		if !ok {
			if checkWithinLikeFractions(t, x) {
				t.Errorf("WithinOctave(%v) failed", x)
			}
			continue
		}
		if !isWithin(y) || impl.CompareIntervals(y, prime) < 0 || impl.CompareIntervals(y, octave) >= 0 {
			t.Errorf("WithinOctave(%v) = %v, which is not within an octave", x, y)
		}
		if y != impl.SimplestOf(y) {
			t.Errorf("WithinOctave(%v) = %v, which is not simplest", x, y)
		}
		checkOctaves(t, y, 0)
		checkWithin(t, y, y, true)
		// As fractions, because the octaves alone can be beyond the limit.
		again, againOk := exponentsOf(shifted(y, impl.OctavesIn(x))).simplest()
		if again != impl.SimplestOf(x) || !againOk {
			t.Errorf("WithinOctave(%v) = %v, which with %d octaves is %v", x, y, impl.OctavesIn(x), again)
		}
		if octaves, octavesOk := impl.TimesInterval(octave, impl.OctavesIn(x)); octavesOk {
			checkSum(t, y, octaves, impl.SimplestOf(x), true)
		}
	}
}

func TestWithinOctaveInvalid(t *testing.T) {
	for _, x := range invalidIntervals() {
		checkWithinFails(t, x)
	}
	// These would become valid if they were not checked first.
	checkWithinFails(t, tone(401, 0, 0, 1))
	checkWithinFails(t, tone(-401, 1, 0, 1))
	checkWithinFails(t, tone(0, 402, 0, 2))
	checkWithinFails(t, tone(26, 13, 0, 13))
	checkWithinFails(t, tone(math.MaxInt, 0, 0, 1))
	checkWithinFails(t, tone(math.MinInt, 0, 0, 2))
}

func TestInvertInterval(t *testing.T) {
	checkInverse(t, tone(-1, 1, 0, 1), tone(2, -1, 0, 1), true)
	checkInverse(t, tone(2, -1, 0, 1), tone(-1, 1, 0, 1), true)
	checkInverse(t, tone(-2, 0, 1, 1), tone(3, 0, -1, 1), true)
	checkInverse(t, tone(7, 0, 0, 12), tone(5, 0, 0, 12), true)
	checkInverse(t, tone(0, 0, 1, 4), tone(4, 0, -1, 4), true)
	checkInverse(t, tone(0, 0, 0, 1), tone(1, 0, 0, 1), true)
	checkInverse(t, tone(1, 0, 0, 1), tone(0, 0, 0, 1), true)
	// The inverse is simplest.
	checkInverse(t, tone(2, 0, 0, 12), tone(5, 0, 0, 6), true)
	checkInverse(t, tone(6, 0, 0, 12), tone(1, 0, 0, 2), true)
	checkInverse(t, tone(-12, 12, 0, 12), tone(2, -1, 0, 1), true)
	checkInverse(t, tone(0, 0, 0, 7), tone(1, 0, 0, 1), true)
	checkInverse(t, tone(7, 0, 0, 7), tone(0, 0, 0, 1), true)
}

// An interval that is not within an octave is inverted as it is.
func TestInvertIntervalBeyondAnOctave(t *testing.T) {
	checkInverse(t, tone(0, 1, 0, 1), tone(1, -1, 0, 1), true)
	checkInverse(t, tone(0, 0, 1, 1), tone(1, 0, -1, 1), true)
	checkInverse(t, tone(3, 0, 0, 1), tone(-2, 0, 0, 1), true)
	checkInverse(t, tone(0, -1, 0, 1), tone(1, 1, 0, 1), true)
	checkInverse(t, tone(-2, 0, 0, 1), tone(3, 0, 0, 1), true)
	checkInverse(t, tone(1, -1, 0, 1), tone(0, 1, 0, 1), true)
	checkInverse(t, tone(17, 0, 0, 12), tone(-5, 0, 0, 12), true)
	checkInverse(t, tone(-1, 0, 0, 12), tone(13, 0, 0, 12), true)
}

func TestInvertIntervalAtTheEnds(t *testing.T) {
	checkInverse(t, tone(400, 400, -400, 1), tone(-399, -400, 400, 1), true)
	checkInverse(t, tone(-399, -400, 400, 1), tone(400, 400, -400, 1), true)
	checkInverse(t, tone(400, -399, 400, 12), tone(-388, 399, -400, 12), true)
	for root := 1; root <= 12; root++ {
		checkInverse(t, tone(root-400, 1, -1, root), tone(400, -1, 1, root), true)
		checkInverseFails(t, tone(root-401, 401-2*root, 401-2*root, root))
		checkInverseFails(t, tone(-400, 1, 0, root))
		checkInverseFails(t, tone(-400, 0, -1, root))
		checkInverse(t, tone(0, 400, -400, root), impl.SimplestOf(tone(root, -400, 400, root)), true)
	}
	checkInverseFails(t, tone(-400, 0, 0, 1))
	checkInverseFails(t, tone(-400, 0, 0, 11))
	// Valid only when the inverse is simplest.
	checkInverse(t, tone(-400, 0, 0, 12), tone(103, 0, 0, 3), true)
	checkInverse(t, tone(-400, 400, 400, 10), tone(41, -40, -40, 1), true)
	checkInverse(t, tone(-400, 0, 2, 2), tone(201, 0, -1, 1), true)
	checkInverseFails(t, tone(-400, 0, 1, 2))
	checkInverseFails(t, tone(-399, 0, 2, 2))
}

func TestInversesLikeFractions(t *testing.T) {
	octave := exponentsOf(tone(1, 0, 0, 1))
	succeeded, failed := 0, 0
	for _, x := range slices.Concat(plainIntervals(), someIntervals(), longIntervals(), smallCommas(), endIntervals(1, 2, 7, 12)) {
		want, ok := octave.plus(exponentsOf(negated(x))).simplest()
		checkInverse(t, x, want, ok)
		if !ok {
			failed++
			continue
		}
		succeeded++
		checkSum(t, x, want, tone(1, 0, 0, 1), true)
		checkInverse(t, want, impl.SimplestOf(x), true)
	}
	if succeeded < 3000 || failed < 100 {
		t.Errorf("%d intervals were inverted, %d were not", succeeded, failed)
	}
}

// The inverse of an interval within an octave, other than the prime, is within an octave too.
func TestInversesWithinAnOctave(t *testing.T) {
	inverted := 0
	for _, x := range slices.Concat(plainIntervals(), smallCommas()) {
		y, ok := impl.WithinOctave(x)
		if !ok || y == tone(0, 0, 0, 1) {
			continue
		}
		inverse, inverseOk := impl.InvertInterval(y)
		if !inverseOk || !isWithin(inverse) {
			t.Errorf("InvertInterval(%v) = %v, %v", y, inverse, inverseOk)
		}
		checkWithin(t, negated(x), inverse, true)
		checkInverse(t, inverse, y, true)
		inverted++
	}
	if inverted < 3000 {
		t.Errorf("only %d intervals were inverted", inverted)
	}
}

func TestInvertIntervalInvalid(t *testing.T) {
	for _, x := range invalidIntervals() {
		checkInverseFails(t, x)
	}
	// The inverses themselves would be valid.
	checkInverseFails(t, tone(401, 0, 0, 1))
	checkInverseFails(t, tone(402, 0, 0, 2))
	checkInverseFails(t, tone(26, 13, 0, 13))
	checkInverseFails(t, tone(1, 0, 0, -1))
	checkInverseFails(t, tone(math.MinInt, 0, 0, 1))
}

func TestSamePitchClass(t *testing.T) {
	fifth, fourth := tone(-1, 1, 0, 1), tone(2, -1, 0, 1)
	checkClass(t, fifth, fifth, true)
	checkClass(t, fifth, tone(0, 1, 0, 1), true)
	checkClass(t, fifth, tone(-5, 1, 0, 1), true)
	checkClass(t, fifth, tone(5, 1, 0, 1), true)
	checkClass(t, fourth, tone(0, -1, 0, 1), true)
	checkClass(t, tone(0, 0, 0, 1), tone(-7, 0, 0, 1), true)
	checkClass(t, tone(1, 0, 0, 1), tone(0, 0, 0, 9), true)
	checkClass(t, tone(5, 0, 0, 12), tone(-7, 0, 0, 12), true)
	checkClass(t, tone(0, 3, 0, 2), tone(-200, 3, 0, 2), true)
	checkClass(t, fifth, fourth, false)
	checkClass(t, fifth, tone(1, -1, 0, 1), false)
	checkClass(t, fifth, tone(-2, 0, 1, 1), false)
	checkClass(t, fifth, tone(7, 0, 0, 12), false)
	checkClass(t, tone(5, 0, 0, 12), tone(7, 0, 0, 12), false)
	checkClass(t, tone(0, 3, 0, 2), tone(1, 3, 0, 2), false)
	checkClass(t, tone(1, 0, 0, 2), tone(0, 0, 0, 1), false)
	// Twelve fifths, and four fifths and a third, miss the octave by a comma.
	checkClass(t, tone(-12, 12, 0, 1), tone(0, 0, 0, 1), false)
	checkClass(t, tone(-4, 4, 0, 1), tone(-2, 0, 1, 1), false)
}

func TestSamePitchClassOfOtherForms(t *testing.T) {
	checkClass(t, tone(2, 0, 0, 4), tone(3, 0, 0, 2), true)
	checkClass(t, tone(-2, 0, 0, 4), tone(6, 0, 0, 12), true)
	checkClass(t, tone(-12, 12, 0, 12), tone(3, 1, 0, 1), true)
	checkClass(t, tone(2, 0, 0, 4), tone(3, 0, 0, 4), false)
	for _, x := range slices.Concat(someIntervals()[10:], smallCommas()) {
		for _, form := range otherForms(x) {
			checkClass(t, x, form, true)
			for _, n := range []int{-9, -1, 1, 9} {
				if y := shifted(form, n); impl.IntervalOk(y) {
					checkClass(t, x, y, true)
				}
			}
		}
	}
}

func TestSamePitchClassNextToOctaves(t *testing.T) {
	for n := -20; n <= 20; n++ {
		for _, comma := range smallCommas() {
			above, below := shifted(comma, n), shifted(negated(comma), n)
			checkClass(t, above, tone(n, 0, 0, 1), false)
			checkClass(t, below, tone(n, 0, 0, 1), false)
			checkClass(t, above, below, false)
			checkClass(t, above, comma, impl.IntervalOk(above))
			checkClass(t, below, negated(comma), impl.IntervalOk(below))
		}
	}
}

// Two intervals that come within an octave are of one class just if their difference is a number of whole octaves.
func TestSamePitchClassLikeFractions(t *testing.T) {
	list := slices.Concat(someIntervals(), smallCommas(), longIntervals(), endIntervals(8)[:20])
	ok := make([]bool, len(list))
	for i, x := range list {
		_, ok[i] = exponentsOf(shifted(x, -octavesOf(x))).simplest()
	}
	same, different, failed := 0, 0, 0
	for i, a := range list {
		for j, b := range list {
			difference := exponentsOf(a).plus(exponentsOf(negated(b)))
			octaves := difference[0].IsInt() && difference[1].Sign() == 0 && difference[2].Sign() == 0
			checkClass(t, a, b, ok[i] && ok[j] && octaves)
			switch {
			case !ok[i] || !ok[j]:
				failed++
			case octaves:
				same++
			default:
				different++
			}
		}
	}
	if same < 300 || different < 3000 || failed < 500 {
		t.Errorf("%d pairs of one class, %d of different ones, %d that failed", same, different, failed)
	}
}

func TestSamePitchClassWhereWithinOctaveFails(t *testing.T) {
	far, alsoFar, near := tone(0, 254, 0, 1), tone(5, 254, 0, 1), tone(0, 253, 0, 1)
	checkClass(t, near, tone(400, 253, 0, 1), true)
	checkClass(t, far, far, false)
	checkClass(t, far, alsoFar, false)
	checkClass(t, far, near, false)
	checkClass(t, far, tone(0, 0, 0, 1), false)
	checkClass(t, tone(400, 400, 400, 1), tone(-400, -400, -400, 1), false)
	checkClass(t, tone(400, 400, 400, 1), tone(399, 400, 400, 1), false)
	checkClass(t, tone(0, 399, 0, 2), tone(2, 399, 0, 2), false)
	checkClass(t, tone(0, 400, 0, 2), tone(0, 200, 0, 1), true)
}

func TestSamePitchClassInvalid(t *testing.T) {
	for _, bad := range invalidIntervals() {
		checkClass(t, bad, bad, false)
		for _, good := range slices.Concat(someIntervals(), longIntervals()) {
			checkClass(t, bad, good, false)
		}
		for _, other := range invalidIntervals() {
			checkClass(t, bad, other, false)
		}
	}
	// These would be of one class if they were not checked.
	checkClass(t, tone(401, 0, 0, 1), tone(400, 0, 0, 1), false)
	checkClass(t, tone(-401, 1, 0, 1), tone(-400, 1, 0, 1), false)
	checkClass(t, tone(13, 0, 0, 13), tone(0, 0, 0, 1), false)
	checkClass(t, impl.Interval{}, impl.Interval{}, false)
}
