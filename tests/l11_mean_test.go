package tests

import (
	"slices"
	"testing"

	"loop.example/g00989/impl"
)

// part is a fraction of the syntonic comma.
type part struct{ num, den int }

func allParts() []part {
	var list []part
	for den := 1; den <= 12; den++ {
		for num := 0; num <= den; num++ {
			list = append(list, part{num, den})
		}
	}
	return list
}

// invalidParts have a den or a num beyond its range, or both of them.
func invalidParts() []part {
	var list []part
	for _, den := range append(extremeInts(), -13, -12, -4, -1, 0, 13, 14, 16, 24) {
		for _, num := range append(extremeInts(), -13, -12, -4, -1, 0, 1, 2, 3, 4, 12, 13, 14, den-1, den, den+1, den/4) {
			list = append(list, part{num, den})
		}
	}
	for den := 1; den <= 12; den++ {
		for _, num := range append(extremeInts(), -13, -12, -den, -2, -1, den+1, den+2, 13, 14, 1<<32+1) {
			list = append(list, part{num, den})
		}
	}
	return list
}

func invalidTones() []int {
	return append(extremeInts(), -400, -100, -24, -14, -13, 13, 14, 24, 100, 400, 1<<32+4)
}

// narrowFifths are n fifths, in a form that is not the simplest and may be not valid.
func narrowFifths(p part, n int) impl.Interval {
	return tone(n*(4*p.num-p.den), n*(p.den-4*p.num), n*p.num, p.den)
}

func meanToneOf(p part, n int) (impl.Interval, bool) {
	x := narrowFifths(p, n)
	return exponentsOf(shifted(x, -octavesOf(x))).simplest()
}

func checkMeanFifth(t *testing.T, p part, want impl.Interval, wantOk bool) {
	t.Helper()
	if got, ok := impl.MeanFifth(p.num, p.den); got != want || ok != wantOk {
		t.Errorf("MeanFifth(%d, %d) = %v, %v; want %v, %v", p.num, p.den, got, ok, want, wantOk)
	}
}

func checkMeanTone(t *testing.T, p part, n int, want impl.Interval, wantOk bool) {
	t.Helper()
	if got, ok := impl.MeanTone(p.num, p.den, n); got != want || ok != wantOk {
		t.Errorf("MeanTone(%d, %d, %d) = %v, %v; want %v, %v", p.num, p.den, n, got, ok, want, wantOk)
	}
}

func checkMeanThird(t *testing.T, p part, want impl.Interval, wantOk bool) {
	t.Helper()
	if got, ok := impl.MeanThird(p.num, p.den); got != want || ok != wantOk {
		t.Errorf("MeanThird(%d, %d) = %v, %v; want %v, %v", p.num, p.den, got, ok, want, wantOk)
	}
}

func checkWolf(t *testing.T, p part, want impl.Interval, wantOk bool) {
	t.Helper()
	if got, ok := impl.WolfOf(p.num, p.den); got != want || ok != wantOk {
		t.Errorf("WolfOf(%d, %d) = %v, %v; want %v, %v", p.num, p.den, got, ok, want, wantOk)
	}
}

func checkThirdPure(t *testing.T, p part, want bool) {
	t.Helper()
	if got := impl.IsThirdPure(p.num, p.den); got != want {
		t.Errorf("IsThirdPure(%d, %d) = %v", p.num, p.den, got)
	}
}

// checkNoTuning asks for every result of a part that is rejected.
func checkNoTuning(t *testing.T, p part) {
	t.Helper()
	checkMeanFifth(t, p, impl.Interval{}, false)
	checkMeanThird(t, p, impl.Interval{}, false)
	checkWolf(t, p, impl.Interval{}, false)
	checkThirdPure(t, p, false)
	for _, n := range append(invalidTones(), -12, -4, -1, 0, 1, 4, 11, 12) {
		checkMeanTone(t, p, n, impl.Interval{}, false)
	}
}

func foundMeanFifth(t *testing.T, p part) impl.Interval {
	t.Helper()
	fifth, ok := impl.MeanFifth(p.num, p.den)
	if !ok {
		t.Fatalf("there is no fifth for %v", p)
	}
	return fifth
}

func foundMeanTone(t *testing.T, p part, n int) impl.Interval {
	t.Helper()
	note, ok := impl.MeanTone(p.num, p.den, n)
	if !ok {
		t.Fatalf("there is no tone %d for %v", n, p)
	}
	return note
}

func foundWolf(t *testing.T, p part) impl.Interval {
	t.Helper()
	wolf, ok := impl.WolfOf(p.num, p.den)
	if !ok {
		t.Fatalf("there is no wolf for %v", p)
	}
	return wolf
}

func foundMultiple(t *testing.T, x impl.Interval, n int) impl.Interval {
	t.Helper()
	multiple, ok := impl.TimesInterval(x, n)
	if !ok {
		t.Fatalf("%v has no multiple by %d", x, n)
	}
	return multiple
}

func TestMeanFifth(t *testing.T) {
	for _, want := range []struct {
		part
		fifth impl.Interval
	}{
		{part{1, 1}, tone(3, -3, 1, 1)}, {part{1, 2}, tone(2, -2, 1, 2)}, {part{1, 3}, tone(1, -1, 1, 3)}, {part{2, 3}, tone(5, -5, 2, 3)},
		{part{1, 4}, tone(0, 0, 1, 4)}, {part{3, 4}, tone(8, -8, 3, 4)}, {part{1, 5}, tone(-1, 1, 1, 5)}, {part{1, 6}, tone(-2, 2, 1, 6)},
		{part{2, 7}, tone(1, -1, 2, 7)}, {part{1, 8}, tone(-4, 4, 1, 8)}, {part{2, 9}, tone(-1, 1, 2, 9)}, {part{3, 10}, tone(2, -2, 3, 10)},
		{part{1, 11}, tone(-7, 7, 1, 11)}, {part{10, 11}, tone(29, -29, 10, 11)}, {part{1, 12}, tone(-8, 8, 1, 12)}, {part{11, 12}, tone(32, -32, 11, 12)},
	} {
		checkMeanFifth(t, want.part, want.fifth, true)
	}
}

func TestMeanFifthIsNarrowerByThePart(t *testing.T) {
	pure, comma := tone(-1, 1, 0, 1), tone(-4, 4, -1, 1)
	for _, p := range allParts() {
		want, ok := exponentsOf(narrowFifths(p, 1)).simplest()
		if !ok {
			t.Fatalf("the reference has no fifth for %v", p)
		}
		checkMeanFifth(t, p, want, true)
		fifth := foundMeanFifth(t, p)
		// As often as the part goes into the comma, so often the fifths lack it.
		checkSum(t, foundMultiple(t, fifth, p.den), foundMultiple(t, comma, p.num), foundMultiple(t, pure, p.den), true)
		// The same for one fifth, with the part itself.
		checkSum(t, fifth, tone(-4*p.num, 4*p.num, -p.num, p.den), pure, true)
		if impl.SimplestOf(fifth) != fifth {
			t.Errorf("MeanFifth(%d, %d) = %v is not simplest", p.num, p.den, fifth)
		}
	}
}

func TestMeanFifthBecomesNarrower(t *testing.T) {
	for _, a := range allParts() {
		for _, b := range allParts() {
			want := 0
			switch {
			case a.num*b.den < b.num*a.den:
				want = 1
			case a.num*b.den > b.num*a.den:
				want = -1
			}
			checkOrder(t, foundMeanFifth(t, a), foundMeanFifth(t, b), want)
		}
	}
}

func TestMeanToneOfAQuarter(t *testing.T) {
	for _, p := range []part{{1, 4}, {2, 8}, {3, 12}} {
		checkMeanFifth(t, p, tone(0, 0, 1, 4), true)
		for i, want := range []impl.Interval{
			tone(0, 0, 0, 1), tone(0, 0, 1, 4), tone(-2, 0, 1, 2), tone(-4, 0, 3, 4), tone(-2, 0, 1, 1), tone(-8, 0, 5, 4), tone(-6, 0, 3, 2),
			tone(-16, 0, 7, 4), tone(-4, 0, 2, 1), tone(-20, 0, 9, 4), tone(-10, 0, 5, 2), tone(-24, 0, 11, 4), tone(-6, 0, 3, 1),
		} {
			checkMeanTone(t, p, i, want, true)
		}
		for i, want := range []impl.Interval{
			tone(0, 0, 0, 1), tone(4, 0, -1, 4), tone(4, 0, -1, 2), tone(8, 0, -3, 4), tone(3, 0, -1, 1), tone(12, 0, -5, 4), tone(8, 0, -3, 2),
			tone(20, 0, -7, 4), tone(5, 0, -2, 1), tone(24, 0, -9, 4), tone(12, 0, -5, 2), tone(28, 0, -11, 4), tone(7, 0, -3, 1),
		} {
			checkMeanTone(t, p, -i, want, true)
		}
		checkMeanThird(t, p, tone(-2, 0, 1, 1), true)
		checkThirdPure(t, p, true)
		checkWolf(t, p, tone(28, 0, -11, 4), true)
	}
}

func TestMeanToneOfOtherParts(t *testing.T) {
	// A third of the comma has the pure sixth, a fifth of it the pure seventh, and a sixth of it the pure tritone.
	checkMeanTone(t, part{1, 3}, 3, tone(0, -1, 1, 1), true)
	checkMeanTone(t, part{1, 3}, -3, tone(1, 1, -1, 1), true)
	checkMeanTone(t, part{1, 5}, 5, tone(-3, 1, 1, 1), true)
	checkMeanTone(t, part{1, 6}, 6, tone(-5, 2, 1, 1), true)
	checkMeanTone(t, part{1, 6}, 3, tone(-4, 2, 1, 2), true)
	checkMeanTone(t, part{1, 6}, 2, tone(-5, 2, 1, 3), true)
	checkMeanTone(t, part{1, 2}, 2, tone(1, -2, 1, 1), true)
	checkMeanTone(t, part{1, 2}, -2, tone(0, 2, -1, 1), true)
	checkMeanTone(t, part{1, 1}, 12, tone(30, -36, 12, 1), true)
	checkMeanTone(t, part{1, 1}, -12, tone(-29, 36, -12, 1), true)
	checkMeanTone(t, part{2, 7}, -1, tone(6, 1, -2, 7), true)
}

// Twelve fifths are more than seven octaves with the twelfth part, and less with the eleventh one.
func TestMeanToneNextToSevenOctaves(t *testing.T) {
	checkMeanTone(t, part{1, 12}, 12, tone(-15, 8, 1, 1), true)
	checkMeanTone(t, part{1, 12}, -12, tone(16, -8, -1, 1), true)
	checkMeanTone(t, part{1, 11}, 12, tone(-150, 84, 12, 11), true)
	checkMeanTone(t, part{1, 11}, -12, tone(161, -84, -12, 11), true)
	checkOrder(t, foundWolf(t, part{1, 12}), foundMeanFifth(t, part{1, 12}), -1)
	checkOrder(t, foundWolf(t, part{1, 11}), foundMeanFifth(t, part{1, 11}), 1)
}

func TestMeanToneLikeWholeNumbers(t *testing.T) {
	for _, p := range allParts() {
		for n := -12; n <= 12; n++ {
			want, ok := meanToneOf(p, n)
			if !ok || !isWithin(want) {
				t.Fatalf("the reference has the tone %v, %v for %v and %d", want, ok, p, n)
			}
			checkMeanTone(t, p, n, want, true)
		}
	}
}

func TestMeanToneIsWithinOctaveOfItsFifths(t *testing.T) {
	for _, p := range allParts() {
		fifth := foundMeanFifth(t, p)
		up, down := prime(), prime()
		for n := 0; n <= 12; n++ {
			checkWithin(t, foundMultiple(t, fifth, n), foundMeanTone(t, p, n), true)
			checkWithin(t, foundMultiple(t, fifth, -n), foundMeanTone(t, p, -n), true)
			checkWithin(t, up, foundMeanTone(t, p, n), true)
			checkWithin(t, down, foundMeanTone(t, p, -n), true)
			if n > 0 {
				checkInverse(t, foundMeanTone(t, p, n), foundMeanTone(t, p, -n), true)
			}
			// Fifth by fifth, the same tones are reached.
			up, _ = impl.AddIntervals(up, fifth)
			down, _ = impl.AddIntervals(down, negated(fifth))
		}
	}
}

func TestMeanToneOfNoFifthAndOfOne(t *testing.T) {
	for _, p := range allParts() {
		checkMeanTone(t, p, 0, prime(), true)
		checkMeanTone(t, p, 1, foundMeanFifth(t, p), true)
	}
}

func TestMeanTonesAreAdded(t *testing.T) {
	for _, p := range allParts() {
		for a := -6; a <= 6; a++ {
			for b := -6; b <= 6; b++ {
				sum, ok := impl.AddIntervals(foundMeanTone(t, p, a), foundMeanTone(t, p, b))
				if !ok {
					t.Fatalf("the tones %d and %d of %v have no sum", a, b, p)
				}
				checkWithin(t, sum, foundMeanTone(t, p, a+b), true)
			}
		}
	}
}

func TestMeanThird(t *testing.T) {
	checkMeanThird(t, part{0, 1}, tone(-6, 4, 0, 1), true)
	checkMeanThird(t, part{1, 1}, tone(10, -12, 4, 1), true)
	checkMeanThird(t, part{1, 2}, tone(2, -4, 2, 1), true)
	checkMeanThird(t, part{1, 3}, tone(-2, -4, 4, 3), true)
	checkMeanThird(t, part{1, 5}, tone(-14, 4, 4, 5), true)
	checkMeanThird(t, part{1, 6}, tone(-10, 4, 2, 3), true)
	checkMeanThird(t, part{2, 7}, tone(-10, -4, 8, 7), true)
	checkMeanThird(t, part{1, 12}, tone(-14, 8, 1, 3), true)
	checkMeanThird(t, part{11, 12}, tone(26, -32, 11, 3), true)
	for _, p := range allParts() {
		checkMeanThird(t, p, foundMeanTone(t, p, 4), true)
		want, ok := meanToneOf(p, 4)
		checkMeanThird(t, p, want, ok)
		// Four parts of the comma are missing from the third of four pure fifths.
		checkSum(t, want, tone(-16*p.num, 16*p.num, -4*p.num, p.den), tone(-6, 4, 0, 1), true)
	}
}

// A smaller part leaves the third too wide, and a greater one too narrow.
func TestOnlyAQuarterHasPureThirds(t *testing.T) {
	pure, found := tone(-2, 0, 1, 1), 0
	for _, p := range allParts() {
		third, ok := impl.MeanThird(p.num, p.den)
		if !ok {
			t.Fatalf("there is no third for %v", p)
		}
		want := 0
		switch {
		case 4*p.num < p.den:
			want = 1
		case 4*p.num > p.den:
			want = -1
		default:
			found++
		}
		checkOrder(t, third, pure, want)
		checkThirdPure(t, p, want == 0)
		checkThirdPure(t, p, slices.Contains([]part{{1, 4}, {2, 8}, {3, 12}}, p))
	}
	if found != 3 {
		t.Errorf("%d parts are a quarter", found)
	}
}

func TestWolfOf(t *testing.T) {
	for _, want := range []struct {
		part
		wolf impl.Interval
	}{
		{part{0, 1}, tone(18, -11, 0, 1)}, {part{1, 1}, tone(-26, 33, -11, 1)}, {part{1, 2}, tone(-8, 22, -11, 2)}, {part{1, 3}, tone(10, 11, -11, 3)},
		{part{1, 4}, tone(28, 0, -11, 4)}, {part{1, 5}, tone(46, -11, -11, 5)}, {part{1, 6}, tone(64, -22, -11, 6)}, {part{2, 7}, tone(38, 11, -22, 7)},
		// Eleven fifths have no root where the fifth has the eleventh one.
		{part{1, 11}, tone(14, -7, -1, 1)}, {part{10, 11}, tone(-22, 29, -10, 1)},
		{part{1, 12}, tone(172, -88, -11, 12)}, {part{11, 12}, tone(-268, 352, -121, 12)},
	} {
		checkWolf(t, want.part, want.wolf, true)
	}
}

func TestElevenFifthsAndTheWolfAreSevenOctaves(t *testing.T) {
	for _, p := range allParts() {
		fifth, wolf := foundMeanFifth(t, p), foundWolf(t, p)
		checkSum(t, foundMultiple(t, fifth, 11), wolf, tone(7, 0, 0, 1), true)
		sum := prime()
		for range 11 {
			sum, _ = impl.AddIntervals(sum, fifth)
		}
		checkSum(t, sum, wolf, tone(7, 0, 0, 1), true)
		want, ok := exponentsOf(shifted(narrowFifths(p, -11), 7)).simplest()
		if !ok {
			t.Fatalf("the reference has no wolf for %v", p)
		}
		checkWolf(t, p, want, true)
		// Within one octave, the wolf is eleven fifths downwards.
		checkClass(t, wolf, foundMeanTone(t, p, -11), true)
	}
}

// The wolf is narrower than the pure fifth by the pythagorean comma, and wider by the eleven parts that the others lack.
func TestWolfBesideItsFifth(t *testing.T) {
	narrower := exponentsOf(tone(-1, 1, 0, 1)).plus(exponentsOf(tone(19, -12, 0, 1)))
	for _, p := range allParts() {
		want, ok := narrower.plus(exponentsOf(tone(-44*p.num, 44*p.num, -11*p.num, p.den))).simplest()
		checkWolf(t, p, want, ok)
		order := -1
		if 11*p.num >= p.den {
			order = 1
		}
		checkOrder(t, foundWolf(t, p), foundMeanFifth(t, p), order)
	}
}

func TestPureFifthsWithEveryDen(t *testing.T) {
	for den := 1; den <= 12; den++ {
		p := part{0, den}
		checkMeanFifth(t, p, tone(-1, 1, 0, 1), true)
		checkMeanThird(t, p, tone(-6, 4, 0, 1), true)
		checkWolf(t, p, tone(18, -11, 0, 1), true)
		checkThirdPure(t, p, false)
		for n := -12; n <= 12; n++ {
			checkMeanTone(t, p, n, fifthsOf(n), true)
			fifths, ok := impl.Fifths(n)
			checkMeanTone(t, p, n, fifths, ok)
		}
	}
}

func TestWholeCommaWithEveryDen(t *testing.T) {
	for den := 1; den <= 12; den++ {
		p := part{den, den}
		checkMeanFifth(t, p, tone(3, -3, 1, 1), true)
		checkMeanThird(t, p, tone(10, -12, 4, 1), true)
		checkWolf(t, p, tone(-26, 33, -11, 1), true)
		checkMeanTone(t, p, 12, tone(30, -36, 12, 1), true)
		checkMeanTone(t, p, -12, tone(-29, 36, -12, 1), true)
		checkThirdPure(t, p, false)
		checkNoTuning(t, part{den + 1, den})
	}
}

func TestPartsThatCanBeMadeSimpler(t *testing.T) {
	checkMeanFifth(t, part{2, 4}, tone(2, -2, 1, 2), true)
	checkMeanFifth(t, part{6, 12}, tone(2, -2, 1, 2), true)
	checkMeanFifth(t, part{4, 12}, tone(1, -1, 1, 3), true)
	checkMeanThird(t, part{6, 12}, tone(2, -4, 2, 1), true)
	checkWolf(t, part{6, 12}, tone(-8, 22, -11, 2), true)
	checkMeanTone(t, part{2, 12}, 6, tone(-5, 2, 1, 1), true)
	for _, p := range allParts() {
		fifth, wolf := foundMeanFifth(t, p), foundWolf(t, p)
		third := foundMeanTone(t, p, 4)
		for times := 1; times*p.den <= 12; times++ {
			same := part{times * p.num, times * p.den}
			checkMeanFifth(t, same, fifth, true)
			checkMeanThird(t, same, third, true)
			checkWolf(t, same, wolf, true)
			checkThirdPure(t, same, impl.IsThirdPure(p.num, p.den))
			for n := -12; n <= 12; n++ {
				checkMeanTone(t, same, n, foundMeanTone(t, p, n), true)
			}
		}
	}
}

// The greatest powers: twelve fifths with eleven twelfths have them until the root is divided out.
func TestTwelfthParts(t *testing.T) {
	checkMeanTone(t, part{11, 12}, 12, tone(26, -32, 11, 1), true)
	checkMeanTone(t, part{11, 12}, 11, tone(280, -352, 121, 12), true)
	checkMeanTone(t, part{11, 12}, -11, tone(-268, 352, -121, 12), true)
	checkMeanTone(t, part{11, 12}, -12, tone(-25, 32, -11, 1), true)
	checkMeanTone(t, part{10, 11}, 12, tone(282, -348, 120, 11), true)
	checkMeanTone(t, part{10, 11}, -12, tone(-271, 348, -120, 11), true)
	for num := 0; num <= 12; num++ {
		p := part{num, 12}
		for n := -12; n <= 12; n++ {
			want, ok := meanToneOf(p, n)
			checkMeanTone(t, p, n, want, ok)
		}
		eleven := foundMultiple(t, foundMeanFifth(t, p), 11)
		checkSum(t, eleven, foundWolf(t, p), tone(7, 0, 0, 1), true)
		twelve := foundMultiple(t, foundMeanFifth(t, p), 12)
		if want := tone(4*num-12, 12-4*num, num, 1); twelve != want {
			t.Errorf("twelve fifths of %v are %v; want %v", p, twelve, want)
		}
	}
}

// Seven tones in a row have the steps of a major scale, whichever the part is.
func TestScalesOfMeanTones(t *testing.T) {
	for _, p := range allParts() {
		var scale []impl.Interval
		for n := -1; n <= 5; n++ {
			scale = append(scale, foundMeanTone(t, p, n))
		}
		slices.SortFunc(scale, impl.CompareIntervals)
		whole, half := foundMeanTone(t, p, 2), foundMeanTone(t, p, -5)
		checkSteps(t, scale, whole, whole, half, whole, whole, whole, half)
		checkSizes(t, 2, whole, half)
	}
}

// Divisions that hide the syntonic comma cannot tell a mean tone without a root from the fifths that it is made of.
func TestDivisionsOfMeanTones(t *testing.T) {
	found := 0
	for _, n := range impl.DivisionsHiding(tone(-4, 4, -1, 1), 40) {
		m := impl.BestMap(n)
		for _, p := range allParts() {
			for k := -12; k <= 12; k++ {
				x := foundMeanTone(t, p, k)
				if x.Root != 1 {
					continue
				}
				pure := foundSteps(t, m, fifthsOf(k))
				if (foundSteps(t, m, x)-pure)%n != 0 {
					t.Errorf("%v is not %d fifths in %v", x, k, m)
				}
				found++
			}
		}
	}
	if found < 1000 {
		t.Errorf("only %d tones have no root", found)
	}
}

func TestMeanTuningsInvalid(t *testing.T) {
	for _, p := range invalidParts() {
		if p.den >= 1 && p.den <= 12 && p.num >= 0 && p.num <= p.den {
			t.Fatalf("%v is valid", p)
		}
		checkNoTuning(t, p)
	}
	// These are a quarter, nothing or all of the comma, but for the limits.
	for _, p := range []part{{-1, -4}, {-2, -8}, {-3, -12}, {4, 16}, {5, 20}, {1 << 60, 1 << 62}, {0, 0}, {0, -1}, {0, 13}, {13, 13}, {-1, -1}} {
		checkNoTuning(t, p)
	}
}

func TestMeanToneInvalid(t *testing.T) {
	for _, p := range allParts() {
		for _, n := range invalidTones() {
			checkMeanTone(t, p, n, impl.Interval{}, false)
		}
	}
}

// A tuning that was asked for changes no other one, nor does one that was rejected.
func TestMeanTuningsKeepNothing(t *testing.T) {
	for range 3 {
		checkMeanFifth(t, part{1, 4}, tone(0, 0, 1, 4), true)
		checkMeanTone(t, part{1, 3}, 3, tone(0, -1, 1, 1), true)
		checkNoTuning(t, part{5, 4})
		checkMeanTone(t, part{1, 4}, 2, tone(-2, 0, 1, 2), true)
		checkMeanTone(t, part{1, 4}, 13, impl.Interval{}, false)
		checkWolf(t, part{1, 4}, tone(28, 0, -11, 4), true)
		checkThirdPure(t, part{1, 4}, true)
		checkThirdPure(t, part{1, 3}, false)
	}
}
