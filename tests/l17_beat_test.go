package tests

import (
	"math"
	"math/big"
	"slices"
	"testing"

	"loop.example/g00989/impl"
)

const (
	greatest = 1000000000
	// greatestTerm is the limit of MakePitch.
	greatestTerm = 1000000000000000000
)

func pitchOf(num, den int) impl.Pitch { return impl.Pitch{Num: num, Den: den} }

// tried looks for the greatest number that divides both, which are small.
func tried(a, b int) int {
	for n := min(a, b); n > 1; n-- {
		if a%n == 0 && b%n == 0 {
			return n
		}
	}
	return 1
}

func bigDivisor(a, b int) *big.Int {
	return new(big.Int).GCD(nil, nil, big.NewInt(int64(a)), big.NewInt(int64(b)))
}

func ratioOf(num, den int) *big.Rat { return big.NewRat(int64(num), int64(den)) }

// timesRatio needs a valid pitch.
func timesRatio(p impl.Pitch, num, den int) *big.Rat {
	return new(big.Rat).Mul(ratioOf(p.Num, p.Den), ratioOf(num, den))
}

// pitchFrom needs a ratio greater than 0.
func pitchFrom(r *big.Rat) (impl.Pitch, bool) {
	most := big.NewInt(greatest)
	if r.Num().Cmp(most) > 0 || r.Denom().Cmp(most) > 0 {
		return impl.Pitch{}, false
	}
	return pitchOf(int(r.Num().Int64()), int(r.Denom().Int64())), true
}

// termOf is the vibrations of a partial of a in the time that it has in common with b.
func termOf(a, b impl.Pitch, partial int) *big.Int {
	term := new(big.Int).Mul(big.NewInt(int64(partial)), big.NewInt(int64(a.Num)))
	term.Mul(term, big.NewInt(int64(b.Den)))
	return term.Quo(term, bigDivisor(a.Den, b.Den))
}

func isTooGreat(term *big.Int) bool { return term.Cmp(big.NewInt(greatestTerm)) > 0 }

// beatOf needs valid pitches and partials.
func beatOf(a, b impl.Pitch, p, q int) (impl.Pitch, bool) {
	if isTooGreat(termOf(a, b, p)) || isTooGreat(termOf(b, a, q)) {
		return impl.Pitch{}, false
	}
	difference := new(big.Rat).Sub(timesRatio(a, p, 1), timesRatio(b, q, 1))
	if difference.Sign() == 0 {
		return impl.Pitch{}, true
	}
	return pitchFrom(difference.Abs(difference))
}

// endPitches have numbers at the limits, or near to them.
func endPitches() []impl.Pitch {
	return []impl.Pitch{
		pitchOf(1, 1), pitchOf(1, greatest), pitchOf(greatest, 1), pitchOf(1, greatest-1), pitchOf(greatest-1, 1),
		pitchOf(greatest, greatest-1), pitchOf(greatest-1, greatest), pitchOf(greatest-1, greatest-2), pitchOf(greatest-2, greatest-1),
		pitchOf(greatest, 3), pitchOf(3, greatest), pitchOf(greatest-3, greatest), pitchOf(greatest, greatest-3), pitchOf(greatest, 999999937), pitchOf(999999937, greatest),
		pitchOf(1<<29, 387420489), pitchOf(387420489, 1<<29), pitchOf(244140625, 1<<29), pitchOf(1<<29, 244140625), pitchOf(999999937, 999999929), pitchOf(999999929, 999999937),
	}
}

// organPitches are what a tuner hears; many of their Dens have common divisors.
func organPitches() []impl.Pitch {
	return []impl.Pitch{
		pitchOf(440, 1), pitchOf(660, 1), pitchOf(662, 1), pitchOf(880, 1), pitchOf(220, 1), pitchOf(264, 1), pitchOf(330, 1), pitchOf(441, 1), pitchOf(1320, 1), pitchOf(55, 2),
		pitchOf(495, 2), pitchOf(1981, 3), pitchOf(2640, 7), pitchOf(3521, 8), pitchOf(4181, 16), pitchOf(2200, 9), pitchOf(5281, 12), pitchOf(7919, 30), pitchOf(26163, 100), pitchOf(39199, 100), pitchOf(65407, 210), pitchOf(1, 6), pitchOf(5, 6), pitchOf(7, 15),
	}
}

// manyPitches are pseudo-random ones whose numbers are up to a greatest one.
func manyPitches(most, count int) []impl.Pitch {
	var pitches []impl.Pitch
	state := most%2147483646 + 1
	next := func() int {
		state = state * 48271 % 2147483647
		return state%most + 1
	}
	for len(pitches) < count {
		num, den := next(), next()
		if bigDivisor(num, den).Cmp(big.NewInt(1)) == 0 {
			pitches = append(pitches, pitchOf(num, den))
		}
	}
	return pitches
}

func validPitches() []impl.Pitch {
	return slices.Concat(endPitches(), organPitches(), manyPitches(1000, 12), manyPitches(100000, 8), manyPitches(greatest, 12))
}

func invalidPitches() []impl.Pitch {
	var pitches []impl.Pitch
	for _, n := range append(extremeInts(), 0, -1, -2, -440, -greatest, -greatest-1, greatest+1, greatest+2, 2*greatest, greatestTerm, 1<<32+1, -1<<62, 1<<62) {
		for _, other := range []int{1, 2, 3, 440, greatest - 1, greatest} {
			pitches = append(pitches, pitchOf(n, other), pitchOf(other, n))
		}
		pitches = append(pitches, pitchOf(n, n), pitchOf(n, -n), pitchOf(-n, n))
	}
	for _, divisor := range []int{2, 3, 5, 7, 16, 31, 1000, 32749, 250000000, 333333333} {
		for _, p := range []impl.Pitch{pitchOf(1, 1), pitchOf(1, 2), pitchOf(2, 1), pitchOf(3, 2), pitchOf(2, 3), pitchOf(1, 3)} {
			pitches = append(pitches, pitchOf(divisor*p.Num, divisor*p.Den))
		}
	}
	return append(pitches, impl.Pitch{}, pitchOf(greatest, greatest), pitchOf(greatest, 2), pitchOf(2, greatest), pitchOf(greatest-1, 3), pitchOf(880, 2), pitchOf(499999993, 999999986), pitchOf(999999937, 999999937))
}

func noPartials() []int {
	return append(extremeInts(), 0, -1, 17, -16, 18, 32, 100, 1<<32+1, -1<<32+2)
}

func noFactors() []int {
	return append(extremeInts(), 0, -1, 1001, -1000, 1002, 2000, greatest, 1<<32+1, -1<<32+2)
}

func checkPitchOk(t *testing.T, p impl.Pitch, want bool) {
	t.Helper()
	if got := impl.PitchOk(p); got != want {
		t.Errorf("PitchOk(%v) = %v", p, got)
	}
}

func checkMakes(t *testing.T, num, den int, want impl.Pitch, wantOk bool) {
	t.Helper()
	if got, ok := impl.MakePitch(num, den); got != want || ok != wantOk {
		t.Errorf("MakePitch(%d, %d) = %v, %v; want %v, %v", num, den, got, ok, want, wantOk)
	}
}

func checkMakesNone(t *testing.T, num, den int) {
	t.Helper()
	checkMakes(t, num, den, impl.Pitch{}, false)
}

// checkBeat asks both ways.
func checkBeat(t *testing.T, a, b impl.Pitch, p, q int, want impl.Pitch, wantOk bool) {
	t.Helper()
	if got, ok := impl.BeatOf(a, b, p, q); got != want || ok != wantOk {
		t.Errorf("BeatOf(%v, %v, %d, %d) = %v, %v; want %v, %v", a, b, p, q, got, ok, want, wantOk)
	}
	if got, ok := impl.BeatOf(b, a, q, p); got != want || ok != wantOk {
		t.Errorf("BeatOf(%v, %v, %d, %d) = %v, %v; want %v, %v", b, a, q, p, got, ok, want, wantOk)
	}
}

func checkPure(t *testing.T, a, b impl.Pitch, p, q int) {
	t.Helper()
	checkBeat(t, a, b, p, q, impl.Pitch{}, true)
}

func checkNoBeat(t *testing.T, a, b impl.Pitch, p, q int) {
	t.Helper()
	checkBeat(t, a, b, p, q, impl.Pitch{}, false)
}

// checkHigher asks both ways.
func checkHigher(t *testing.T, a, b impl.Pitch, want int) {
	t.Helper()
	if got := impl.ComparePitches(a, b); got != want {
		t.Errorf("ComparePitches(%v, %v) = %d; want %d", a, b, got, want)
	}
	if got := impl.ComparePitches(b, a); got != -want {
		t.Errorf("ComparePitches(%v, %v) = %d; want %d", b, a, got, -want)
	}
}

func checkTimesPitch(t *testing.T, p impl.Pitch, num, den int, want impl.Pitch, wantOk bool) {
	t.Helper()
	if got, ok := impl.TimesPitch(p, num, den); got != want || ok != wantOk {
		t.Errorf("TimesPitch(%v, %d, %d) = %v, %v; want %v, %v", p, num, den, got, ok, want, wantOk)
	}
}

func checkNoTimesPitch(t *testing.T, p impl.Pitch, num, den int) {
	t.Helper()
	checkTimesPitch(t, p, num, den, impl.Pitch{}, false)
}

func TestPitchOk(t *testing.T) {
	for num := 1; num <= 200; num++ {
		for den := 1; den <= 200; den++ {
			checkPitchOk(t, pitchOf(num, den), tried(num, den) == 1)
		}
	}
	for _, p := range slices.Concat(validPitches(), manyPitches(greatest, 500)) {
		checkPitchOk(t, p, true)
		checkPitchOk(t, pitchOf(p.Den, p.Num), true)
	}
}

func TestPitchOkAtTheLimits(t *testing.T) {
	checkPitchOk(t, pitchOf(1, 1), true)
	checkPitchOk(t, pitchOf(greatest, greatest), false)
	for _, other := range []int{1, 3, 7, 440*3 + 1, greatest - 1, greatest - 3} {
		checkPitchOk(t, pitchOf(greatest, other), true)
		checkPitchOk(t, pitchOf(other, greatest), true)
		// With these numbers, nothing but the range is wrong.
		for _, n := range []int{greatest + 1, greatest + 7, 1<<30 + 3} {
			if bigDivisor(n, other).Cmp(big.NewInt(1)) == 0 {
				checkPitchOk(t, pitchOf(n, other), false)
				checkPitchOk(t, pitchOf(other, n), false)
			}
		}
		for _, n := range []int{0, -1, -greatest} {
			checkPitchOk(t, pitchOf(n, other), false)
			checkPitchOk(t, pitchOf(other, n), false)
		}
	}
	checkPitchOk(t, pitchOf(greatest+1, 1), false)
	checkPitchOk(t, pitchOf(1, greatest+1), false)
	checkPitchOk(t, pitchOf(greatest+1, greatest), false)
	checkPitchOk(t, pitchOf(greatest, greatest+1), false)
	if impl.MaxPitch != greatest {
		t.Errorf("MaxPitch = %d", impl.MaxPitch)
	}
}

func TestPitchOkInvalid(t *testing.T) {
	for _, p := range invalidPitches() {
		checkPitchOk(t, p, false)
	}
}

func TestMakePitch(t *testing.T) {
	checkMakes(t, 880, 2, pitchOf(440, 1), true)
	checkMakes(t, 2, 880, pitchOf(1, 440), true)
	checkMakes(t, 440, 440, pitchOf(1, 1), true)
	checkMakes(t, 26163, 100, pitchOf(26163, 100), true)
	checkMakes(t, 12, 18, pitchOf(2, 3), true)
	for num := 1; num <= 200; num++ {
		for den := 1; den <= 200; den++ {
			divisor := tried(num, den)
			checkMakes(t, num, den, pitchOf(num/divisor, den/divisor), true)
		}
	}
}

// knownDivisors leave a product with a number up to most within the limit, the last ones by little.
func knownDivisors(most int) []int {
	limit := greatestTerm / most
	return []int{1, 2, 3, 5, 16, 30, 997, 65536, 999983, min(limit, greatest), min(limit, greatest+7), min(limit, 1<<40), limit / 7, limit - 1, limit}
}

func TestMakePitchWithKnownDivisors(t *testing.T) {
	for _, p := range append(validPitches(), manyPitches(greatest, 200)...) {
		most := max(p.Num, p.Den)
		for _, divisor := range knownDivisors(most) {
			checkMakes(t, divisor*p.Num, divisor*p.Den, p, true)
		}
		beyond := greatestTerm/most + 1
		checkMakesNone(t, beyond*p.Num, beyond*p.Den)
	}
}

func TestMakePitchLikeFractions(t *testing.T) {
	numbers := []int{1, 2, 3, 7, 440, greatest - 1, greatest, greatest + 1, 2 * greatest, 3 * greatest, 1 << 40, greatest * (greatest - 1), greatestTerm/3 + 1, greatestTerm / 2, greatestTerm - greatest, greatestTerm - 2, greatestTerm - 1, greatestTerm}
	made := 0
	for _, num := range numbers {
		for _, den := range numbers {
			want, ok := pitchFrom(ratioOf(num, den))
			checkMakes(t, num, den, want, ok)
			if ok {
				made++
			}
		}
	}
	if made < 80 || made > len(numbers)*len(numbers)-80 {
		t.Errorf("%d pitches are made", made)
	}
}

func TestMakePitchAtTheLimits(t *testing.T) {
	checkMakes(t, 1, 1, pitchOf(1, 1), true)
	checkMakes(t, greatestTerm, greatestTerm, pitchOf(1, 1), true)
	checkMakes(t, greatestTerm, greatest, pitchOf(greatest, 1), true)
	checkMakes(t, greatest, greatestTerm, pitchOf(1, greatest), true)
	checkMakesNone(t, greatestTerm, 1)
	checkMakesNone(t, 1, greatestTerm)
	checkMakesNone(t, greatestTerm, greatestTerm-1)
	checkMakesNone(t, greatestTerm-1, greatestTerm)
	for _, divisor := range []int{1, 2, 3, 1000, 1 << 20, greatest - 1} {
		for _, other := range []int{1, 3, greatest - 1} {
			checkMakes(t, divisor*greatest, divisor*other, pitchOf(greatest, other), true)
			checkMakes(t, divisor*other, divisor*greatest, pitchOf(other, greatest), true)
		}
		for _, other := range []int{1, 2, 3, greatest} {
			checkMakesNone(t, divisor*(greatest+1), divisor*other)
			checkMakesNone(t, divisor*other, divisor*(greatest+1))
		}
	}
	// Just above the limit of both numbers, though the pitch itself would be valid.
	checkMakesNone(t, greatestTerm+1, greatestTerm+1)
	checkMakesNone(t, greatestTerm+greatest, greatest+1)
	checkMakesNone(t, greatestTerm+greatest, greatest)
	checkMakesNone(t, greatest+1, greatestTerm+greatest)
	checkMakesNone(t, greatestTerm+2, (greatestTerm+2)/2)
	checkMakesNone(t, (greatestTerm+2)/2, greatestTerm+2)
}

func TestMakePitchInvalid(t *testing.T) {
	for _, n := range []int{math.MinInt, math.MinInt + 1, -1 << 62, -greatestTerm, -1 << 32, -greatest, -440, -2, -1, 0, greatestTerm + 1, greatestTerm + 2, 2 * greatestTerm, 1 << 62, math.MaxInt - 1, math.MaxInt} {
		for _, other := range []int{1, 2, 440, greatest, greatestTerm, n, n / 2, n / 3, -n} {
			checkMakesNone(t, n, other)
			checkMakesNone(t, other, n)
		}
	}
	checkMakesNone(t, -880, -2)
	checkMakesNone(t, math.MinInt, math.MinInt)
}

func TestMakePitchOfInvalidPitches(t *testing.T) {
	for _, p := range invalidPitches() {
		if min(p.Num, p.Den) < 1 || max(p.Num, p.Den) > greatestTerm {
			checkMakesNone(t, p.Num, p.Den)
			continue
		}
		want, ok := pitchFrom(ratioOf(p.Num, p.Den))
		checkMakes(t, p.Num, p.Den, want, ok)
		if want == p {
			t.Errorf("%v is valid", p)
		}
	}
}

func TestBeatOf(t *testing.T) {
	checkBeat(t, pitchOf(440, 1), pitchOf(662, 1), 3, 2, pitchOf(4, 1), true)
	checkBeat(t, pitchOf(440, 1), pitchOf(658, 1), 3, 2, pitchOf(4, 1), true)
	checkBeat(t, pitchOf(440, 1), pitchOf(441, 1), 1, 1, pitchOf(1, 1), true)
	checkBeat(t, pitchOf(440, 1), pitchOf(441, 1), 16, 16, pitchOf(16, 1), true)
	checkBeat(t, pitchOf(440, 1), pitchOf(1319, 2), 3, 2, pitchOf(1, 1), true)
	checkBeat(t, pitchOf(440, 1), pitchOf(1319, 3), 2, 3, pitchOf(439, 1), true)
	checkBeat(t, pitchOf(495, 2), pitchOf(1981, 3), 8, 3, pitchOf(1, 1), true)
	checkBeat(t, pitchOf(5, 6), pitchOf(7, 15), 1, 1, pitchOf(11, 30), true)
	checkBeat(t, pitchOf(5, 6), pitchOf(7, 15), 1, 2, pitchOf(1, 10), true)
	checkBeat(t, pitchOf(264, 1), pitchOf(26163, 100), 1, 1, pitchOf(237, 100), true)
}

// checkBeatsLikeFractions tries all partials, and returns how many of them beat, are the same, and fail.
func checkBeatsLikeFractions(t *testing.T, a, b impl.Pitch) [3]int {
	t.Helper()
	count := [3]int{}
	for p := 1; p <= 16; p++ {
		for q := 1; q <= 16; q++ {
			want, ok := beatOf(a, b, p, q)
			checkBeat(t, a, b, p, q, want, ok)
			switch {
			case !ok:
				count[2]++
			case want == impl.Pitch{}:
				count[1]++
			default:
				count[0]++
			}
		}
	}
	return count
}

func TestBeatsLikeFractions(t *testing.T) {
	total := [3]int{}
	for _, list := range [][]impl.Pitch{endPitches(), organPitches(), manyPitches(1000, 12), append(manyPitches(31000, 6), endPitches()[:5]...), manyPitches(greatest, 6)} {
		for i, a := range list {
			for _, b := range list[:i+1] {
				for kind, count := range checkBeatsLikeFractions(t, a, b) {
					total[kind] += count
				}
			}
		}
	}
	if total[0] < 50000 || total[1] < 1000 || total[2] < 20000 {
		t.Errorf("beats, equal partials and failures: %v", total)
	}
}

// The Dens are products of the same few numbers, so that their common divisors are great.
func TestBeatsOfCommonDens(t *testing.T) {
	count := 0
	for i, den := range []int{greatest, 1 << 29, 387420489, 2 * 387420489, 244140625, 4 * 244140625, 735134400, 367567200, 698377680, 999999937, 499999993} {
		for _, n := range []int{1, 3, 17, 9973, 999999929} {
			a, aOk := impl.MakePitch(greatest-1-i, den)
			b, bOk := impl.MakePitch(n, den)
			if !aOk || !bOk {
				t.Fatalf("no pitch with %d", den)
			}
			if found := checkBeatsLikeFractions(t, a, b); found[0] > 0 {
				count++
			}
		}
	}
	if count < 50 {
		t.Errorf("only %d pairs of pitches beat", count)
	}
}

// The beat of two partials is that of the pitches which these partials are.
func TestPartialsArePitches(t *testing.T) {
	count := 0
	for _, a := range organPitches() {
		for _, b := range organPitches() {
			for p := 1; p <= 16; p++ {
				q := (p*7+a.Num+b.Num)%16 + 1
				first, firstOk := impl.TimesPitch(a, p, 1)
				second, secondOk := impl.TimesPitch(b, q, 1)
				beat, ok := impl.BeatOf(a, b, p, q)
				if !firstOk || !secondOk || !ok {
					t.Fatalf("partials %d of %v and %d of %v fail", p, a, q, b)
				}
				checkBeat(t, first, second, 1, 1, beat, true)
				if (beat == impl.Pitch{}) != (impl.ComparePitches(first, second) == 0) {
					t.Errorf("%v and %v beat with %v", first, second, beat)
				}
				count++
			}
		}
	}
	if count != 24*24*16 {
		t.Errorf("%d pairs of partials", count)
	}
}

func TestPureFifthsDoNotBeat(t *testing.T) {
	count := 0
	for _, a := range slices.Concat(validPitches(), manyPitches(greatest/3, 300), manyPitches(5000, 300)) {
		b, ok := impl.TimesPitch(a, 3, 2)
		if !ok {
			continue
		}
		count++
		checkPure(t, a, b, 3, 2)
		checkHigher(t, a, b, -1)
	}
	if count < 600 {
		t.Errorf("only %d pitches have a fifth", count)
	}
	checkPure(t, pitchOf(440, 1), pitchOf(660, 1), 3, 2)
	checkPure(t, pitchOf(441, 1), pitchOf(1323, 2), 3, 2)
	checkPure(t, pitchOf(441, 1), pitchOf(1323, 2), 6, 4)
	checkPure(t, pitchOf(441, 1), pitchOf(1323, 2), 15, 10)
	checkPure(t, pitchOf(2, 999999999), pitchOf(1, 333333333), 3, 2)
	checkPure(t, pitchOf(666666666, 1), pitchOf(999999999, 1), 3, 2)
}

// A fifth that is not pure beats, however little is wrong, where the beats are a pitch.
func TestOtherFifthsBeat(t *testing.T) {
	for _, a := range organPitches() {
		fifth, ok := impl.TimesPitch(a, 3, 2)
		if !ok {
			t.Fatalf("%v has no fifth", a)
		}
		for _, n := range []int{100, 500, 999} {
			for _, wrong := range [][2]int{{n + 1, n}, {n, n + 1}} {
				b, ok := impl.TimesPitch(fifth, wrong[0], wrong[1])
				want, wantOk := pitchFrom(timesRatio(a, 3, wrong[1]))
				if !ok || !wantOk {
					t.Fatalf("%v times %v is no pitch", fifth, wrong)
				}
				checkBeat(t, a, b, 3, 2, want, true)
			}
		}
	}
}

func TestPureIntervalsDoNotBeat(t *testing.T) {
	count := 0
	for _, a := range append(validPitches(), manyPitches(20000, 30)...) {
		for p := 1; p <= 16; p++ {
			for q := 1; q <= 16; q++ {
				if b, ok := impl.TimesPitch(a, p, q); ok {
					count++
					checkPure(t, a, b, p, q)
				}
			}
		}
	}
	if count < 10000 {
		t.Errorf("only %d pure intervals", count)
	}
}

func TestEqualPitches(t *testing.T) {
	for _, a := range append(validPitches(), manyPitches(greatest, 300)...) {
		for p := 1; p <= 16; p++ {
			checkPure(t, a, a, p, p)
		}
		checkHigher(t, a, a, 0)
		checkBeat(t, a, a, 2, 1, a, true)
		checkBeat(t, a, a, 15, 16, a, true)
	}
}

// Of a pitch, partials that are apart beat with its multiples.
func TestPartialsOfOnePitch(t *testing.T) {
	for _, a := range validPitches() {
		for p := 1; p <= 16; p++ {
			for q := 1; q < p; q++ {
				want, ok := pitchFrom(timesRatio(a, p-q, 1))
				checkBeat(t, a, a, p, q, want, ok)
			}
		}
	}
}

func TestBeatsAtTheLimits(t *testing.T) {
	high, low := pitchOf(greatest, 1), pitchOf(1, greatest)
	checkBeat(t, high, high, 2, 1, high, true)
	checkBeat(t, high, pitchOf(greatest-1, 1), 2, 1, impl.Pitch{}, false)
	checkBeat(t, high, pitchOf(greatest-1, 1), 1, 2, pitchOf(greatest-2, 1), true)
	checkBeat(t, high, pitchOf(greatest-1, 1), 16, 16, pitchOf(16, 1), true)
	checkBeat(t, high, pitchOf(greatest-1, 1), 16, 15, impl.Pitch{}, false)
	checkBeat(t, high, pitchOf(15, 1), 1, 1, pitchOf(greatest-15, 1), true)
	checkBeat(t, pitchOf(greatest-1, 1), pitchOf(greatest-2, 1), 2, 1, high, true)
	checkBeat(t, low, low, 2, 1, low, true)
	checkBeat(t, low, low, 16, 15, low, true)
	checkBeat(t, low, low, 16, 1, pitchOf(3, 200000000), true)
	checkBeat(t, pitchOf(1, 1), pitchOf(1, 1), 2, 1, pitchOf(1, 1), true)
	checkBeat(t, pitchOf(1, 1), low, 1, 1, pitchOf(greatest-1, greatest), true)
	checkNoBeat(t, pitchOf(1, 1), pitchOf(greatest-1, greatest), 3, 1)
	// The Den of the beats is just MaxPitch, or just above it; the Dens of the pitches have no common divisor.
	checkBeat(t, pitchOf(1, 512), pitchOf(1, 1953125), 1, 1, pitchOf(1953125-512, greatest), true)
	checkNoBeat(t, pitchOf(1, 7), pitchOf(1, 142857143), 1, 1)
	checkNoBeat(t, pitchOf(1, 37), pitchOf(1, 27027028), 2, 1)
	// They have one here.
	checkBeat(t, pitchOf(1, 1024), pitchOf(1, 3906250), 2, 2, pitchOf(1953125-512, greatest), true)
	checkBeat(t, pitchOf(1, 1024), pitchOf(1, 1953125), 2, 1, pitchOf(1953125-512, greatest), true)
	checkNoBeat(t, pitchOf(1, 1024), pitchOf(1, 1953125), 1, 1)
	checkBeat(t, pitchOf(greatest-1, greatest), pitchOf(greatest-3, greatest), 1, 1, pitchOf(1, 500000000), true)
	// Pitches that differ by so little that their beats are no pitch.
	checkNoBeat(t, pitchOf(greatest, greatest-1), pitchOf(greatest-1, greatest-2), 1, 1)
	checkNoBeat(t, low, pitchOf(1, greatest-1), 1, 1)
}

// bigTerm is a product p*a.Num*b.Den, divided by the common divisor of both Dens, near to the limit.
type bigTerm struct {
	a, b impl.Pitch
	p    int
	want int
}

func bigTerms() []bigTerm {
	return []bigTerm{
		// The Dens have no common divisor.
		{pitchOf(greatest, 1), pitchOf(1, greatest), 1, greatestTerm},
		{pitchOf(greatest, 3), pitchOf(7, greatest), 1, greatestTerm},
		{pitchOf(244140625, 1), pitchOf(3, 819200000), 5, greatestTerm},
		{pitchOf(62500000, 7), pitchOf(1, greatest), 16, greatestTerm},
		{pitchOf(327935223, 1), pitchOf(1, 234567901), 13, greatestTerm - 1},
		{pitchOf(889006018, 1), pitchOf(1, 562425889), 2, greatestTerm + 4},
		{pitchOf(562425889, 3), pitchOf(5, 889006018), 2, greatestTerm + 4},
		{pitchOf(388000776, 1), pitchOf(1, 859104811), 3, greatestTerm + 8},
		// They have one.
		{pitchOf(250000000, 3), pitchOf(1, 3*250000000), 16, greatestTerm},
		{pitchOf(500000000, 3), pitchOf(7, 3*200000000), 10, greatestTerm},
		{pitchOf(greatest, 7), pitchOf(3, 7*125000000), 8, greatestTerm},
		{pitchOf(greatest, 9), pitchOf(11, 9*100000000), 10, greatestTerm},
		{pitchOf(327935223, 4), pitchOf(1, 4*234567901), 13, greatestTerm - 1},
		{pitchOf(266533825, 3), pitchOf(1, 3*288605309), 13, greatestTerm + 25},
		{pitchOf(756831584, 5), pitchOf(1, 5*120117993), 11, greatestTerm + 32},
	}
}

// With a term so great, the beats are no pitch, whatever the other partial is: one of their numbers is far above MaxPitch.
func TestBeatsOfGreatTerms(t *testing.T) {
	for _, term := range bigTerms() {
		checkPitchOk(t, term.a, true)
		checkPitchOk(t, term.b, true)
		if got := termOf(term.a, term.b, term.p); got.Cmp(big.NewInt(int64(term.want))) != 0 {
			t.Errorf("the term of %v is %v", term, got)
		}
		for q := 1; q <= 16; q++ {
			checkNoBeat(t, term.a, term.b, term.p, q)
		}
		checkBeatsLikeFractions(t, term.a, term.b)
	}
}

// Only when it is divided by the common divisor, the product is within the limit, or within an int.
func TestBeatsOfDividedTerms(t *testing.T) {
	const power = 1 << 17
	// 10 * 5^12 * (2^17 * 5^5) is 10^18.
	a, b := pitchOf(244140625, power), pitchOf(27737, power*3125)
	for q := 1; q <= 16; q++ {
		want, ok := beatOf(a, b, 10, q)
		checkBeat(t, a, b, 10, q, want, ok)
	}
	for p := 9; p <= 16; p++ {
		// The Nums of both partials differ by a multiple of 2^17.
		other := pitchOf(244140625*3125%power, power*3125)
		want, ok := pitchFrom(new(big.Rat).Sub(timesRatio(a, p, 1), timesRatio(other, p, 1)))
		if !ok {
			t.Fatalf("partials %d of %v and %v have no beats", p, a, other)
		}
		checkBeat(t, a, other, p, p, want, true)
	}
	for p := 1; p <= 16; p++ {
		checkBeat(t, pitchOf(greatest-1, greatest), pitchOf(greatest-3, greatest), p, p, pitchOf(p/tried(p, 500000000), 500000000/tried(p, 500000000)), true)
		checkBeat(t, pitchOf(greatest, greatest-1), pitchOf(greatest-2, greatest-1), p, p, pitchOf(2*p/tried(2*p, greatest-1), (greatest-1)/tried(2*p, greatest-1)), true)
		checkPure(t, pitchOf(greatest, greatest-1), pitchOf(greatest, greatest-1), p, p)
		checkPure(t, pitchOf(greatest-1, greatest), pitchOf(greatest-1, greatest), p, p)
	}
}

func TestBeatsOfInvalidPitches(t *testing.T) {
	for _, wrong := range invalidPitches() {
		for _, p := range []int{1, 2, 3, 16} {
			for _, a := range []impl.Pitch{pitchOf(440, 1), pitchOf(1, 1), pitchOf(greatest, 1), pitchOf(1, greatest), pitchOf(3, 2)} {
				checkNoBeat(t, wrong, a, p, 2)
				checkNoBeat(t, wrong, a, p, p)
			}
			checkNoBeat(t, wrong, wrong, p, p)
			checkNoBeat(t, wrong, wrong, p, 1)
			checkNoBeat(t, wrong, impl.Pitch{}, p, 1)
		}
	}
	// But for the divisor, these would have no beats, or a valid number of them.
	checkNoBeat(t, pitchOf(880, 2), pitchOf(660, 1), 3, 2)
	checkNoBeat(t, pitchOf(440, 1), pitchOf(1320, 2), 3, 2)
	checkNoBeat(t, pitchOf(440, 1), pitchOf(1324, 2), 3, 2)
	checkNoBeat(t, pitchOf(greatest+1, 1), pitchOf(greatest, 1), 1, 1)
	checkNoBeat(t, pitchOf(greatest+1, 1), pitchOf(greatest+1, 1), 1, 1)
	checkNoBeat(t, pitchOf(1, greatest+1), pitchOf(1, greatest+1), 1, 1)
	checkNoBeat(t, pitchOf(-440, -1), pitchOf(662, 1), 3, 2)
}

func TestBeatsOfNoPartials(t *testing.T) {
	for _, wrong := range noPartials() {
		for _, a := range validPitches() {
			for _, b := range []impl.Pitch{a, pitchOf(440, 1), pitchOf(1, greatest)} {
				for _, other := range []int{1, 2, 16, 0, 17} {
					checkNoBeat(t, a, b, wrong, other)
					checkNoBeat(t, a, b, other, wrong)
				}
				checkNoBeat(t, a, b, wrong, wrong)
			}
		}
	}
	// With these partials there would be no beats, or few of them.
	checkNoBeat(t, pitchOf(16, 1), pitchOf(17, 1), 17, 16)
	checkNoBeat(t, pitchOf(16, 1), pitchOf(16, 1), 17, 16)
	checkBeat(t, pitchOf(15, 1), pitchOf(16, 1), 16, 15, impl.Pitch{}, true)
	checkNoBeat(t, pitchOf(440, 1), pitchOf(660, 1), -3, -2)
	checkNoBeat(t, pitchOf(440, 1), pitchOf(440, 1), 0, 1)
	checkNoBeat(t, pitchOf(440, 1), pitchOf(440, 1), 0, 0)
}

func TestComparePitches(t *testing.T) {
	checkHigher(t, pitchOf(440, 1), pitchOf(660, 1), -1)
	checkHigher(t, pitchOf(440, 1), pitchOf(879, 2), 1)
	checkHigher(t, pitchOf(440, 1), pitchOf(881, 2), -1)
	checkHigher(t, pitchOf(1, 3), pitchOf(1, 2), -1)
	checkHigher(t, pitchOf(5, 6), pitchOf(13, 15), -1)
	pitches := append(validPitches(), manyPitches(greatest, 150)...)
	for i, a := range pitches {
		for _, b := range pitches[:i+1] {
			want := ratioOf(a.Num, a.Den).Cmp(ratioOf(b.Num, b.Den))
			checkHigher(t, a, b, want)
			if (want == 0) != (a == b) {
				t.Errorf("%v and %v are the same pitch", a, b)
			}
		}
	}
}

// The pitches n/(n+1) become higher, in the end by less than a float64 can tell.
func TestCompareNearPitches(t *testing.T) {
	for _, n := range []int{1, 2, 3, 10, 1000, 1 << 20, 1 << 26, 1<<27 + 1, 999999000, greatest - 3, greatest - 2} {
		lower, higher := pitchOf(n, n+1), pitchOf(n+1, n+2)
		checkHigher(t, lower, higher, -1)
		checkHigher(t, pitchOf(n+1, n), pitchOf(n+2, n+1), 1)
		checkHigher(t, lower, pitchOf(1, 1), -1)
		checkHigher(t, lower, pitchOf(n+1, n), -1)
		checkHigher(t, pitchOf(n, 1), pitchOf(n+1, 1), -1)
		checkHigher(t, pitchOf(1, n), pitchOf(1, n+1), 1)
	}
	checkHigher(t, pitchOf(greatest, 1), pitchOf(1, greatest), 1)
	checkHigher(t, pitchOf(greatest-1, greatest), pitchOf(greatest-3, greatest), 1)
}

func TestCompareInvalidPitches(t *testing.T) {
	for _, wrong := range invalidPitches() {
		for _, a := range validPitches() {
			checkHigher(t, wrong, a, 0)
		}
		for _, other := range []impl.Pitch{wrong, {}, pitchOf(wrong.Den, wrong.Num), pitchOf(880, 2), pitchOf(math.MinInt, 1), pitchOf(1, math.MaxInt)} {
			checkHigher(t, wrong, other, 0)
		}
	}
}

func TestTimesPitch(t *testing.T) {
	checkTimesPitch(t, pitchOf(440, 1), 3, 2, pitchOf(660, 1), true)
	checkTimesPitch(t, pitchOf(441, 1), 3, 2, pitchOf(1323, 2), true)
	checkTimesPitch(t, pitchOf(440, 1), 2, 3, pitchOf(880, 3), true)
	checkTimesPitch(t, pitchOf(5, 6), 6, 5, pitchOf(1, 1), true)
	checkTimesPitch(t, pitchOf(7, 15), 10, 14, pitchOf(1, 3), true)
	checkTimesPitch(t, pitchOf(440, 1), 81, 80, pitchOf(891, 2), true)
	valid := 0
	factors := []int{1, 2, 3, 4, 5, 7, 9, 15, 16, 31, 80, 81, 128, 243, 500, 720, 997, 998, 999, 1000}
	for _, p := range append(validPitches(), manyPitches(2000000, 40)...) {
		for _, num := range factors {
			for _, den := range factors {
				want, ok := pitchFrom(timesRatio(p, num, den))
				checkTimesPitch(t, p, num, den, want, ok)
				if ok {
					valid++
				}
			}
		}
	}
	if valid < 20000 {
		t.Errorf("only %d of the pitches are valid", valid)
	}
}

func TestTimesPitchAndBack(t *testing.T) {
	count := 0
	for _, p := range append(validPitches(), manyPitches(1000000, 40)...) {
		for _, num := range []int{1, 2, 3, 5, 8, 81, 1000, 999} {
			for _, den := range []int{1, 2, 3, 4, 6, 80, 729, 1000} {
				there, ok := impl.TimesPitch(p, num, den)
				if !ok {
					continue
				}
				count++
				checkTimesPitch(t, there, den, num, p, true)
				checkPitchOk(t, there, true)
				checkHigher(t, there, p, big.NewInt(int64(num)).Cmp(big.NewInt(int64(den))))
			}
		}
	}
	if count < 3000 {
		t.Errorf("only %d of the pitches are valid", count)
	}
}

func TestTimesPitchAtTheLimits(t *testing.T) {
	for _, p := range validPitches() {
		checkTimesPitch(t, p, 1, 1, p, true)
		checkTimesPitch(t, p, 1000, 1000, p, true)
		checkTimesPitch(t, p, 999, 999, p, true)
		checkNoTimesPitch(t, p, 1001, 1001)
		checkNoTimesPitch(t, p, 0, 0)
		checkNoTimesPitch(t, p, -1, -1)
	}
	checkTimesPitch(t, pitchOf(1, 1), 1, 1000, pitchOf(1, 1000), true)
	checkTimesPitch(t, pitchOf(1, 1), 1000, 1, pitchOf(1000, 1), true)
	checkTimesPitch(t, pitchOf(1000000, 1), 1000, 1, pitchOf(greatest, 1), true)
	checkTimesPitch(t, pitchOf(1, 1000000), 1, 1000, pitchOf(1, greatest), true)
	checkTimesPitch(t, pitchOf(greatest, 1), 1, 1000, pitchOf(1000000, 1), true)
	checkTimesPitch(t, pitchOf(1, greatest), 1000, 1, pitchOf(1, 1000000), true)
	checkTimesPitch(t, pitchOf(greatest, 1), 1, 3, pitchOf(greatest, 3), true)
	checkTimesPitch(t, pitchOf(greatest, 3), 3, 7, pitchOf(greatest, 7), true)
	checkNoTimesPitch(t, pitchOf(greatest, 3), 9, 7)
}

// MakePitch fails: one of the numbers of the result is just above MaxPitch, or far above it.
func TestTimesPitchBeyondTheLimits(t *testing.T) {
	high, low := pitchOf(greatest, 1), pitchOf(1, greatest)
	for n := 2; n <= 1000; n++ {
		checkNoTimesPitch(t, high, n, 1)
		checkNoTimesPitch(t, low, 1, n)
		checkNoTimesPitch(t, high, n, n-1)
		checkNoTimesPitch(t, low, n-1, n)
	}
	checkNoTimesPitch(t, pitchOf(1000001, 1), 1000, 1)
	checkNoTimesPitch(t, pitchOf(1, 1000001), 1, 1000)
	checkNoTimesPitch(t, pitchOf(142857143, 1), 7, 1)
	checkNoTimesPitch(t, pitchOf(1, 142857143), 1, 7)
	checkTimesPitch(t, pitchOf(142857142, 1), 7, 1, pitchOf(999999994, 1), true)
	checkTimesPitch(t, pitchOf(1, 142857142), 1, 7, pitchOf(1, 999999994), true)
	checkNoTimesPitch(t, pitchOf(greatest, greatest-1), 1000, 997)
	checkNoTimesPitch(t, pitchOf(greatest-1, greatest), 997, 1000)
}

func TestTimesPitchInvalid(t *testing.T) {
	for _, wrong := range invalidPitches() {
		for _, factor := range [][2]int{{1, 1}, {3, 2}, {2, 3}, {1, 1000}, {1000, 1}, {1000, 1000}} {
			checkNoTimesPitch(t, wrong, factor[0], factor[1])
		}
	}
	for _, wrong := range noFactors() {
		for _, p := range append(validPitches(), pitchOf(880, 2), impl.Pitch{}) {
			for _, other := range []int{1, 2, 1000, wrong, -wrong} {
				checkNoTimesPitch(t, p, wrong, other)
				checkNoTimesPitch(t, p, other, wrong)
			}
		}
	}
	checkNoTimesPitch(t, pitchOf(440, 1), -3, -2)
	checkNoTimesPitch(t, pitchOf(880, 2), 3, 2)
}

// What was asked for, or rejected, before changes nothing.
func TestPitchesKeepNothing(t *testing.T) {
	a, b := pitchOf(440, 1), pitchOf(662, 1)
	for range 30 {
		checkMakes(t, 880, 2, a, true)
		checkMakesNone(t, 880, 0)
		checkBeat(t, a, b, 3, 2, pitchOf(4, 1), true)
		checkNoBeat(t, a, b, 0, 2)
		checkPure(t, a, pitchOf(660, 1), 3, 2)
		checkNoBeat(t, a, impl.Pitch{}, 3, 2)
		checkHigher(t, a, b, -1)
		checkHigher(t, a, impl.Pitch{}, 0)
		checkTimesPitch(t, a, 3, 2, pitchOf(660, 1), true)
		checkNoTimesPitch(t, a, 3, 0)
		checkPitchOk(t, a, true)
		checkPitchOk(t, pitchOf(880, 2), false)
	}
}
