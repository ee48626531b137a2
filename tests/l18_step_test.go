package tests

import (
	"math"
	"testing"

	"loop.example/g00989/impl"
)

const (
	greatestFine  = 10000000
	mostStepBeats = 100000
)

// quotientDown rounds down below 0 too; the divisor is greater than 0.
func quotientDown(n, divisor int) int {
	remainder := (n%divisor + divisor) % divisor
	return (n - remainder) / divisor
}

// quotientOfKind is what the chapter says is divided, and by what it is divided.
func quotientOfKind(from, kind, beats int) (int, int) {
	switch kind {
	case impl.FromFifth:
		return 3*from - beats, 2
	case impl.FromFourth:
		return 3*from - beats, 4
	case impl.FromOctaveUp:
		return 2 * from, 1
	}
	return from, 2
}

// tunedFrom needs a pitch and beats that fit the kind.
func tunedFrom(from, kind, beats int) int {
	to := quotientDown(quotientOfKind(from, kind, beats))
	if to < 1 || to > greatestFine {
		return 0
	}
	return to
}

// signedBeats are greater than 0 if the second pitch is too low; it needs two pitches.
func signedBeats(from, to, kind int) int {
	switch kind {
	case impl.FromFifth:
		return 3*from - 2*to
	case impl.FromFourth:
		return 3*from - 4*to
	case impl.FromOctaveUp:
		return 2*from - to
	}
	return from - 2*to
}

func isTempered(kind int) bool { return kind == impl.FromFifth || kind == impl.FromFourth }

func allKinds() []int {
	return []int{impl.FromFifth, impl.FromFourth, impl.FromOctaveUp, impl.FromOctaveDown}
}

func temperedKinds() []int { return []int{impl.FromFifth, impl.FromFourth} }

func octaveKinds() []int { return []int{impl.FromOctaveUp, impl.FromOctaveDown} }

// beatsOfKind are beats that the kind accepts.
func beatsOfKind(kind int) []int {
	if !isTempered(kind) {
		return []int{0}
	}
	return []int{0, 1, 2, 3, 4, 5, 6, 7, 10, 99, 500, 999, 1000, 1001, 1002, 1003, 12345, 50000, 77777, 99997, 99998, 99999, mostStepBeats}
}

// finePitches are ordinary ones, those at the limits and those whose multiples are near to the limits.
func finePitches() []int {
	pitches := []int{
		55000, 65406, 110000, 130813, 196000, 220000, 261626, 264000, 293665, 297000, 330000, 352000, 391995, 396000, 440000, 441000, 493883, 523251, 880000, 1046502, 1760000, 4186009,
		mostStepBeats/3 - 1, mostStepBeats / 3, mostStepBeats/3 + 1, mostStepBeats/3 + 2, mostStepBeats - 1, mostStepBeats, mostStepBeats + 1,
		2*greatestFine/3 - 1, 2 * greatestFine / 3, 2*greatestFine/3 + 1, 2*greatestFine/3 + 2, 6699999, 6700000, 6700001,
		greatestFine/2 - 1, greatestFine / 2, greatestFine/2 + 1, 2500000, 7500000, greatestFine - 3, greatestFine - 2, greatestFine - 1, greatestFine,
	}
	for n := 1; n <= 40; n++ {
		pitches = append(pitches, n)
	}
	return pitches
}

// mixedFines are pseudo-random pitches up to a greatest one.
func mixedFines(most, count int) []int {
	var pitches []int
	state := 2718281
	for range count {
		state = state * 48271 % 2147483647
		pitches = append(pitches, state%most+1)
	}
	return pitches
}

func manyFines() []int {
	pitches := finePitches()
	for _, most := range []int{1000, 30000, 200000, 1000000, greatestFine} {
		pitches = append(pitches, mixedFines(most, 60)...)
	}
	return pitches
}

// noFines holds some numbers whose products with 2, 3 or 4 are within the range of an int only because they overflow.
func noFines() []int {
	return append(extremeInts(), 0, -1, -2, -3, -1000, -264000, -greatestFine, -greatestFine-1, greatestFine+1, greatestFine+2, 2*greatestFine, greatestFine*greatestFine,
		math.MaxInt/3, math.MaxInt/3+1, math.MinInt/3, math.MinInt/3-1, -6148914691236517205+264000, 6148914691236517206+1000,
		1<<62, 1<<62+264000, -1<<62, -1<<62+264000, math.MinInt+264000, math.MinInt+1000, 1<<61+500, 1<<32+264000, -1<<32+264000)
}

func noKinds() []int {
	return append(extremeInts(), 0, -1, -2, -3, -4, 5, 6, 7, 8, 12, 100, 255, 256, 257, 260, 1<<32+1, 1<<32+2, -1<<32+3)
}

// noStepBeats are no beats of fifths and fourths; some of them overflow if they are taken from a pitch.
func noStepBeats() []int {
	return append(extremeInts(), -1, -2, -3, -1000, -mostStepBeats, mostStepBeats+1, mostStepBeats+2, 2*mostStepBeats, 264000, greatestFine, 1<<62, -1<<62, 1<<32+1000, -1<<32+1000, math.MinInt+792000)
}

func checkTuned(t *testing.T, from, kind, beats, want int) {
	t.Helper()
	if got := impl.TunedPitch(from, kind, beats); got != want {
		t.Errorf("TunedPitch(%d, %d, %d) = %d; want %d", from, kind, beats, got, want)
	}
}

func checkBeatsHeard(t *testing.T, from, to, kind, want int) {
	t.Helper()
	if got := impl.BeatsHeard(from, to, kind); got != want {
		t.Errorf("BeatsHeard(%d, %d, %d) = %d; want %d", from, to, kind, got, want)
	}
}

func checkNarrow(t *testing.T, from, to, kind int, want bool) {
	t.Helper()
	if got := impl.IsNarrow(from, to, kind); got != want {
		t.Errorf("IsNarrow(%d, %d, %d) = %v", from, to, kind, got)
	}
}

func checkKindText(t *testing.T, kind int, want string) {
	t.Helper()
	if got := impl.KindText(kind); got != want {
		t.Errorf("KindText(%d) = %q; want %q", kind, got, want)
	}
}

// checkTunedIsHeard needs a pitch and beats that are within the ranges, and reports whether there is a tuned pitch.
func checkTunedIsHeard(t *testing.T, from, kind, beats int) bool {
	t.Helper()
	to := impl.TunedPitch(from, kind, beats)
	if to == 0 {
		return false
	}
	divided, divisor := quotientOfKind(from, kind, beats)
	checkBeatsHeard(t, from, to, kind, beats+divided%divisor)
	return true
}

// checkEar asks both functions that hear for one pair of pitches.
func checkEar(t *testing.T, from, to, kind int) {
	t.Helper()
	beats := signedBeats(from, to, kind)
	checkBeatsHeard(t, from, to, kind, max(beats, -beats))
	checkNarrow(t, from, to, kind, isTempered(kind) && beats > 0)
}

func TestConstantsOfSteps(t *testing.T) {
	if impl.Fine != 1000 || impl.MaxFine != greatestFine {
		t.Errorf("Fine = %d, MaxFine = %d", impl.Fine, impl.MaxFine)
	}
	for i, kind := range allKinds() {
		if kind != i+1 {
			t.Errorf("kind %d is %d", i+1, kind)
		}
	}
}

func TestTunedPitch(t *testing.T) {
	checkTuned(t, 264000, impl.FromFifth, 0, 396000)
	checkTuned(t, 264000, impl.FromFifth, 1000, 395500)
	checkTuned(t, 264000, impl.FromFourth, 0, 198000)
	checkTuned(t, 264000, impl.FromFourth, 1000, 197750)
	checkTuned(t, 264000, impl.FromOctaveUp, 0, 528000)
	checkTuned(t, 264000, impl.FromOctaveDown, 0, 132000)
	checkTuned(t, 440000, impl.FromFifth, 1487, 659256)
	checkTuned(t, 440000, impl.FromFourth, 1487, 329628)
}

func TestTunedPitchOfManyPitches(t *testing.T) {
	tuned, none := 0, 0
	for _, from := range manyFines() {
		for _, kind := range allKinds() {
			for _, beats := range beatsOfKind(kind) {
				want := tunedFrom(from, kind, beats)
				checkTuned(t, from, kind, beats, want)
				if want > 0 {
					tuned++
				} else {
					none++
				}
			}
		}
	}
	if tuned < 5000 || none < 2000 {
		t.Errorf("%d pitches are tuned, %d are not", tuned, none)
	}
}

func TestTunedPitchOfEverySmallPitch(t *testing.T) {
	for from := 1; from <= 300; from++ {
		for beats := range 1000 {
			checkTuned(t, from, impl.FromFifth, beats, tunedFrom(from, impl.FromFifth, beats))
			checkTuned(t, from, impl.FromFourth, beats, tunedFrom(from, impl.FromFourth, beats))
		}
		checkTuned(t, from, impl.FromOctaveUp, 0, 2*from)
		checkTuned(t, from, impl.FromOctaveDown, 0, from/2)
	}
}

func TestTunedPitchIsRoundedDown(t *testing.T) {
	for _, from := range []int{264000, 264001, 264002, 264003, 440000, 440001, 440002, 440003} {
		whole := 3 * from
		for remainder := range 4 {
			beats := whole%4 + 4 - remainder
			checkTuned(t, from, impl.FromFourth, beats, (whole-whole%4)/4-1)
			checkTuned(t, from, impl.FromFifth, beats, ((whole-whole%4)-4+remainder/2*2)/2)
		}
	}
	checkTuned(t, 264001, impl.FromFifth, 0, 396001)
	checkTuned(t, 264000, impl.FromFifth, 1, 395999)
	checkTuned(t, 264000, impl.FromFourth, 1, 197999)
	checkTuned(t, 264000, impl.FromFourth, 2, 197999)
	checkTuned(t, 264000, impl.FromFourth, 3, 197999)
	checkTuned(t, 264000, impl.FromFourth, 4, 197999)
	checkTuned(t, 264000, impl.FromFourth, 5, 197998)
	checkTuned(t, 264001, impl.FromOctaveDown, 0, 132000)
	checkTuned(t, 264002, impl.FromOctaveDown, 0, 132001)
}

func TestTunedPitchOfOne(t *testing.T) {
	for beats, want := range []int{1, 1, 0, 0, 0, 0} {
		checkTuned(t, 1, impl.FromFifth, beats, want)
	}
	for beats, want := range []int{3, 2, 2, 1, 1, 0, 0, 0, 0} {
		checkTuned(t, 2, impl.FromFifth, beats, want)
	}
	for beats := range 6 {
		checkTuned(t, 1, impl.FromFourth, beats, 0)
	}
	for beats, want := range []int{1, 1, 1, 0, 0, 0, 0, 0, 0} {
		checkTuned(t, 2, impl.FromFourth, beats, want)
	}
	for beats, want := range []int{2, 2, 1, 1, 1, 1, 0, 0, 0, 0, 0, 0} {
		checkTuned(t, 3, impl.FromFourth, beats, want)
	}
	checkTuned(t, 1, impl.FromOctaveUp, 0, 2)
	checkTuned(t, 1, impl.FromOctaveDown, 0, 0)
	checkTuned(t, 2, impl.FromOctaveDown, 0, 1)
	checkTuned(t, 3, impl.FromOctaveDown, 0, 1)
	checkTuned(t, 4, impl.FromOctaveDown, 0, 2)
}

func TestTunedPitchUpToTheGreatest(t *testing.T) {
	checkTuned(t, 6666666, impl.FromFifth, 0, greatestFine-1)
	checkTuned(t, 6666667, impl.FromFifth, 0, greatestFine)
	checkTuned(t, 6666667, impl.FromFifth, 1, greatestFine)
	checkTuned(t, 6666667, impl.FromFifth, 2, greatestFine-1)
	for beats, want := range []int{0, 0, 0, greatestFine, greatestFine, greatestFine - 1} {
		checkTuned(t, 6666668, impl.FromFifth, beats, want)
	}
	checkTuned(t, 6699999, impl.FromFifth, mostStepBeats, greatestFine-2)
	checkTuned(t, 6700000, impl.FromFifth, mostStepBeats, greatestFine)
	checkTuned(t, 6700000, impl.FromFifth, mostStepBeats-1, greatestFine)
	checkTuned(t, 6700000, impl.FromFifth, mostStepBeats-2, 0)
	checkTuned(t, 6700001, impl.FromFifth, mostStepBeats, 0)
	checkTuned(t, greatestFine, impl.FromFifth, 0, 0)
	checkTuned(t, greatestFine, impl.FromFifth, mostStepBeats, 0)
	checkTuned(t, greatestFine, impl.FromFourth, 0, 7500000)
	checkTuned(t, greatestFine, impl.FromFourth, 1, 7499999)
	checkTuned(t, greatestFine, impl.FromFourth, mostStepBeats, 7475000)
	checkTuned(t, greatestFine/2-1, impl.FromOctaveUp, 0, greatestFine-2)
	checkTuned(t, greatestFine/2, impl.FromOctaveUp, 0, greatestFine)
	checkTuned(t, greatestFine/2+1, impl.FromOctaveUp, 0, 0)
	checkTuned(t, greatestFine, impl.FromOctaveUp, 0, 0)
	checkTuned(t, greatestFine-1, impl.FromOctaveDown, 0, greatestFine/2-1)
	checkTuned(t, greatestFine, impl.FromOctaveDown, 0, greatestFine/2)
}

func TestTunedPitchWithTheMostBeats(t *testing.T) {
	checkTuned(t, 264000, impl.FromFifth, mostStepBeats-1, 346000)
	checkTuned(t, 264000, impl.FromFifth, mostStepBeats, 346000)
	checkTuned(t, 264000, impl.FromFifth, mostStepBeats+1, 0)
	checkTuned(t, 264000, impl.FromFourth, mostStepBeats-1, 173000)
	checkTuned(t, 264000, impl.FromFourth, mostStepBeats, 173000)
	checkTuned(t, 264000, impl.FromFourth, mostStepBeats+1, 0)
	checkTuned(t, 33333, impl.FromFifth, mostStepBeats, 0)
	checkTuned(t, 33334, impl.FromFifth, mostStepBeats, 1)
	checkTuned(t, 33335, impl.FromFifth, mostStepBeats, 2)
	checkTuned(t, 33333, impl.FromFourth, mostStepBeats, 0)
	checkTuned(t, 33334, impl.FromFourth, mostStepBeats, 0)
	checkTuned(t, 33335, impl.FromFourth, mostStepBeats, 1)
	checkTuned(t, 33333, impl.FromFifth, 99999-2, 1)
	checkTuned(t, 33333, impl.FromFifth, 99999-1, 0)
	checkTuned(t, 33333, impl.FromFifth, 99999, 0)
}

func TestNothingIsTunedWithAllVibrationsBeating(t *testing.T) {
	for _, from := range []int{1, 2, 3, 7, 100, 999, 33000, 33332, 33333} {
		for _, kind := range temperedKinds() {
			for _, beats := range []int{3*from - 1, 3 * from, 3*from + 1, 3*from + 2, 3*from + 3, 3*from + 4, 3*from + 5, 3*from + 1000, mostStepBeats} {
				checkTuned(t, from, kind, beats, 0)
			}
			checkTuned(t, from, kind, 3*from-2, quotientDown(2, kind*2))
			checkTuned(t, from, kind, max(0, 3*from-4), quotientDown(min(3*from, 4), kind*2))
		}
	}
}

func TestTunedPitchOfNoPitch(t *testing.T) {
	for _, from := range noFines() {
		for _, kind := range allKinds() {
			for _, beats := range beatsOfKind(kind) {
				checkTuned(t, from, kind, beats, 0)
			}
			for _, beats := range noStepBeats() {
				checkTuned(t, from, kind, beats, 0)
			}
		}
		for _, kind := range noKinds() {
			checkTuned(t, from, kind, 0, 0)
		}
	}
}

func TestTunedPitchWithNoBeatsOfTheKind(t *testing.T) {
	for _, from := range finePitches() {
		for _, beats := range noStepBeats() {
			for _, kind := range allKinds() {
				checkTuned(t, from, kind, beats, 0)
			}
		}
		for _, beats := range beatsOfKind(impl.FromFifth) {
			for _, kind := range octaveKinds() {
				if beats != 0 {
					checkTuned(t, from, kind, beats, 0)
				}
			}
		}
	}
}

func TestTunedPitchOfNoKind(t *testing.T) {
	for _, kind := range noKinds() {
		for _, from := range finePitches() {
			for _, beats := range []int{0, 1, 1000, mostStepBeats, -1, mostStepBeats + 1} {
				checkTuned(t, from, kind, beats, 0)
			}
		}
	}
}

func TestBeatsHeard(t *testing.T) {
	checkBeatsHeard(t, 264000, 396000, impl.FromFifth, 0)
	checkBeatsHeard(t, 264000, 395500, impl.FromFifth, 1000)
	checkBeatsHeard(t, 264000, 396500, impl.FromFifth, 1000)
	checkBeatsHeard(t, 264000, 198000, impl.FromFourth, 0)
	checkBeatsHeard(t, 264000, 197750, impl.FromFourth, 1000)
	checkBeatsHeard(t, 264000, 198250, impl.FromFourth, 1000)
	checkBeatsHeard(t, 264000, 528000, impl.FromOctaveUp, 0)
	checkBeatsHeard(t, 264000, 527000, impl.FromOctaveUp, 1000)
	checkBeatsHeard(t, 264000, 529000, impl.FromOctaveUp, 1000)
	checkBeatsHeard(t, 264000, 132000, impl.FromOctaveDown, 0)
	checkBeatsHeard(t, 264000, 131500, impl.FromOctaveDown, 1000)
	checkBeatsHeard(t, 264000, 132500, impl.FromOctaveDown, 1000)
}

func TestEarForManyPairs(t *testing.T) {
	pitches := append(finePitches(), mixedFines(greatestFine, 60)...)
	for _, from := range pitches {
		for _, to := range pitches {
			for _, kind := range allKinds() {
				checkEar(t, from, to, kind)
			}
		}
	}
}

func TestEarForEverySmallPair(t *testing.T) {
	for from := 1; from <= 80; from++ {
		for to := 1; to <= 170; to++ {
			for _, kind := range allKinds() {
				checkEar(t, from, to, kind)
			}
		}
	}
}

func TestPureStepsDoNotBeat(t *testing.T) {
	for _, n := range append(mixedFines(greatestFine/4, 200), 1, 2, 3, greatestFine/4) {
		checkBeatsHeard(t, 2*n, 3*n, impl.FromFifth, 0)
		checkBeatsHeard(t, 4*n, 3*n, impl.FromFourth, 0)
		checkBeatsHeard(t, n, 2*n, impl.FromOctaveUp, 0)
		checkBeatsHeard(t, 2*n, n, impl.FromOctaveDown, 0)
		checkTuned(t, 2*n, impl.FromFifth, 0, 3*n)
		checkTuned(t, 4*n, impl.FromFourth, 0, 3*n)
	}
}

func TestBeatsHeardAtTheLimits(t *testing.T) {
	checkBeatsHeard(t, 1, 1, impl.FromFifth, 1)
	checkBeatsHeard(t, 1, 1, impl.FromFourth, 1)
	checkBeatsHeard(t, 1, 1, impl.FromOctaveUp, 1)
	checkBeatsHeard(t, 1, 1, impl.FromOctaveDown, 1)
	checkBeatsHeard(t, greatestFine, 1, impl.FromFifth, 3*greatestFine-2)
	checkBeatsHeard(t, greatestFine, 1, impl.FromFourth, 3*greatestFine-4)
	checkBeatsHeard(t, greatestFine, 1, impl.FromOctaveUp, 2*greatestFine-1)
	checkBeatsHeard(t, greatestFine, 1, impl.FromOctaveDown, greatestFine-2)
	checkBeatsHeard(t, 1, greatestFine, impl.FromFifth, 2*greatestFine-3)
	checkBeatsHeard(t, 1, greatestFine, impl.FromFourth, 4*greatestFine-3)
	checkBeatsHeard(t, 1, greatestFine, impl.FromOctaveUp, greatestFine-2)
	checkBeatsHeard(t, 1, greatestFine, impl.FromOctaveDown, 2*greatestFine-1)
	for _, kind := range allKinds() {
		checkBeatsHeard(t, greatestFine, greatestFine, kind, greatestFine)
		checkBeatsHeard(t, greatestFine+1, greatestFine, kind, -1)
		checkBeatsHeard(t, greatestFine, greatestFine+1, kind, -1)
	}
}

func TestTunedBeatsAreHeard(t *testing.T) {
	tuned := 0
	for _, from := range manyFines() {
		for _, kind := range allKinds() {
			for _, beats := range beatsOfKind(kind) {
				if checkTunedIsHeard(t, from, kind, beats) {
					tuned++
				}
			}
		}
	}
	if tuned < 5000 {
		t.Errorf("only %d pitches are tuned", tuned)
	}
}

func TestEveryNumberOfBeatsIsHeard(t *testing.T) {
	for beats := 0; beats <= mostStepBeats; beats++ {
		for _, kind := range temperedKinds() {
			if !checkTunedIsHeard(t, 264000+beats%4, kind, beats) {
				t.Fatalf("nothing is tuned with %d beats of the kind %d", beats, kind)
			}
		}
	}
}

// With no remainder, just the beats that were tuned are heard.
func TestBeatsWithoutRemainderAreHeard(t *testing.T) {
	for _, from := range []int{264000, 264004, 440000, 329628, 4000000} {
		for beats := 0; beats <= mostStepBeats; beats += 4 {
			for _, kind := range temperedKinds() {
				checkBeatsHeard(t, from, impl.TunedPitch(from, kind, beats), kind, beats)
			}
		}
	}
}

func TestRemaindersAreHeard(t *testing.T) {
	for remainder := range 4 {
		beats := 1000 - remainder
		checkBeatsHeard(t, 264000, impl.TunedPitch(264000, impl.FromFourth, beats), impl.FromFourth, 1000)
		checkBeatsHeard(t, 264000, impl.TunedPitch(264000, impl.FromFifth, beats), impl.FromFifth, beats+remainder%2)
	}
	checkBeatsHeard(t, 264001, impl.TunedPitch(264001, impl.FromOctaveDown, 0), impl.FromOctaveDown, 1)
	checkBeatsHeard(t, 264001, impl.TunedPitch(264001, impl.FromOctaveUp, 0), impl.FromOctaveUp, 0)
	checkBeatsHeard(t, 1, impl.TunedPitch(1, impl.FromFifth, 0), impl.FromFifth, 1)
	checkBeatsHeard(t, 2, impl.TunedPitch(2, impl.FromFourth, 0), impl.FromFourth, 2)
	checkBeatsHeard(t, 3, impl.TunedPitch(3, impl.FromOctaveDown, 0), impl.FromOctaveDown, 1)
}

func TestATunedFourthIsTheOctaveBelowTheFifth(t *testing.T) {
	for _, from := range manyFines() {
		for _, beats := range beatsOfKind(impl.FromFifth) {
			fifth := impl.TunedPitch(from, impl.FromFifth, beats)
			if fifth == 0 {
				continue
			}
			checkTuned(t, from, impl.FromFourth, beats, impl.TunedPitch(fifth, impl.FromOctaveDown, 0))
		}
	}
}

func TestBeatsHeardOfNoPitch(t *testing.T) {
	for _, wrong := range noFines() {
		for _, kind := range append(allKinds(), noKinds()...) {
			for _, pitch := range finePitches() {
				checkBeatsHeard(t, wrong, pitch, kind, -1)
				checkBeatsHeard(t, pitch, wrong, kind, -1)
			}
			for _, other := range noFines() {
				checkBeatsHeard(t, wrong, other, kind, -1)
			}
		}
	}
}

func TestBeatsHeardOfNoKind(t *testing.T) {
	for _, kind := range noKinds() {
		for _, from := range finePitches() {
			for _, to := range []int{1, from, greatestFine, min(2*from, greatestFine)} {
				checkBeatsHeard(t, from, to, kind, -1)
			}
		}
	}
}

func TestIsNarrow(t *testing.T) {
	checkNarrow(t, 264000, 395500, impl.FromFifth, true)
	checkNarrow(t, 264000, 396000, impl.FromFifth, false)
	checkNarrow(t, 264000, 396500, impl.FromFifth, false)
	checkNarrow(t, 264000, 197750, impl.FromFourth, true)
	checkNarrow(t, 264000, 198000, impl.FromFourth, false)
	checkNarrow(t, 264000, 198250, impl.FromFourth, false)
	checkNarrow(t, greatestFine, 1, impl.FromFifth, true)
	checkNarrow(t, greatestFine, 1, impl.FromFourth, true)
	checkNarrow(t, 1, greatestFine, impl.FromFifth, false)
	checkNarrow(t, 1, greatestFine, impl.FromFourth, false)
	checkNarrow(t, greatestFine, greatestFine, impl.FromFifth, true)
	checkNarrow(t, greatestFine, greatestFine, impl.FromFourth, false)
	checkNarrow(t, 1, 1, impl.FromFifth, true)
	checkNarrow(t, 1, 1, impl.FromFourth, false)
}

func TestNarrowJustBelowPure(t *testing.T) {
	for _, n := range append(mixedFines(greatestFine/4, 200), 1, 2, 3, 66000, greatestFine/4) {
		checkNarrow(t, 2*n, 3*n, impl.FromFifth, false)
		checkNarrow(t, 2*n, 3*n-1, impl.FromFifth, true)
		checkNarrow(t, 2*n, 3*n+1, impl.FromFifth, false)
		checkNarrow(t, 2*n+1, 3*n+1, impl.FromFifth, true)
		checkNarrow(t, 2*n+1, 3*n+2, impl.FromFifth, false)
		checkNarrow(t, 4*n, 3*n, impl.FromFourth, false)
		checkNarrow(t, 4*n, 3*n-1, impl.FromFourth, true)
		checkNarrow(t, 4*n, 3*n+1, impl.FromFourth, false)
		checkNarrow(t, 4*n-1, 3*n, impl.FromFourth, false)
		checkNarrow(t, 4*n-1, 3*n-1, impl.FromFourth, true)
	}
}

func TestOctavesAreNeverNarrow(t *testing.T) {
	for _, from := range finePitches() {
		for _, to := range finePitches() {
			for _, kind := range octaveKinds() {
				checkNarrow(t, from, to, kind, false)
			}
		}
	}
}

// A tuned step is narrow if it has beats, or if something was lost by rounding down.
func TestTunedStepsAreNarrow(t *testing.T) {
	for _, from := range manyFines() {
		for _, kind := range temperedKinds() {
			for _, beats := range beatsOfKind(kind) {
				to := impl.TunedPitch(from, kind, beats)
				isLower := beats > 0 || 3*from%(2*kind) > 0
				checkNarrow(t, from, to, kind, to > 0 && isLower)
			}
		}
	}
}

func TestNothingInvalidIsNarrow(t *testing.T) {
	for _, wrong := range noFines() {
		for _, kind := range append(allKinds(), noKinds()...) {
			for _, pitch := range finePitches() {
				checkNarrow(t, wrong, pitch, kind, false)
				checkNarrow(t, pitch, wrong, kind, false)
			}
			for _, other := range noFines() {
				checkNarrow(t, wrong, other, kind, false)
			}
		}
	}
	for _, kind := range noKinds() {
		for _, from := range finePitches() {
			for _, to := range finePitches() {
				checkNarrow(t, from, to, kind, false)
			}
		}
	}
}

func TestKindText(t *testing.T) {
	checkKindText(t, impl.FromFifth, "fifth")
	checkKindText(t, impl.FromFourth, "fourth")
	checkKindText(t, impl.FromOctaveUp, "up")
	checkKindText(t, impl.FromOctaveDown, "down")
	for kind, want := range []string{"", "fifth", "fourth", "up", "down", "", ""} {
		checkKindText(t, kind, want)
	}
}

func TestKindTextOfNoKind(t *testing.T) {
	for _, kind := range noKinds() {
		checkKindText(t, kind, "")
	}
}

func TestStepsKeepNothing(t *testing.T) {
	pitches := finePitches()
	for i, from := range pitches {
		to := pitches[len(pitches)-1-i]
		for _, kind := range append(allKinds(), noKinds()...) {
			tuned, beats, narrow, text := impl.TunedPitch(from, kind, 0), impl.BeatsHeard(from, to, kind), impl.IsNarrow(from, to, kind), impl.KindText(kind)
			impl.TunedPitch(to, kind%4+1, 5)
			impl.BeatsHeard(to, from, kind%4+1)
			impl.IsNarrow(0, to, impl.FromFifth)
			impl.KindText(kind%4 + 1)
			checkTuned(t, from, kind, 0, tuned)
			checkBeatsHeard(t, from, to, kind, beats)
			checkNarrow(t, from, to, kind, narrow)
			checkKindText(t, kind, text)
		}
	}
}
