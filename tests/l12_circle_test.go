package tests

import (
	"math"
	"slices"
	"strconv"
	"testing"

	"loop.example/g00989/impl"
)

// circleOf is a circle of the parts themselves, not of a copy.
func circleOf(parts ...int) impl.Circle { return impl.Circle{Parts: parts} }

// narrowAt is the circle with one narrow fifth above a key.
func narrowAt(key int) impl.Circle {
	parts := make([]int, 12)
	parts[key] = 12
	return circleOf(parts...)
}

// turnedParts goes from part to part, and begins again behind the last one.
func turnedParts(parts []int, n int) []int {
	var turned []int
	for i := range parts {
		turned = append(turned, parts[(i+n)%len(parts)])
	}
	return turned
}

// partitions are the descending lists of numbers from 1 to most with this sum.
func partitions(sum, most int) [][]int {
	if sum == 0 {
		return [][]int{nil}
	}
	var lists [][]int
	for first := min(sum, most); first >= 1; first-- {
		for _, rest := range partitions(sum-first, first) {
			lists = append(lists, append([]int{first}, rest...))
		}
	}
	return lists
}

// manyCircles have all the ways to divide the sum 12: side by side or apart from each other, and from every key on.
func manyCircles() []impl.Circle {
	var list []impl.Circle
	for _, numbers := range partitions(12, 12) {
		for _, stride := range []int{1, 5, 7} {
			parts := make([]int, 12)
			for i, n := range numbers {
				parts[i*stride%12] = n
			}
			for n := range 12 {
				list = append(list, circleOf(turnedParts(parts, n)...))
			}
		}
	}
	return list
}

// knownCircles have the comma in four fifths, in six, in four others, in one, in eight and in all.
func knownCircles() []impl.Circle {
	return []impl.Circle{
		circleOf(3, 3, 3, 0, 0, 3, 0, 0, 0, 0, 0, 0), circleOf(2, 2, 2, 2, 2, 0, 0, 0, 0, 0, 0, 2), circleOf(3, 3, 3, 3, 0, 0, 0, 0, 0, 0, 0, 0),
		circleOf(0, 0, 0, 0, 0, 0, 0, 0, 12, 0, 0, 0), circleOf(2, 2, 2, 2, 1, 1, 1, 0, 0, 0, 0, 1), circleOf(1, 1, 1, 1, 1, 1, 1, 1, 1, 1, 1, 1),
	}
}

// eachDistribution gives all twelve parts with a sum to a function, always in the same memory.
func eachDistribution(sum int, take func(parts []int)) {
	parts := make([]int, 12)
	var fill func(place, rest int)
	fill = func(place, rest int) {
		if place == len(parts)-1 {
			parts[place] = rest
			take(parts)
			return
		}
		for n := 0; n <= rest; n++ {
			parts[place] = n
			fill(place+1, rest-n)
		}
	}
	fill(0, sum)
}

// circlesOfWrongLength have the sum 12 wherever their length allows it.
func circlesOfWrongLength() []impl.Circle {
	return []impl.Circle{
		{}, circleOf([]int{}...), circleOf(0), circleOf(12), circleOf(6, 6), circleOf(2, 1, 1, 1, 1, 1, 1, 1, 1, 1, 1), circleOf(12, 0, 0, 0, 0, 0, 0, 0, 0, 0, 0),
		circleOf(1, 1, 1, 1, 1, 1, 1, 1, 1, 1, 1, 1, 0), circleOf(0, 1, 1, 1, 1, 1, 1, 1, 1, 1, 1, 1, 1), circleOf(1, 1, 1, 1, 1, 1, 1, 1, 1, 1, 1, 0, 1),
		circleOf(1, 1, 1, 1, 1, 1, 1, 1, 1, 1, 1, 1, 1), circleOf(1, 1, 1, 1, 1, 1, 1, 1, 1, 1, 1), circleOf(make([]int, 24)...),
		circleOf(append(slices.Repeat([]int{1}, 12), make([]int, 12)...)...), circleOf(slices.Repeat([]int{1}, 24)...), circleOf(append(make([]int, 999), 12)...),
	}
}

// circlesOfWrongSum have only parts within their range.
func circlesOfWrongSum() []impl.Circle {
	list := []impl.Circle{
		circleOf(make([]int, 12)...), circleOf(slices.Repeat([]int{2}, 12)...), circleOf(slices.Repeat([]int{12}, 12)...), circleOf(12, 12, 0, 0, 0, 0, 0, 0, 0, 0, 0, 0),
	}
	for i := range 12 {
		for _, c := range append(knownCircles(), narrowAt(i)) {
			for _, change := range []int{-1, 1} {
				if n := c.Parts[i] + change; n >= 0 && n <= 12 {
					parts := slices.Clone(c.Parts)
					parts[i] = n
					list = append(list, circleOf(parts...))
				}
			}
		}
	}
	return list
}

// circlesOfWrongParts have the sum 12, some of them only because it overflows.
func circlesOfWrongParts() []impl.Circle {
	list := []impl.Circle{
		// Every part is too great here, or every one too small.
		circleOf(slices.Repeat([]int{1 + 1<<62}, 12)...), circleOf(slices.Repeat([]int{1 - 1<<62}, 12)...),
		circleOf(1<<61, 1<<61, 1<<61, 1<<61, 1<<61, 1<<61, 1<<61, 1<<61, 12, 0, 0, 0),
		circleOf(math.MaxInt, math.MinInt, 2, 2, 2, 2, 2, 2, 1, 0, 0, 0), circleOf(math.MaxInt, 1, math.MinInt, 12, 0, 0, 0, 0, 0, 0, 0, 0),
	}
	for i := range 12 {
		for _, others := range [][]int{
			{-1, 13}, {13, -1}, {-1, 12, 1}, {-1, 1, 12}, {-12, 12, 12}, {13, -2, 1}, {14, -2}, {24, -12}, {112, -100}, {-88, 100},
			{math.MaxInt, math.MaxInt, 12, 2}, {math.MaxInt, math.MaxInt, 14}, {math.MinInt, math.MinInt, 12}, {math.MinInt, 12, math.MinInt}, {math.MinInt, math.MaxInt, 12, 1},
			{1 << 62, 1 << 62, 1 << 62, 1 << 62, 12}, {12, -1 << 62, -1 << 62, -1 << 62, -1 << 62}, {1<<32 + 12, -1 << 32}, {1 << 40, 12, -1 << 40},
		} {
			parts := append(slices.Clone(others), make([]int, 12-len(others))...)
			list = append(list, circleOf(turnedParts(parts, i)...))
		}
	}
	return list
}

// circlesWithGreatParts have one or more of the greatest and the least ints, and mostly another sum than 12.
func circlesWithGreatParts() []impl.Circle {
	var list []impl.Circle
	for _, n := range append(extremeInts(), -13, -12, -1, 13, 24, 1<<32+1, 1<<32+12) {
		list = append(list, circleOf(slices.Repeat([]int{n}, 12)...))
		for i := range 12 {
			for _, c := range append(knownCircles(), circleOf(make([]int, 12)...), narrowAt(11-i)) {
				parts := slices.Clone(c.Parts)
				parts[i] = n
				list = append(list, circleOf(parts...))
			}
		}
	}
	return list
}

func invalidCircles() []impl.Circle {
	return slices.Concat(circlesOfWrongLength(), circlesOfWrongSum(), circlesOfWrongParts(), circlesWithGreatParts())
}

func noKeys() []int {
	return append(extremeInts(), -13, -12, -11, -2, -1, 12, 13, 23, 24, 1<<32+1, -1<<32+1)
}

// narrowedFifthOf is the pure fifth without some twelfths of the comma, as fractions.
func narrowedFifthOf(part int) impl.Interval {
	fifth, _ := exponentsOf(tone(-1, 1, 0, 1)).plus(exponentsOf(tone(19*part, -12*part, 0, 12))).simplest()
	return fifth
}

// pitchTable holds, for a number of fifths and of parts, the pitch that is found with fractions and with whole numbers of math/big.
func pitchTable() [12][13]impl.Interval {
	var table [12][13]impl.Interval
	for fifths := range 12 {
		for parts := range 13 {
			pure := exponentsOf(tone(-1, 1, 0, 1)).times(fifths)
			twelfth := exponentsOf(tone(19, -12, 0, 12)).times(parts)
			x, _ := pure.plus(twelfth).simplest()
			table[fifths][parts], _ = exponentsOf(shifted(x, -octavesOf(x))).simplest()
		}
	}
	return table
}

func checkCircleOk(t *testing.T, c impl.Circle, want bool) {
	t.Helper()
	if got := impl.CircleOk(c); got != want {
		t.Errorf("CircleOk(%v) = %v", c, got)
	}
}

func checkFifthAt(t *testing.T, c impl.Circle, i int, want impl.Interval) {
	t.Helper()
	if got := impl.FifthAt(c, i); got != want {
		t.Errorf("FifthAt(%v, %d) = %v; want %v", c, i, got, want)
	}
}

func checkPitchAt(t *testing.T, c impl.Circle, i int, want impl.Interval) {
	t.Helper()
	if got := impl.PitchAt(c, i); got != want {
		t.Errorf("PitchAt(%v, %d) = %v; want %v", c, i, got, want)
	}
}

func checkTurn(t *testing.T, c impl.Circle, n int, want ...int) {
	t.Helper()
	if got := impl.TurnCircle(c, n); !slices.Equal(got.Parts, want) {
		t.Errorf("TurnCircle(%v, %d) = %v; want %v", c, n, got, want)
	}
}

func checkCircleText(t *testing.T, c impl.Circle, want string) {
	t.Helper()
	if got := impl.CircleText(c); got != want {
		t.Errorf("CircleText(%v) = %q; want %q", c, got, want)
	}
}

func checkNoKey(t *testing.T, c impl.Circle, i int) {
	t.Helper()
	checkFifthAt(t, c, i, impl.Interval{})
	checkPitchAt(t, c, i, impl.Interval{})
	checkTurn(t, c, i)
}

// checkNoCircle asks for every result of a circle that is rejected.
func checkNoCircle(t *testing.T, c impl.Circle) {
	t.Helper()
	checkCircleOk(t, c, false)
	checkCircleText(t, c, "")
	for i := range 12 {
		checkNoKey(t, c, i)
	}
	for _, i := range noKeys() {
		checkNoKey(t, c, i)
	}
}

func foundSum(t *testing.T, a, b impl.Interval) impl.Interval {
	t.Helper()
	sum, ok := impl.AddIntervals(a, b)
	if !ok {
		t.Fatalf("%v and %v have no sum", a, b)
	}
	return sum
}

func TestCircleOk(t *testing.T) {
	for _, c := range append(manyCircles(), knownCircles()...) {
		checkCircleOk(t, c, true)
	}
}

// A distribution of 12 stops to be a circle if any one of its parts is changed.
func TestCircleOkOfEveryDistribution(t *testing.T) {
	count := 0
	eachDistribution(12, func(parts []int) {
		place := count % 12
		count++
		checkCircleOk(t, circleOf(parts...), true)
		parts[place]++
		checkCircleOk(t, circleOf(parts...), false)
		parts[place] -= 2
		checkCircleOk(t, circleOf(parts...), false)
		parts[place]++
	})
	// 12 is divided among twelve places in as many ways as eleven ends are chosen among 23.
	if count != 1352078 {
		t.Errorf("%d distributions were tried", count)
	}
}

func TestCircleOkOfOtherSums(t *testing.T) {
	for _, sum := range []int{0, 1, 2, 3} {
		eachDistribution(sum, func(parts []int) {
			checkCircleOk(t, circleOf(parts...), false)
			for i := range parts {
				// The rest of the comma at one place makes a circle, one part less and one part more do not.
				for change := -1; change <= 1; change++ {
					parts[i] += 12 - sum + change
					checkCircleOk(t, circleOf(parts...), change == 0)
					parts[i] -= 12 - sum + change
				}
			}
		})
	}
}

func TestEqualCircle(t *testing.T) {
	c := impl.EqualCircle()
	if want := slices.Repeat([]int{1}, 12); !slices.Equal(c.Parts, want) {
		t.Fatalf("EqualCircle() = %v", c)
	}
	checkCircleOk(t, c, true)
	checkCircleText(t, c, "1,1,1,1,1,1,1,1,1,1,1,1")
	for i, want := range []impl.Interval{
		tone(0, 0, 0, 1), tone(7, 0, 0, 12), tone(1, 0, 0, 6), tone(3, 0, 0, 4), tone(1, 0, 0, 3), tone(11, 0, 0, 12),
		tone(1, 0, 0, 2), tone(1, 0, 0, 12), tone(2, 0, 0, 3), tone(1, 0, 0, 4), tone(5, 0, 0, 6), tone(5, 0, 0, 12),
	} {
		checkPitchAt(t, c, i, want)
		checkPitchAt(t, c, i, impl.SimplestOf(tone(7*i%12, 0, 0, 12)))
		checkFifthAt(t, c, i, tone(7, 0, 0, 12))
		checkTurn(t, c, i, c.Parts...)
	}
}

// In ascending order, the keys of the equal circle are one twelfth of an octave apart.
func TestEqualCircleHasEqualSteps(t *testing.T) {
	var pitches []impl.Interval
	for i := range 12 {
		pitches = append(pitches, impl.PitchAt(impl.EqualCircle(), i))
	}
	slices.SortFunc(pitches, impl.CompareIntervals)
	checkSteps(t, pitches, slices.Repeat([]impl.Interval{tone(1, 0, 0, 12)}, 12)...)
	step := impl.StepSize(impl.BestMap(12))
	for i, pitch := range pitches {
		checkMultiple(t, step, i, pitch, true)
	}
}

func TestFifthAt(t *testing.T) {
	for part, want := range []impl.Interval{
		tone(-1, 1, 0, 1), tone(7, 0, 0, 12), tone(13, -6, 0, 6), tone(15, -8, 0, 4), tone(16, -9, 0, 3), tone(83, -48, 0, 12), tone(17, -10, 0, 2),
		tone(121, -72, 0, 12), tone(35, -21, 0, 3), tone(53, -32, 0, 4), tone(89, -54, 0, 6), tone(197, -120, 0, 12), tone(18, -11, 0, 1),
	} {
		for i := range 12 {
			parts := make([]int, 12)
			parts[i] = part
			parts[(i+7)%12] += 12 - part
			checkFifthAt(t, circleOf(parts...), i, want)
			parts = make([]int, 12)
			parts[i] = part
			parts[(i+1)%12] += 12 - part
			checkFifthAt(t, circleOf(parts...), i, want)
			checkFifthAt(t, circleOf(parts...), (i+1)%12, narrowedFifthOf(12-part))
		}
	}
}

func TestFifthsAreNarrowerByTheParts(t *testing.T) {
	for _, c := range append(manyCircles(), knownCircles()...) {
		for i, part := range c.Parts {
			checkFifthAt(t, c, i, narrowedFifthOf(part))
		}
	}
	for _, c := range knownCircles() {
		for i, part := range c.Parts {
			fifth := impl.FifthAt(c, i)
			// With its parts of the comma, the fifth is pure again.
			checkSum(t, fifth, tone(-19*part, 12*part, 0, 12), tone(-1, 1, 0, 1), true)
			checkSimplest(t, fifth, fifth)
			order := -1
			if part == 0 {
				order = 0
			}
			checkOrder(t, fifth, tone(-1, 1, 0, 1), order)
		}
	}
}

func TestMorePartsMakeNarrowerFifths(t *testing.T) {
	for _, c := range []impl.Circle{circleOf(0, 1, 2, 3, 4, 2, 0, 0, 0, 0, 0, 0), circleOf(5, 0, 7, 0, 0, 0, 0, 0, 0, 0, 0, 0), circleOf(8, 0, 0, 1, 0, 0, 0, 3, 0, 0, 0, 0)} {
		for i, part := range c.Parts {
			for j, other := range c.Parts {
				checkOrder(t, impl.FifthAt(c, i), impl.FifthAt(c, j), min(max(other-part, -1), 1))
			}
		}
	}
}

func TestTwelveFifthsAreSevenOctaves(t *testing.T) {
	for _, c := range append(manyCircles(), knownCircles()...) {
		sum, fractions := prime(), exponentsOf(prime())
		for i := range 12 {
			fifth := impl.FifthAt(c, i)
			sum = foundSum(t, sum, fifth)
			fractions = fractions.plus(exponentsOf(fifth))
		}
		if sum != impl.PureOf(7, 0, 0) {
			t.Errorf("the twelve fifths of %v are %v", c, sum)
		}
		if whole, ok := fractions.simplest(); whole != tone(7, 0, 0, 1) || !ok {
			t.Errorf("the twelve fifths of %v are, as fractions, %v", c, whole)
		}
	}
}

// From every key on, in both directions, the twelve fifths lead back to it.
func TestFifthsFromEveryKey(t *testing.T) {
	for _, c := range append(knownCircles(), circleOf(5, 0, 7, 0, 0, 0, 0, 0, 0, 0, 0, 0), circleOf(0, 0, 1, 0, 0, 11, 0, 0, 0, 0, 0, 0)) {
		for key := range 12 {
			up, down := prime(), prime()
			for i := range 12 {
				up = foundSum(t, up, impl.FifthAt(c, (key+i)%12))
				down = foundSum(t, down, negated(impl.FifthAt(c, (key+11-i)%12)))
			}
			if up != tone(7, 0, 0, 1) || down != tone(-7, 0, 0, 1) {
				t.Errorf("from key %d of %v, the fifths lead to %v and %v", key, c, up, down)
			}
		}
	}
}

func TestPitchAt(t *testing.T) {
	// The comma is in the fifths above C, G, D and B.
	c := circleOf(3, 3, 3, 0, 0, 3, 0, 0, 0, 0, 0, 0)
	for i, want := range []impl.Interval{
		tone(0, 0, 0, 1), tone(15, -8, 0, 4), tone(13, -8, 0, 2), tone(41, -24, 0, 4), tone(33, -20, 0, 4), tone(29, -16, 0, 4),
		tone(10, -6, 0, 1), tone(8, -5, 0, 1), tone(7, -4, 0, 1), tone(5, -3, 0, 1), tone(4, -2, 0, 1), tone(2, -1, 0, 1),
	} {
		checkPitchAt(t, c, i, want)
	}
	// It is in the fifths above F, C, G, D, A and E.
	c = circleOf(2, 2, 2, 2, 2, 0, 0, 0, 0, 0, 0, 2)
	for i, want := range []impl.Interval{
		tone(0, 0, 0, 1), tone(13, -6, 0, 6), tone(10, -6, 0, 3), tone(11, -6, 0, 2), tone(20, -12, 0, 3), tone(53, -30, 0, 6),
		tone(41, -24, 0, 6), tone(29, -18, 0, 6), tone(23, -12, 0, 6), tone(11, -6, 0, 6), tone(5, 0, 0, 6), tone(-7, 6, 0, 6),
	} {
		checkPitchAt(t, c, i, want)
	}
}

func TestPitchesAreTheFifthsBefore(t *testing.T) {
	table := pitchTable()
	for _, c := range append(manyCircles(), knownCircles()...) {
		sum, parts := prime(), 0
		for i, part := range c.Parts {
			pitch := impl.PitchAt(c, i)
			if pitch != table[i][parts] {
				t.Errorf("PitchAt(%v, %d) = %v; want %v", c, i, pitch, table[i][parts])
			}
			checkWithin(t, sum, pitch, true)
			sum = foundSum(t, sum, impl.FifthAt(c, i))
			parts += part
		}
	}
}

func TestPitchesAreWithinAnOctave(t *testing.T) {
	for _, c := range knownCircles() {
		for i := range 12 {
			pitch := impl.PitchAt(c, i)
			if !impl.IntervalOk(pitch) || !isWithin(pitch) {
				t.Errorf("PitchAt(%v, %d) = %v is not within an octave", c, i, pitch)
			}
			checkSimplest(t, pitch, pitch)
		}
	}
}

// A fifth leads from each pitch to the next one, and from the last one back to the C.
func TestFifthsLeadFromPitchToPitch(t *testing.T) {
	for _, c := range append(knownCircles(), narrowAt(0), narrowAt(5), narrowAt(11), circleOf(0, 0, 1, 0, 0, 11, 0, 0, 0, 0, 0, 0)) {
		for i := range 12 {
			up := foundSum(t, impl.PitchAt(c, i), impl.FifthAt(c, i))
			checkClass(t, up, impl.PitchAt(c, (i+1)%12), true)
		}
	}
}

func TestPitchOfKeyZero(t *testing.T) {
	for _, c := range append(manyCircles(), knownCircles()...) {
		checkPitchAt(t, c, 0, tone(0, 0, 0, 1))
		checkPitchAt(t, c, 0, impl.PureOf(0, 0, 0))
	}
}

// Where the parts before a key are the same, so is its pitch, whatever the parts behind it are.
func TestPitchesDependOnThePartsBefore(t *testing.T) {
	first := circleOf(1, 0, 2, 3, 0, 6, 0, 0, 0, 0, 0, 0)
	for _, other := range []impl.Circle{
		circleOf(1, 0, 2, 3, 6, 0, 0, 0, 0, 0, 0, 0), circleOf(1, 0, 2, 3, 0, 0, 0, 0, 0, 0, 0, 6), circleOf(1, 0, 2, 3, 1, 1, 1, 1, 1, 1, 0, 0),
	} {
		for i := range 5 {
			checkPitchAt(t, other, i, impl.PitchAt(first, i))
		}
		checkFifthAt(t, other, 3, impl.FifthAt(first, 3))
	}
	// The order of the parts before it does not matter either.
	for _, other := range []impl.Circle{circleOf(3, 2, 0, 1, 0, 6, 0, 0, 0, 0, 0, 0), circleOf(0, 6, 0, 0, 0, 0, 6, 0, 0, 0, 0, 0)} {
		checkPitchAt(t, other, 4, impl.PitchAt(first, 4))
	}
}

func TestOneNarrowFifth(t *testing.T) {
	for narrow := range 12 {
		c := narrowAt(narrow)
		checkCircleOk(t, c, true)
		for i := range 12 {
			if i == narrow {
				checkFifthAt(t, c, i, tone(18, -11, 0, 1))
			} else {
				checkFifthAt(t, c, i, tone(-1, 1, 0, 1))
			}
			if i <= narrow {
				// Up to the key below the narrow fifth, all fifths are pure.
				checkPitchAt(t, c, i, fifthsOf(i))
			} else {
				// The keys behind it are reached by pure fifths downwards from C.
				checkPitchAt(t, c, i, fifthsOf(i-12))
			}
			checkTurn(t, c, i, narrowAt((narrow+12-i)%12).Parts...)
		}
	}
}

// The narrow fifth is the wolf of pure fifths, and the pitches are those of their chain.
func TestOneNarrowFifthIsTheWolf(t *testing.T) {
	wolf := foundWolf(t, part{0, 1})
	for narrow := range 12 {
		c := narrowAt(narrow)
		checkFifthAt(t, c, narrow, wolf)
		var pitches []impl.Interval
		for i := range 12 {
			pitches = append(pitches, impl.PitchAt(c, i))
		}
		slices.SortFunc(pitches, impl.CompareIntervals)
		checkChain(t, narrow-11, narrow, pitches...)
	}
}

func TestNarrowFifthAboveOneKey(t *testing.T) {
	// Key 8 is the last one that pure fifths upwards from C reach.
	c := circleOf(0, 0, 0, 0, 0, 0, 0, 0, 12, 0, 0, 0)
	checkPitchAt(t, c, 8, tone(-12, 8, 0, 1))
	checkPitchAt(t, c, 9, tone(5, -3, 0, 1))
	checkPitchAt(t, c, 11, tone(2, -1, 0, 1))
	checkFifthAt(t, c, 7, tone(-1, 1, 0, 1))
	checkFifthAt(t, c, 8, tone(18, -11, 0, 1))
	checkFifthAt(t, c, 9, tone(-1, 1, 0, 1))
	checkPitchAt(t, narrowAt(0), 1, tone(18, -11, 0, 1))
	checkPitchAt(t, narrowAt(11), 11, tone(-17, 11, 0, 1))
	checkPitchAt(t, narrowAt(10), 11, tone(2, -1, 0, 1))
	checkTurn(t, c, 8, 12, 0, 0, 0, 0, 0, 0, 0, 0, 0, 0, 0)
	checkTurn(t, c, 9, 0, 0, 0, 0, 0, 0, 0, 0, 0, 0, 0, 12)
}

func TestTurnCircle(t *testing.T) {
	c := circleOf(3, 0, 1, 0, 2, 0, 0, 4, 0, 1, 0, 1)
	for n, want := range [][]int{
		{3, 0, 1, 0, 2, 0, 0, 4, 0, 1, 0, 1}, {0, 1, 0, 2, 0, 0, 4, 0, 1, 0, 1, 3}, {1, 0, 2, 0, 0, 4, 0, 1, 0, 1, 3, 0},
		{0, 2, 0, 0, 4, 0, 1, 0, 1, 3, 0, 1}, {2, 0, 0, 4, 0, 1, 0, 1, 3, 0, 1, 0}, {0, 0, 4, 0, 1, 0, 1, 3, 0, 1, 0, 2},
		{0, 4, 0, 1, 0, 1, 3, 0, 1, 0, 2, 0}, {4, 0, 1, 0, 1, 3, 0, 1, 0, 2, 0, 0}, {0, 1, 0, 1, 3, 0, 1, 0, 2, 0, 0, 4},
		{1, 0, 1, 3, 0, 1, 0, 2, 0, 0, 4, 0}, {0, 1, 3, 0, 1, 0, 2, 0, 0, 4, 0, 1}, {1, 3, 0, 1, 0, 2, 0, 0, 4, 0, 1, 0},
	} {
		checkTurn(t, c, n, want...)
	}
}

func TestTurnedParts(t *testing.T) {
	for _, c := range append(manyCircles(), knownCircles()...) {
		for n := range 12 {
			turned := impl.TurnCircle(c, n)
			checkCircleOk(t, turned, true)
			if !slices.Equal(turned.Parts, turnedParts(c.Parts, n)) {
				t.Errorf("TurnCircle(%v, %d) = %v", c, n, turned)
			}
		}
		checkTurn(t, c, 0, c.Parts...)
	}
}

func TestTurnsAreAdded(t *testing.T) {
	for _, c := range append(knownCircles(), circleOf(3, 0, 1, 0, 2, 0, 0, 4, 0, 1, 0, 1), narrowAt(7)) {
		for a := range 12 {
			turned := impl.TurnCircle(c, a)
			for b := range 12 {
				checkTurn(t, turned, b, impl.TurnCircle(c, (a+b)%12).Parts...)
			}
			checkTurn(t, turned, (12-a)%12, c.Parts...)
		}
	}
}

// A turned circle has the fifths and the pitches of the circle, counted from another key.
func TestTurnedFifthsAndPitches(t *testing.T) {
	for _, c := range append(knownCircles(), circleOf(3, 0, 1, 0, 2, 0, 0, 4, 0, 1, 0, 1), narrowAt(7)) {
		for n := range 12 {
			turned := impl.TurnCircle(c, n)
			for i := range 12 {
				checkFifthAt(t, turned, i, impl.FifthAt(c, (i+n)%12))
				up := foundSum(t, impl.PitchAt(turned, i), impl.PitchAt(c, n))
				checkClass(t, up, impl.PitchAt(c, (i+n)%12), true)
			}
		}
	}
}

func TestCircleText(t *testing.T) {
	checkCircleText(t, circleOf(3, 3, 3, 0, 0, 3, 0, 0, 0, 0, 0, 0), "3,3,3,0,0,3,0,0,0,0,0,0")
	checkCircleText(t, circleOf(0, 1, 2, 0, 9, 0, 0, 0, 0, 0, 0, 0), "0,1,2,0,9,0,0,0,0,0,0,0")
	checkCircleText(t, circleOf(10, 0, 0, 0, 0, 0, 0, 0, 0, 0, 0, 2), "10,0,0,0,0,0,0,0,0,0,0,2")
	checkCircleText(t, circleOf(0, 11, 0, 0, 0, 0, 0, 1, 0, 0, 0, 0), "0,11,0,0,0,0,0,1,0,0,0,0")
	checkCircleText(t, circleOf(0, 0, 0, 0, 0, 0, 0, 0, 0, 0, 0, 12), "0,0,0,0,0,0,0,0,0,0,0,12")
	checkCircleText(t, circleOf(12, 0, 0, 0, 0, 0, 0, 0, 0, 0, 0, 0), "12,0,0,0,0,0,0,0,0,0,0,0")
}

func TestCircleTextIsThePartsInDecimal(t *testing.T) {
	seen := map[string]bool{}
	for _, c := range append(manyCircles(), knownCircles()...) {
		want := strconv.Itoa(c.Parts[0])
		for _, part := range c.Parts[1:] {
			want += "," + strconv.Itoa(part)
		}
		checkCircleText(t, c, want)
		seen[impl.CircleText(c)] = true
	}
	if len(seen) < 1000 {
		t.Errorf("only %d circles were tried", len(seen))
	}
}

// Each part that is wrong here leaves the sum as it should be.
func TestCirclesWithWrongPartsHaveTheSum(t *testing.T) {
	for _, c := range circlesOfWrongParts() {
		sum := 0
		for _, part := range c.Parts {
			sum += part
		}
		if len(c.Parts) != 12 || sum != 12 {
			t.Errorf("the parts %v have the sum %d", c.Parts, sum)
		}
	}
}

func TestCirclesInvalid(t *testing.T) {
	for _, c := range invalidCircles() {
		checkNoCircle(t, c)
	}
}

func TestKeysInvalid(t *testing.T) {
	for _, c := range append(knownCircles(), narrowAt(0), narrowAt(11)) {
		for _, i := range noKeys() {
			checkNoKey(t, c, i)
		}
	}
}

// The memory behind the twelve parts is none of the circle's.
func TestPartsBehindTheCircle(t *testing.T) {
	memory := append(slices.Repeat([]int{1}, 12), 12, 0, 0, -7)
	c := circleOf(memory[:12]...)
	checkCircleOk(t, c, true)
	checkCircleText(t, c, "1,1,1,1,1,1,1,1,1,1,1,1")
	for _, i := range []int{12, 13, 14, 15} {
		checkNoKey(t, c, i)
	}
	checkNoCircle(t, circleOf(memory[:11]...))
	checkNoCircle(t, circleOf(memory[:13]...))
	checkNoCircle(t, circleOf(memory...))
	checkTurn(t, circleOf(memory[2:14]...), 0)
	checkTurn(t, circleOf(memory[12:]...), 0)
}

func askEverything(c impl.Circle) {
	impl.CircleOk(c)
	impl.CircleText(c)
	for _, i := range append(noKeys(), 0, 1, 2, 3, 4, 5, 6, 7, 8, 9, 10, 11) {
		impl.FifthAt(c, i)
		impl.PitchAt(c, i)
		impl.TurnCircle(c, i)
	}
}

func TestCircleArgumentsAreKept(t *testing.T) {
	for _, c := range slices.Concat(knownCircles(), circlesOfWrongLength(), circlesOfWrongParts(), circlesWithGreatParts()) {
		memory := append(slices.Clone(c.Parts), 77, -77, 77, 77)
		before := slices.Clone(memory)
		askEverything(circleOf(memory[:len(c.Parts)]...))
		if !slices.Equal(memory, before) {
			t.Errorf("the parts %v, or what lies behind them, became %v", before, memory)
		}
	}
}

// overwrite changes the parts and what lies behind them.
func overwrite(c impl.Circle) {
	memory := c.Parts[:cap(c.Parts)]
	for i := range memory {
		memory[i] = 77
	}
}

func TestTurnedCirclesAreNewMemory(t *testing.T) {
	for n := range 12 {
		memory := []int{3, 0, 1, 0, 2, 0, 0, 4, 0, 1, 0, 1, 55, 55, 55, 55}
		before := slices.Clone(memory)
		c := circleOf(memory[:12]...)
		want := turnedParts(c.Parts, n)
		first, second := impl.TurnCircle(c, n), impl.TurnCircle(c, n)
		overwrite(first)
		if !slices.Equal(memory, before) {
			t.Errorf("a circle turned by %d shares memory with its argument: %v", n, memory)
		}
		if !slices.Equal(second.Parts, want) {
			t.Errorf("two circles turned by %d share memory: %v", n, second)
		}
		overwrite(c)
		if !slices.Equal(second.Parts, want) {
			t.Errorf("a circle turned by %d follows its argument: %v", n, second)
		}
		checkTurn(t, circleOf(before[:12]...), n, want...)
	}
}

func TestEqualCirclesAreNewMemory(t *testing.T) {
	want := slices.Repeat([]int{1}, 12)
	first, second := impl.EqualCircle(), impl.EqualCircle()
	overwrite(first)
	if !slices.Equal(second.Parts, want) {
		t.Errorf("two equal circles share memory: %v", second)
	}
	if third := impl.EqualCircle(); !slices.Equal(third.Parts, want) {
		t.Errorf("EqualCircle() = %v after a result was changed", third)
	}
}

// A circle that was asked for changes no other one, nor does one that was rejected.
func TestCirclesKeepNothing(t *testing.T) {
	c := circleOf(3, 3, 3, 0, 0, 3, 0, 0, 0, 0, 0, 0)
	for range 3 {
		checkFifthAt(t, c, 0, tone(15, -8, 0, 4))
		checkPitchAt(t, impl.EqualCircle(), 1, tone(7, 0, 0, 12))
		checkNoCircle(t, circleOf(3, 3, 3, 0, 0, 3, 0, 0, 0, 0, 0, 1))
		checkPitchAt(t, c, 1, tone(15, -8, 0, 4))
		checkNoKey(t, c, 12)
		checkTurn(t, c, 5, 3, 0, 0, 0, 0, 0, 0, 3, 3, 3, 0, 0)
		checkCircleText(t, c, "3,3,3,0,0,3,0,0,0,0,0,0")
	}
	// The same memory with other parts is another circle.
	c.Parts[5], c.Parts[6] = 0, 3
	checkFifthAt(t, c, 5, tone(-1, 1, 0, 1))
	checkFifthAt(t, c, 6, tone(15, -8, 0, 4))
	checkCircleText(t, c, "3,3,3,0,0,0,3,0,0,0,0,0")
}
