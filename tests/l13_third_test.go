package tests

import (
	"slices"
	"testing"

	"loop.example/g00989/impl"
)

// mixedCircle has thirds of five different sums, in no order.
func mixedCircle() impl.Circle { return circleOf(3, 0, 1, 0, 2, 0, 0, 4, 0, 1, 0, 1) }

// sumFrom adds some parts one after the other, and begins again behind the last one.
func sumFrom(parts []int, i, count int) int {
	sum := 0
	for ; count > 0; count-- {
		sum += parts[i]
		if i++; i == len(parts) {
			i = 0
		}
	}
	return sum
}

// thirdsOf are the sums of four parts from every key on.
func thirdsOf(c impl.Circle) []int {
	var thirds []int
	for i := range 12 {
		thirds = append(thirds, sumFrom(c.Parts, i, 4))
	}
	return thirds
}

// bestKeysOf collects the keys of the greatest sum, then those of the next one, and so on.
func bestKeysOf(c impl.Circle) []int {
	var keys []int
	thirds := thirdsOf(c)
	for sum := 12; sum >= 0; sum-- {
		for i, third := range thirds {
			if third == sum {
				keys = append(keys, i)
			}
		}
	}
	return keys
}

// commonestThird is the number that most of the thirds are, and how many they are.
func commonestThird(thirds []int) (int, int) {
	counts := [13]int{}
	best := 0
	for _, third := range thirds {
		if counts[third]++; counts[third] > counts[best] {
			best = third
		}
	}
	return best, counts[best]
}

// thirdTable has the third above a key for each sum of its four parts.
func thirdTable() []impl.Interval {
	return []impl.Interval{
		tone(-6, 4, 0, 1), tone(-53, 36, 0, 12), tone(-17, 12, 0, 6), tone(-5, 4, 0, 4), tone(1, 0, 0, 3), tone(23, -12, 0, 12), tone(7, -4, 0, 2),
		tone(61, -36, 0, 12), tone(20, -12, 0, 3), tone(33, -20, 0, 4), tone(59, -36, 0, 6), tone(137, -84, 0, 12), tone(13, -8, 0, 1),
	}
}

// errorTable has the differences of these thirds to the pure one.
func errorTable() []impl.Interval {
	return []impl.Interval{
		tone(-4, 4, -1, 1), tone(-29, 36, -12, 12), tone(-5, 12, -6, 6), tone(3, 4, -4, 4), tone(7, 0, -3, 3), tone(47, -12, -12, 12), tone(11, -4, -2, 2),
		tone(85, -36, -12, 12), tone(26, -12, -3, 3), tone(41, -20, -4, 4), tone(71, -36, -6, 6), tone(161, -84, -12, 12), tone(15, -8, -1, 1),
	}
}

// circlesOfThird have a key whose four parts have a sum, side by side or apart, and the rest of the comma in other fifths.
func circlesOfThird(key, sum int) []impl.Circle {
	var list []impl.Circle
	for first := range 4 {
		for second := range 4 {
			for rest := 4; rest < 12; rest++ {
				parts := make([]int, 12)
				parts[(key+first)%12] += sum / 2
				parts[(key+second)%12] += sum - sum/2
				parts[(key+rest)%12] += 12 - sum
				list = append(list, circleOf(parts...))
			}
		}
	}
	return list
}

// movedTwelfths are equal circles in which the fifth behind the four above a key has given its part to the last of them, and in the
// second circle the fifth before them has given its part to the first of them too.
func movedTwelfths(key int) []impl.Circle {
	one, two := slices.Repeat([]int{1}, 12), slices.Repeat([]int{1}, 12)
	one[(key+3)%12]++
	one[(key+4)%12]--
	two[(key+3)%12]++
	two[(key+4)%12]--
	two[key]++
	two[(key+11)%12]--
	return []impl.Circle{circleOf(one...), circleOf(two...)}
}

func checkThirdParts(t *testing.T, c impl.Circle, i, want int) {
	t.Helper()
	if got := impl.ThirdParts(c, i); got != want {
		t.Errorf("ThirdParts(%v, %d) = %d; want %d", c, i, got, want)
	}
}

func checkThirdAt(t *testing.T, c impl.Circle, i int, want impl.Interval) {
	t.Helper()
	if got := impl.ThirdAt(c, i); got != want {
		t.Errorf("ThirdAt(%v, %d) = %v; want %v", c, i, got, want)
	}
}

func checkThirdError(t *testing.T, c impl.Circle, i int, want impl.Interval) {
	t.Helper()
	if got := impl.ThirdError(c, i); got != want {
		t.Errorf("ThirdError(%v, %d) = %v; want %v", c, i, got, want)
	}
}

func checkWideThird(t *testing.T, c impl.Circle, i int, want bool) {
	t.Helper()
	if got := impl.IsWideThird(c, i); got != want {
		t.Errorf("IsWideThird(%v, %d) = %v", c, i, got)
	}
}

func checkBestKeys(t *testing.T, c impl.Circle, want ...int) {
	t.Helper()
	if got := impl.BestKeys(c); !slices.Equal(got, want) {
		t.Errorf("BestKeys(%v) = %v; want %v", c, got, want)
	}
}

func checkSmallThirdParts(t *testing.T, c impl.Circle, i, want int) {
	t.Helper()
	if got := impl.SmallThirdParts(c, i); got != want {
		t.Errorf("SmallThirdParts(%v, %d) = %d; want %d", c, i, got, want)
	}
}

// checkThird asks for every result that follows from the sum of the four parts.
func checkThird(t *testing.T, c impl.Circle, i, sum int) {
	t.Helper()
	checkThirdParts(t, c, i, sum)
	checkThirdAt(t, c, i, thirdTable()[sum])
	checkThirdError(t, c, i, errorTable()[sum])
	checkWideThird(t, c, i, sum < 12)
}

func checkNoThird(t *testing.T, c impl.Circle, i int) {
	t.Helper()
	checkThirdParts(t, c, i, 0)
	checkThirdAt(t, c, i, impl.Interval{})
	checkThirdError(t, c, i, impl.Interval{})
	checkWideThird(t, c, i, false)
	checkSmallThirdParts(t, c, i, 0)
}

// The references of these tests are themselves held against the rules of the document.
func TestTablesOfThirds(t *testing.T) {
	if len(thirdTable()) != 13 || len(errorTable()) != 13 {
		t.Fatalf("there are %d thirds and %d errors", len(thirdTable()), len(errorTable()))
	}
	for sum, third := range thirdTable() {
		if want, ok := exponentsOf(tone(19*sum-72, 48-12*sum, 0, 12)).simplest(); third != want || !ok {
			t.Errorf("the third with %d parts is %v", sum, want)
		}
		if want, ok := exponentsOf(third).plus(exponentsOf(tone(2, 0, -1, 1))).simplest(); errorTable()[sum] != want || !ok {
			t.Errorf("the error with %d parts is %v", sum, want)
		}
		if order := bigOrder(errorTable()[sum], prime()); (order > 0) != (sum < 12) || order == 0 {
			t.Errorf("with %d parts, the third is to the pure one as %d to 0", sum, order)
		}
	}
}

func TestThirdParts(t *testing.T) {
	for i, want := range []int{9, 6, 6, 3, 3, 3, 0, 0, 0, 3, 6, 9} {
		checkThird(t, circleOf(3, 3, 3, 0, 0, 3, 0, 0, 0, 0, 0, 0), i, want)
	}
	for i, want := range []int{8, 8, 6, 4, 2, 0, 0, 0, 2, 4, 6, 8} {
		checkThird(t, circleOf(2, 2, 2, 2, 2, 0, 0, 0, 0, 0, 0, 2), i, want)
	}
	for i, want := range []int{4, 3, 3, 2, 6, 4, 5, 5, 2, 5, 4, 5} {
		checkThird(t, mixedCircle(), i, want)
	}
}

// The four parts of key 8 end with the last one; for each key behind it, one more of the first parts is among the four.
func TestThirdsAtTheEndOfTheCircle(t *testing.T) {
	c := circleOf(1, 3, 2, 0, 0, 0, 0, 0, 0, 0, 1, 5)
	for i, want := range map[int]int{7: 1, 8: 6, 9: 7, 10: 10, 11: 11, 0: 6} {
		checkThird(t, c, i, want)
	}
	for i, want := range map[int]int{2: 3, 3: 6, 4: 7, 8: 12, 9: 12, 10: 12, 11: 11, 0: 6} {
		checkSmallThirdParts(t, c, i, want)
	}
	for i := 8; i < 12; i++ {
		for first := 0; first < i-8; first++ {
			checkThird(t, narrowAt(first), i, 12)
		}
		checkThird(t, narrowAt(i-8), i, 0)
		checkThird(t, narrowAt(i), i, 12)
		checkThird(t, narrowAt(i-1), i, 0)
	}
}

func TestThirdsOfEverySum(t *testing.T) {
	for key := range 12 {
		for sum := range 13 {
			for _, c := range circlesOfThird(key, sum) {
				checkThird(t, c, key, sum)
			}
		}
	}
}

func TestThirdsAreFourPartsOfManyCircles(t *testing.T) {
	for _, c := range append(manyCircles(), knownCircles()...) {
		for i, want := range thirdsOf(c) {
			checkThird(t, c, i, want)
		}
	}
}

// All ways to divide the comma, with every key: four parts make a third, nine a small third, and three are left of the twelve.
func TestThirdPartsOfEveryDistribution(t *testing.T) {
	count := 0
	eachDistribution(12, func(parts []int) {
		count++
		c := circleOf(parts...)
		for i := range 12 {
			if got, want := impl.ThirdParts(c, i), sumFrom(parts, i, 4); got != want {
				t.Fatalf("ThirdParts(%v, %d) = %d; want %d", c, i, got, want)
			}
			if got, want := impl.SmallThirdParts(c, i), 12-sumFrom(parts, (i+9)%12, 3); got != want {
				t.Fatalf("SmallThirdParts(%v, %d) = %d; want %d", c, i, got, want)
			}
		}
	})
	if count != 1352078 {
		t.Errorf("%d distributions were tried", count)
	}
}

func TestThirdsAreFourFifthsWithoutTwoOctaves(t *testing.T) {
	for _, c := range append(manyCircles(), knownCircles()...) {
		for i := range 12 {
			sum := tone(-2, 0, 0, 1)
			for k := range 4 {
				sum = foundSum(t, sum, impl.FifthAt(c, (i+k)%12))
			}
			checkThirdAt(t, c, i, sum)
		}
	}
}

func TestThirdsAreFourFifthsAsFractions(t *testing.T) {
	for _, c := range append(knownCircles(), mixedCircle(), narrowAt(0), narrowAt(11), circleOf(0, 0, 1, 0, 0, 11, 0, 0, 0, 0, 0, 0)) {
		for i := range 12 {
			fractions := exponentsOf(tone(-2, 0, 0, 1))
			for k := range 4 {
				fractions = fractions.plus(exponentsOf(impl.FifthAt(c, (i+k)%12)))
			}
			want, ok := fractions.simplest()
			if !ok {
				t.Fatalf("four fifths above key %d of %v are beyond the limits", i, c)
			}
			checkThirdAt(t, c, i, want)
		}
	}
}

// A third leads from each pitch to that of the fourth key behind it.
func TestThirdsLeadFromPitchToPitch(t *testing.T) {
	for _, c := range append(knownCircles(), mixedCircle(), narrowAt(0), narrowAt(6), narrowAt(11)) {
		for i := range 12 {
			checkClass(t, foundSum(t, impl.PitchAt(c, i), impl.ThirdAt(c, i)), impl.PitchAt(c, (i+4)%12), true)
		}
	}
}

func TestThirdErrorsAreDifferencesToThePureThird(t *testing.T) {
	for _, c := range append(manyCircles(), knownCircles()...) {
		for i := range 12 {
			third, difference := impl.ThirdAt(c, i), impl.ThirdError(c, i)
			if sum := foundSum(t, difference, tone(-2, 0, 1, 1)); sum != third {
				t.Errorf("the pure third with the error above key %d of %v is %v; want %v", i, c, sum, third)
			}
			want, ok := exponentsOf(third).plus(exponentsOf(tone(2, 0, -1, 1))).simplest()
			if !ok {
				t.Fatalf("the error above key %d of %v is beyond the limits", i, c)
			}
			checkThirdError(t, c, i, want)
		}
	}
}

func TestWideThirdsAreGreaterThanThePureThird(t *testing.T) {
	for _, c := range append(manyCircles(), knownCircles()...) {
		for i := range 12 {
			checkWideThird(t, c, i, bigOrder(impl.ThirdError(c, i), prime()) > 0)
			checkWideThird(t, c, i, bigOrder(impl.ThirdAt(c, i), tone(-2, 0, 1, 1)) > 0)
		}
	}
}

func TestThirdsAreSimplest(t *testing.T) {
	for sum := range 13 {
		c := circlesOfThird(3, sum)[0]
		checkSimplest(t, impl.ThirdAt(c, 3), impl.ThirdAt(c, 3))
		checkSimplest(t, impl.ThirdError(c, 3), impl.ThirdError(c, 3))
	}
}

// Some errors are known commas, or roots of them.
func TestThirdErrorsAreCommas(t *testing.T) {
	for _, known := range []struct{ sum, times, comma int }{{0, 1, 2}, {3, 4, 6}, {4, 3, 3}, {6, 2, 5}, {12, -1, 4}} {
		for key := range 12 {
			for _, c := range circlesOfThird(key, known.sum) {
				checkMultiple(t, impl.ThirdError(c, key), known.times, impl.CommaOf(known.comma), true)
			}
		}
	}
}

func TestMorePartsMakeNarrowerThirds(t *testing.T) {
	for _, c := range append(knownCircles(), mixedCircle(), circleOf(1, 3, 2, 0, 0, 0, 0, 0, 0, 0, 1, 5)) {
		thirds := thirdsOf(c)
		for i, third := range thirds {
			for k, other := range thirds {
				checkOrder(t, impl.ThirdAt(c, i), impl.ThirdAt(c, k), min(max(other-third, -1), 1))
			}
		}
	}
}

// The comma is in one fifth: it is one of the four above the key below it and above the three keys before that one.
func TestThirdsWithOneNarrowFifth(t *testing.T) {
	for narrow := range 12 {
		c := narrowAt(narrow)
		for i := range 12 {
			sum, small := 0, 0
			if (narrow-i+12)%12 < 4 {
				sum = 12
			}
			if (narrow-i+12)%12 < 9 {
				small = 12
			}
			checkThird(t, c, i, sum)
			checkSmallThirdParts(t, c, i, small)
		}
		best := []int{narrow, (narrow + 11) % 12, (narrow + 10) % 12, (narrow + 9) % 12}
		slices.Sort(best)
		for i := range 12 {
			if !slices.Contains(best, i) {
				best = append(best, i)
			}
		}
		checkBestKeys(t, c, best...)
	}
}

// With all twelve parts a third is narrower than the pure one by the schisma, with eleven it is still wider.
func TestAThirdThatIsNarrow(t *testing.T) {
	checkWideThird(t, narrowAt(0), 0, false)
	checkWideThird(t, narrowAt(0), 1, true)
	checkThirdError(t, narrowAt(0), 0, negated(impl.CommaOf(4)))
	checkThirdAt(t, narrowAt(0), 0, tone(13, -8, 0, 1))
	checkThirdAt(t, narrowAt(0), 1, tone(-6, 4, 0, 1))
	for key := range 12 {
		for _, c := range circlesOfThird(key, 12) {
			checkWideThird(t, c, key, false)
		}
		for _, c := range circlesOfThird(key, 11) {
			checkWideThird(t, c, key, true)
		}
	}
}

func TestThirdsOfTheEqualCircle(t *testing.T) {
	c := impl.EqualCircle()
	for i := range 12 {
		checkThird(t, c, i, 4)
		checkThirdAt(t, c, i, tone(1, 0, 0, 3))
		checkThirdError(t, c, i, tone(7, 0, -3, 3))
		checkSmallThirdParts(t, c, i, 9)
	}
	checkBestKeys(t, c, 0, 1, 2, 3, 4, 5, 6, 7, 8, 9, 10, 11)
}

// Other circles too have equal thirds: those whose parts are the same from every fourth key on.
func TestCirclesWithEqualThirds(t *testing.T) {
	for _, four := range [][]int{{4, 0, 0, 0}, {0, 4, 0, 0}, {0, 0, 0, 4}, {1, 0, 3, 0}, {0, 2, 0, 2}, {0, 1, 2, 1}, {1, 2, 0, 1}} {
		c := circleOf(slices.Repeat(four, 3)...)
		for i := range 12 {
			checkThird(t, c, i, 4)
		}
		checkBestKeys(t, c, 0, 1, 2, 3, 4, 5, 6, 7, 8, 9, 10, 11)
	}
}

// The thirds of three keys, each four fifths above the one before, have all twelve parts. So one key alone never differs from eleven
// equal ones, and where as many as ten thirds are equal, each has four parts.
func TestNoKeyAloneHasAnotherThird(t *testing.T) {
	counts := [13]int{}
	eachDistribution(12, func(parts []int) {
		thirds := [12]int{}
		for i := range thirds {
			thirds[i] = impl.ThirdParts(circleOf(parts...), i)
		}
		third, count := commonestThird(thirds[:])
		counts[count]++
		if count >= 10 && third != 4 {
			t.Fatalf("%d thirds of %v have %d parts", count, parts, third)
		}
	})
	if counts[11] != 0 || counts[10] == 0 || counts[12] == 0 {
		t.Errorf("the numbers of circles, by how many of their thirds are equal, are %v", counts)
	}
}

// The nearest to a third that differs from eleven equal ones: one or two others differ too, but the key alone is the best one.
func TestOneKeyIsBetter(t *testing.T) {
	for key := range 12 {
		others := func(without ...int) []int {
			var keys []int
			for i := range 12 {
				if !slices.Contains(without, i) {
					keys = append(keys, i)
				}
			}
			return keys
		}
		second, third := (key+4)%12, (key+8)%12
		moved := movedTwelfths(key)
		checkThird(t, moved[0], key, 5)
		checkThird(t, moved[0], second, 3)
		for _, i := range others(key, second) {
			checkThird(t, moved[0], i, 4)
		}
		checkBestKeys(t, moved[0], slices.Concat([]int{key}, others(key, second), []int{second})...)
		checkThird(t, moved[1], key, 6)
		checkThird(t, moved[1], second, 3)
		checkThird(t, moved[1], third, 3)
		for _, i := range others(key, second, third) {
			checkThird(t, moved[1], i, 4)
		}
		last := []int{min(second, third), max(second, third)}
		checkBestKeys(t, moved[1], slices.Concat([]int{key}, others(key, second, third), last)...)
	}
}

func TestBestKeys(t *testing.T) {
	checkBestKeys(t, circleOf(3, 3, 3, 0, 0, 3, 0, 0, 0, 0, 0, 0), 0, 11, 1, 2, 10, 3, 4, 5, 9, 6, 7, 8)
	checkBestKeys(t, circleOf(2, 2, 2, 2, 2, 0, 0, 0, 0, 0, 0, 2), 0, 1, 11, 2, 10, 3, 9, 4, 8, 5, 6, 7)
	checkBestKeys(t, mixedCircle(), 4, 6, 7, 9, 11, 0, 5, 10, 1, 2, 3, 8)
	// The greatest third is above the last key.
	checkBestKeys(t, circleOf(1, 3, 2, 0, 0, 0, 0, 0, 0, 0, 1, 5), 11, 10, 9, 0, 8, 1, 2, 7, 3, 4, 5, 6)
}

func TestBestKeysAreInDescendingOrderOfThirds(t *testing.T) {
	for _, c := range append(manyCircles(), knownCircles()...) {
		checkBestKeys(t, c, bestKeysOf(c)...)
	}
	count := 0
	eachDistribution(12, func(parts []int) {
		if count%17 == 0 {
			checkBestKeys(t, circleOf(parts...), bestKeysOf(circleOf(parts...))...)
		}
		count++
	})
}

// A circle that is turned has the thirds of the circle, counted from another key.
func TestThirdsOfTurnedCircles(t *testing.T) {
	for _, c := range append(knownCircles(), mixedCircle(), narrowAt(7)) {
		for n := range 12 {
			turned := impl.TurnCircle(c, n)
			for i := range 12 {
				checkThird(t, turned, i, impl.ThirdParts(c, (i+n)%12))
				checkSmallThirdParts(t, turned, i, impl.SmallThirdParts(c, (i+n)%12))
			}
		}
	}
}

func TestSmallThirdParts(t *testing.T) {
	for i, want := range []int{10, 8, 8, 8, 11, 9, 10, 10, 8, 8, 7, 11} {
		checkSmallThirdParts(t, mixedCircle(), i, want)
	}
	for i, want := range []int{12, 9, 6, 3, 6, 9, 9, 9, 9, 12, 12, 12} {
		checkSmallThirdParts(t, circleOf(3, 3, 3, 0, 0, 3, 0, 0, 0, 0, 0, 0), i, want)
	}
}

func TestSmallThirdsAreNineParts(t *testing.T) {
	for _, c := range append(manyCircles(), knownCircles()...) {
		for i := range 12 {
			checkSmallThirdParts(t, c, i, sumFrom(c.Parts, i, 9))
			checkSmallThirdParts(t, c, i, 12-c.Parts[(i+9)%12]-c.Parts[(i+10)%12]-c.Parts[(i+11)%12])
			checkSmallThirdParts(t, c, i, impl.ThirdParts(c, i)+impl.ThirdParts(c, (i+4)%12)+c.Parts[(i+8)%12])
		}
	}
}

func TestThirdsOfInvalidCircles(t *testing.T) {
	for _, c := range invalidCircles() {
		checkBestKeys(t, c)
		for i := range 12 {
			checkNoThird(t, c, i)
		}
		for _, i := range noKeys() {
			checkNoThird(t, c, i)
		}
	}
}

func TestThirdsOfInvalidKeys(t *testing.T) {
	for _, c := range append(knownCircles(), mixedCircle(), narrowAt(0), narrowAt(11)) {
		for _, i := range noKeys() {
			checkNoThird(t, c, i)
		}
	}
}

// The zeros of an invalid key are not those of a key with four pure fifths.
func TestNoThirdIsNotAThirdWithoutParts(t *testing.T) {
	c := narrowAt(5)
	checkThird(t, c, 11, 0)
	checkNoThird(t, c, 12)
	checkThird(t, c, 0, 0)
	checkNoThird(t, c, -1)
}

func TestThirdsDoNotUseWhatIsBehindTheCircle(t *testing.T) {
	memory := append(slices.Clone(mixedCircle().Parts), 12, 0, 0, -7)
	c := circleOf(memory[:12]...)
	for i, want := range thirdsOf(mixedCircle()) {
		checkThird(t, c, i, want)
		checkSmallThirdParts(t, c, i, sumFrom(memory[:12], i, 9))
	}
	checkBestKeys(t, c, 4, 6, 7, 9, 11, 0, 5, 10, 1, 2, 3, 8)
	for _, i := range []int{12, 13, 14, 15} {
		checkNoThird(t, c, i)
	}
	checkBestKeys(t, circleOf(memory[:11]...))
	checkBestKeys(t, circleOf(memory[:13]...))
}

func askThirds(c impl.Circle) {
	impl.BestKeys(c)
	for _, i := range append(noKeys(), 0, 1, 2, 3, 4, 5, 6, 7, 8, 9, 10, 11) {
		impl.ThirdParts(c, i)
		impl.ThirdAt(c, i)
		impl.ThirdError(c, i)
		impl.IsWideThird(c, i)
		impl.SmallThirdParts(c, i)
	}
}

func TestThirdArgumentsAreKept(t *testing.T) {
	valid := append(knownCircles(), mixedCircle(), narrowAt(0), narrowAt(11))
	for _, c := range slices.Concat(valid, circlesOfWrongLength(), circlesOfWrongParts(), circlesWithGreatParts()) {
		memory := append(slices.Clone(c.Parts), 77, -77, 77, 77)
		before := slices.Clone(memory)
		askThirds(circleOf(memory[:len(c.Parts)]...))
		if !slices.Equal(memory, before) {
			t.Errorf("the parts %v, or what lies behind them, became %v", before, memory)
		}
	}
}

func TestBestKeysAreNewMemory(t *testing.T) {
	for _, c := range append(knownCircles(), mixedCircle(), narrowAt(4)) {
		memory := append(slices.Clone(c.Parts), 55, 55, 55, 55)
		before := slices.Clone(memory)
		c = circleOf(memory[:12]...)
		want := bestKeysOf(c)
		first, second := impl.BestKeys(c), impl.BestKeys(c)
		overwrite(circleOf(first...))
		if !slices.Equal(memory, before) {
			t.Errorf("the best keys share memory with their circle: %v", memory)
		}
		if !slices.Equal(second, want) {
			t.Errorf("two lists of best keys share memory: %v", second)
		}
		checkBestKeys(t, c, want...)
		overwrite(c)
		if !slices.Equal(second, want) {
			t.Errorf("the best keys follow their circle: %v", second)
		}
	}
}

// A third that was asked for changes no other one, nor does one that was rejected.
func TestThirdsKeepNothing(t *testing.T) {
	c := mixedCircle()
	for range 3 {
		checkThird(t, c, 4, 6)
		checkThird(t, impl.EqualCircle(), 4, 4)
		checkNoThird(t, circleOf(3, 0, 1, 0, 2, 0, 0, 4, 0, 1, 0, 2), 4)
		checkNoThird(t, c, 12)
		checkBestKeys(t, narrowAt(3), 0, 1, 2, 3, 4, 5, 6, 7, 8, 9, 10, 11)
		checkBestKeys(t, c, 4, 6, 7, 9, 11, 0, 5, 10, 1, 2, 3, 8)
		checkSmallThirdParts(t, c, 4, 11)
	}
	// The same memory with other parts is another circle.
	c.Parts[7], c.Parts[8] = 0, 4
	checkThird(t, c, 4, 2)
	checkThird(t, c, 8, 6)
	checkSmallThirdParts(t, c, 10, 7)
	checkBestKeys(t, c, bestKeysOf(c)...)
}
