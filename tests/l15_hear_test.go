package tests

import (
	"math"
	"slices"
	"testing"

	"loop.example/g00989/impl"
)

// distanceOf needs lists of the same length and numbers that are no extreme ones.
func distanceOf(a, b []int) int {
	sum := 0
	for i := range a {
		if a[i] > b[i] {
			sum += a[i] - b[i]
		} else {
			sum += b[i] - a[i]
		}
	}
	return sum
}

func heardIn(circles []impl.Circle, thirds []int) []impl.Circle {
	var heard []impl.Circle
	for _, c := range circles {
		if slices.Equal(thirdsOf(c), thirds) {
			heard = append(heard, c)
		}
	}
	return heard
}

// nearestIn are all the circles that are equally near, and how near they are.
func nearestIn(circles []impl.Circle, thirds []int) ([]impl.Circle, int) {
	var sums []int
	for _, c := range circles {
		sums = append(sums, distanceOf(thirdsOf(c), thirds))
	}
	var nearest []impl.Circle
	least := slices.Min(sums)
	for i, c := range circles {
		if sums[i] == least {
			nearest = append(nearest, c)
		}
	}
	return nearest, least
}

func equalThirds(third int) []int { return slices.Repeat([]int{third}, 12) }

// withThird is a copy of the thirds with another one at a place.
func withThird(thirds []int, place, third int) []int {
	changed := slices.Clone(thirds)
	changed[place] = third
	return changed
}

// someThirds are those of circles of all kinds, and some that no circle has.
func someThirds() [][]int {
	var lists [][]int
	for i, c := range manyCircles() {
		if i%29 == 0 {
			lists = append(lists, thirdsOf(c), withThird(thirdsOf(c), i%12, i%7-3))
		}
	}
	for _, part := range familyParts() {
		for i, c := range familyOf(part) {
			if i%11 == 0 {
				lists = append(lists, thirdsOf(c))
			}
		}
	}
	for _, c := range knownCircles() {
		lists = append(lists, thirdsOf(c))
	}
	return lists
}

// farThirds are pseudo-random ones up to a greatest number, above and below 0.
func farThirds(most, count int) [][]int {
	var lists [][]int
	state := 1
	for range count {
		var thirds []int
		for range 12 {
			state = state * 16807 % 2147483647
			thirds = append(thirds, state%(2*most+1)-most)
		}
		lists = append(lists, thirds)
	}
	return lists
}

// thirdsOfWrongLength begin with what a circle has, or are the beginning of it. Some of them lie before the thirds that are missing.
func thirdsOfWrongLength() [][]int {
	lists := [][]int{nil, {}, {4}, {12}, make([]int, 11), make([]int, 13), slices.Repeat([]int{4}, 11), slices.Repeat([]int{4}, 13), make([]int, 24), slices.Repeat([]int{4}, 5000)}
	circles := []impl.Circle{narrowAt(0), narrowAt(5), narrowAt(11), impl.EqualCircle(), circleOf(6, 0, 0, 6, 0, 0, 0, 0, 0, 0, 0, 0)}
	for _, part := range familyParts() {
		circles = append(circles, familyOf(part)[:2]...)
	}
	for _, c := range circles {
		thirds := thirdsOf(c)
		lists = append(lists, thirds[:0], thirds[:1], thirds[:11], slices.Clone(thirds[:11]), thirds[1:], append(thirdsOf(c), 0), append(thirdsOf(c), thirds[0]), append([]int{0}, thirds...), append(thirdsOf(c), thirds...))
	}
	return lists
}

func thirdsTooFar() []int {
	return append(extremeInts(), -201, 201, -202, 202, -1000, 1000, 1<<32+4, -1<<32+4, 1<<32-1, 1<<62, -1<<62, 1<<8+4, 1<<16)
}

func checkThirdsOf(t *testing.T, c impl.Circle, want ...int) {
	t.Helper()
	if got := impl.ThirdsOf(c); !slices.Equal(got, want) {
		t.Errorf("ThirdsOf(%v) = %v; want %v", c, got, want)
	}
}

func checkHeard(t *testing.T, part int, thirds []int, want []impl.Circle) {
	t.Helper()
	if got := impl.CirclesHeard(part, thirds); !sameCircles(got, want) {
		t.Errorf("CirclesHeard(%d, %v) = %v; want %v", part, thirds, got, want)
	}
}

func checkNearest(t *testing.T, part int, thirds []int, want impl.Circle, wantSum int, wantOk bool) {
	t.Helper()
	if got, sum, ok := impl.NearestHeard(part, thirds); !slices.Equal(got.Parts, want.Parts) || sum != wantSum || ok != wantOk {
		t.Errorf("NearestHeard(%d, %v) = %v, %d, %v; want %v, %d, %v", part, thirds, got, sum, ok, want, wantSum, wantOk)
	}
}

func checkNothingHeard(t *testing.T, part int, thirds []int) {
	t.Helper()
	checkHeard(t, part, thirds, nil)
	checkNearest(t, part, thirds, impl.Circle{}, 0, false)
}

// checkNearestInOrder wants the first of the nearest circles and returns how many are as near.
func checkNearestInOrder(t *testing.T, part int, circles []impl.Circle, thirds []int) int {
	t.Helper()
	nearest, least := nearestIn(circles, thirds)
	checkNearest(t, part, thirds, nearest[0], least, true)
	return len(nearest)
}

// checkDifference asks in both orders.
func checkDifference(t *testing.T, a, b impl.Circle, want int) {
	t.Helper()
	if got := impl.DifferenceOf(a, b); got != want {
		t.Errorf("DifferenceOf(%v, %v) = %d; want %d", a, b, got, want)
	}
	if got := impl.DifferenceOf(b, a); got != want {
		t.Errorf("DifferenceOf(%v, %v) = %d; want %d", b, a, got, want)
	}
}

func TestThirdsOf(t *testing.T) {
	checkThirdsOf(t, circleOf(3, 3, 3, 0, 0, 3, 0, 0, 0, 0, 0, 0), 9, 6, 6, 3, 3, 3, 0, 0, 0, 3, 6, 9)
	checkThirdsOf(t, circleOf(2, 2, 2, 2, 2, 0, 0, 0, 0, 0, 0, 2), 8, 8, 6, 4, 2, 0, 0, 0, 2, 4, 6, 8)
	checkThirdsOf(t, circleOf(3, 0, 1, 0, 2, 0, 0, 4, 0, 1, 0, 1), 4, 3, 3, 2, 6, 4, 5, 5, 2, 5, 4, 5)
	checkThirdsOf(t, circleOf(12, 0, 0, 0, 0, 0, 0, 0, 0, 0, 0, 0), 12, 0, 0, 0, 0, 0, 0, 0, 0, 12, 12, 12)
	checkThirdsOf(t, circleOf(0, 0, 0, 0, 0, 0, 0, 0, 0, 0, 0, 12), 0, 0, 0, 0, 0, 0, 0, 0, 12, 12, 12, 12)
	checkThirdsOf(t, circleOf(0, 0, 0, 6, 0, 0, 0, 0, 6, 0, 0, 0), 6, 6, 6, 6, 0, 6, 6, 6, 6, 0, 0, 0)
	checkThirdsOf(t, impl.EqualCircle(), equalThirds(4)...)
}

func TestThirdsOfFamiliesAreThirdParts(t *testing.T) {
	circles := append(manyCircles(), knownCircles()...)
	for _, part := range familyParts() {
		circles = append(circles, impl.FamilyOf(part)...)
	}
	if len(circles) < 924+495+220+66+12 {
		t.Fatalf("there are %d circles", len(circles))
	}
	for _, c := range circles {
		var want []int
		for key := range 12 {
			want = append(want, impl.ThirdParts(c, key))
		}
		checkThirdsOf(t, c, want...)
		checkThirdsOf(t, c, thirdsOf(c)...)
	}
}

// All ways to divide the comma, each one held against the one before it too.
func TestThirdsOfEveryDistribution(t *testing.T) {
	before := narrowAt(0)
	count := 0
	eachDistribution(12, func(parts []int) {
		count++
		c := circleOf(parts...)
		thirds := thirdsOf(c)
		if got := impl.ThirdsOf(c); !slices.Equal(got, thirds) {
			t.Fatalf("ThirdsOf(%v) = %v; want %v", c, got, thirds)
		}
		want := distanceOf(thirds, thirdsOf(before))
		if got := impl.DifferenceOf(c, before); got != want {
			t.Fatalf("DifferenceOf(%v, %v) = %d; want %d", c, before, got, want)
		}
		before = circleOf(append(before.Parts[:0:12], parts...)...)
	})
	if count != 1352078 {
		t.Errorf("%d distributions were tried", count)
	}
}

// Three keys whose thirds are an octave together have the whole comma.
func TestThirdsOfAreTheCommaInGroups(t *testing.T) {
	for _, part := range familyParts() {
		for _, c := range impl.FamilyOf(part) {
			thirds := impl.ThirdsOf(c)
			if len(thirds) != 12 {
				t.Fatalf("ThirdsOf(%v) = %v", c, thirds)
			}
			for k := range 4 {
				if sum := thirds[k] + thirds[k+4] + thirds[k+8]; sum != 12 {
					t.Errorf("ThirdsOf(%v) has the sum %d from key %d on", c, sum, k)
				}
			}
		}
	}
}

func TestEveryCircleIsHeard(t *testing.T) {
	for _, part := range familyParts() {
		family := familyOf(part)
		for _, c := range family {
			thirds := thirdsOf(c)
			heard := impl.CirclesHeard(part, thirds)
			if want := heardIn(family, thirds); !sameCircles(heard, want) {
				t.Errorf("CirclesHeard(%d, %v) = %v; want %v", part, thirds, heard, want)
			}
			same := func(other impl.Circle) bool { return slices.Equal(other.Parts, c.Parts) }
			if !slices.ContainsFunc(heard, same) {
				t.Errorf("CirclesHeard(%d, %v) does not have %v", part, thirds, c)
			}
		}
	}
}

func TestCirclesThatAreHeardHaveTheThirds(t *testing.T) {
	count := map[bool]int{}
	for _, part := range familyParts() {
		family := familyOf(part)
		for _, thirds := range append(someThirds(), farThirds(12, 50)...) {
			heard := impl.CirclesHeard(part, thirds)
			count[len(heard) > 0]++
			for i, c := range heard {
				checkThirdsOf(t, c, thirds...)
				checkThirdsOf(t, c, thirdsOf(c)...)
				// Strictly ascending circles are none of them there twice.
				if i > 0 && slices.Compare(heard[i-1].Parts, c.Parts) >= 0 {
					t.Errorf("CirclesHeard(%d, %v) has %v before %v", part, thirds, heard[i-1], c)
				}
			}
			checkHeard(t, part, thirds, heardIn(family, thirds))
		}
	}
	if count[true] < 100 || count[false] < 500 {
		t.Errorf("circles were heard %d times, and none %d times", count[true], count[false])
	}
}

func TestSeveralCirclesHaveTheSameThirds(t *testing.T) {
	checkHeard(t, 2, equalThirds(4), []impl.Circle{
		circleOf(0, 0, 2, 2, 0, 0, 2, 2, 0, 0, 2, 2), circleOf(0, 2, 0, 2, 0, 2, 0, 2, 0, 2, 0, 2), circleOf(0, 2, 2, 0, 0, 2, 2, 0, 0, 2, 2, 0),
		circleOf(2, 0, 0, 2, 2, 0, 0, 2, 2, 0, 0, 2), circleOf(2, 0, 2, 0, 2, 0, 2, 0, 2, 0, 2, 0), circleOf(2, 2, 0, 0, 2, 2, 0, 0, 2, 2, 0, 0),
	})
	checkHeard(t, 4, equalThirds(4), []impl.Circle{
		circleOf(0, 0, 0, 4, 0, 0, 0, 4, 0, 0, 0, 4), circleOf(0, 0, 4, 0, 0, 0, 4, 0, 0, 0, 4, 0),
		circleOf(0, 4, 0, 0, 0, 4, 0, 0, 0, 4, 0, 0), circleOf(4, 0, 0, 0, 4, 0, 0, 0, 4, 0, 0, 0),
	})
	// One quarter is where it was, and the other three are a fifth or two further on.
	checkHeard(t, 3, []int{6, 3, 3, 3, 3, 3, 3, 3, 3, 6, 6, 6}, []impl.Circle{
		circleOf(3, 0, 0, 3, 0, 0, 0, 3, 0, 0, 0, 3), circleOf(3, 0, 3, 0, 0, 0, 3, 0, 0, 0, 3, 0), circleOf(3, 3, 0, 0, 0, 3, 0, 0, 0, 3, 0, 0),
	})
	checkHeard(t, 2, thirdsOf(circleOf(2, 0, 2, 2, 2, 0, 0, 0, 2, 0, 0, 2)), []impl.Circle{circleOf(0, 2, 2, 2, 0, 2, 0, 0, 0, 2, 0, 2), circleOf(2, 0, 2, 2, 2, 0, 0, 0, 2, 0, 0, 2)})
}

func TestOneCircleHasTheThirds(t *testing.T) {
	for _, part := range []int{6, 12} {
		for _, c := range familyOf(part) {
			checkHeard(t, part, thirdsOf(c), []impl.Circle{c})
		}
	}
	for part, c := range map[int]impl.Circle{
		2: circleOf(2, 2, 2, 2, 2, 0, 0, 0, 0, 0, 0, 2), 3: circleOf(3, 3, 3, 0, 0, 3, 0, 0, 0, 0, 0, 0), 4: circleOf(0, 0, 0, 0, 0, 0, 0, 0, 0, 4, 4, 4), 12: narrowAt(3),
	} {
		checkHeard(t, part, thirdsOf(c), []impl.Circle{c})
	}
}

// How many circles are heard with the same thirds, counted for each circle of a family.
func TestHowManyCirclesHaveTheSameThirds(t *testing.T) {
	for part, want := range map[int]map[int]int{2: {1: 702, 2: 2 * 108, 6: 6}, 3: {1: 459, 3: 3 * 12}, 4: {1: 216, 4: 4}, 6: {1: 66}, 12: {1: 12}} {
		count := map[int]int{}
		for _, c := range familyOf(part) {
			count[len(impl.CirclesHeard(part, thirdsOf(c)))]++
		}
		if len(count) != len(want) {
			t.Errorf("circles with the part %d are heard %v times", part, count)
		}
		for size, circles := range want {
			if count[size] != circles {
				t.Errorf("%d circles with the part %d are heard with %d; want %d", count[size], part, size, circles)
			}
		}
	}
}

// haveSameThirds tells it from the parts: the thirds of two keys that are neighbours differ by the first part of the one and the last part of the other.
func haveSameThirds(a, b impl.Circle) bool {
	for i := range 12 {
		j := (i + 4) % 12
		if a.Parts[i]-b.Parts[i] != a.Parts[j]-b.Parts[j] {
			return false
		}
	}
	return sumFrom(a.Parts, 0, 4) == sumFrom(b.Parts, 0, 4)
}

func TestCirclesWithTheSameThirds(t *testing.T) {
	same := 0
	for _, part := range familyParts() {
		family := familyOf(part)
		for i, a := range family {
			for _, b := range family[i+1:] {
				isSame := haveSameThirds(a, b)
				if got := impl.DifferenceOf(a, b); (got == 0) != isSame || got < 0 {
					t.Fatalf("DifferenceOf(%v, %v) = %d", a, b, got)
				}
				if !isSame {
					continue
				}
				same++
				checkDifference(t, a, b, 0)
				heard := impl.CirclesHeard(part, impl.ThirdsOf(a))
				if !sameCircles(heard, impl.CirclesHeard(part, impl.ThirdsOf(b))) || len(heard) < 2 {
					t.Errorf("%v and %v are heard as %v", a, b, heard)
				}
			}
		}
	}
	if want := 108 + 15 + 12*3 + 6; same != want {
		t.Errorf("%d pairs have the same thirds; want %d", same, want)
	}
}

func TestThirdsOfOtherFamilies(t *testing.T) {
	ties := 0
	for _, part := range familyParts() {
		family := familyOf(part)
		for _, other := range familyParts() {
			for i, c := range familyOf(other) {
				if thirds := thirdsOf(c); i%7 == 0 || other >= 6 || haveSameThirds(c, impl.EqualCircle()) {
					checkHeard(t, part, thirds, heardIn(family, thirds))
					if other != part && checkNearestInOrder(t, part, family, thirds) > 1 {
						ties++
					}
				}
			}
		}
	}
	if ties < 100 {
		t.Errorf("several circles were equally near only %d times", ties)
	}
	// The thirds 4 are those of circles of two families.
	checkHeard(t, 4, thirdsOf(circleOf(2, 0, 2, 0, 2, 0, 2, 0, 2, 0, 2, 0)), heardIn(familyOf(4), equalThirds(4)))
	checkHeard(t, 2, thirdsOf(circleOf(4, 0, 0, 0, 4, 0, 0, 0, 4, 0, 0, 0)), heardIn(familyOf(2), equalThirds(4)))
}

func TestEqualCircleHeard(t *testing.T) {
	thirds := impl.ThirdsOf(impl.EqualCircle())
	for part, count := range map[int]int{2: 6, 3: 0, 4: 4, 6: 0, 12: 0} {
		family := familyOf(part)
		if got := len(impl.CirclesHeard(part, thirds)); got != count {
			t.Errorf("%d circles with the part %d have the thirds of the equal circle", got, part)
		}
		checkHeard(t, part, thirds, heardIn(family, thirds))
		checkNearestInOrder(t, part, family, thirds)
	}
	checkNearest(t, 2, thirds, circleOf(0, 0, 2, 2, 0, 0, 2, 2, 0, 0, 2, 2), 0, true)
	checkNearest(t, 4, thirds, circleOf(0, 0, 0, 4, 0, 0, 0, 4, 0, 0, 0, 4), 0, true)
	checkNearest(t, 12, thirds, narrowAt(11), 64, true)
}

func TestThirdsThatNoCircleHas(t *testing.T) {
	for _, part := range familyParts() {
		family := familyOf(part)
		checkHeard(t, part, equalThirds(0), nil)
		for _, third := range []int{-1, 1, 3, 5, 12, 13, 200, -200, 201, math.MaxInt, math.MinInt} {
			checkHeard(t, part, equalThirds(third), nil)
		}
		for _, c := range []impl.Circle{family[0], family[len(family)/2], family[len(family)-1]} {
			thirds := thirdsOf(c)
			for place, third := range thirds {
				for _, changed := range append(thirdsTooFar(), third-1, third+1, third-part, third+part, -third-1, third+256, third+1<<32, third-1<<32, third+1<<62, third+math.MinInt) {
					checkHeard(t, part, withThird(thirds, place, changed), nil)
				}
			}
		}
	}
}

// Another order of the same thirds is heard as another circle, or as none.
func TestThirdsAreHeardInTheirOrder(t *testing.T) {
	c := circleOf(0, 0, 0, 4, 0, 4, 4, 0, 0, 0, 0, 0)
	thirds := thirdsOf(c)
	for n := range 12 {
		checkHeard(t, 4, turnedParts(thirds, n), []impl.Circle{impl.TurnCircle(c, n)})
		checkNearest(t, 4, turnedParts(thirds, n), impl.TurnCircle(c, n), 0, true)
	}
	slices.Sort(thirds)
	checkHeard(t, 4, thirds, nil)
	checkNearestInOrder(t, 4, familyOf(4), thirds)
}

func TestNearestHasTheThirds(t *testing.T) {
	for _, part := range familyParts() {
		family := familyOf(part)
		for _, c := range family {
			thirds := thirdsOf(c)
			checkNearest(t, part, thirds, heardIn(family, thirds)[0], 0, true)
		}
	}
	// Of two circles with these thirds, the first one is the nearest.
	checkNearest(t, 2, thirdsOf(circleOf(2, 0, 2, 2, 2, 0, 0, 0, 2, 0, 0, 2)), circleOf(0, 2, 2, 2, 0, 2, 0, 0, 0, 2, 0, 2), 0, true)
}

// The thirds of two circles differ above more than one key, so that one third that is raised or lowered by 1 does not lead to another circle.
func TestNearestOfOneThirdRaisedOrLowered(t *testing.T) {
	for part, step := range map[int]int{2: 23, 3: 13, 4: 5, 6: 1, 12: 1} {
		family := familyOf(part)
		for i := 0; i < len(family); i += step {
			thirds := thirdsOf(family[i])
			want := heardIn(family, thirds)[0]
			for place, third := range thirds {
				checkNearest(t, part, withThird(thirds, place, third-1), want, 1, true)
				checkNearest(t, part, withThird(thirds, place, third+1), want, 1, true)
			}
		}
	}
}

func TestNearestHeard(t *testing.T) {
	quarters := []int{9, 6, 6, 3, 3, 3, 0, 0, 0, 3, 6, 9}
	checkNearest(t, 3, quarters, circleOf(3, 3, 3, 0, 0, 3, 0, 0, 0, 0, 0, 0), 0, true)
	checkNearest(t, 3, []int{10, 7, 5, 3, 2, 4, 0, -1, 0, 3, 7, 8}, circleOf(3, 3, 3, 0, 0, 3, 0, 0, 0, 0, 0, 0), 8, true)
	checkNearest(t, 12, []int{12, 12, 12, 11, 0, 0, 0, 0, 0, 0, 0, 1}, narrowAt(3), 2, true)
	checkNearest(t, 12, []int{0, 0, 100, 0, 0, 0, 0, 0, 0, 0, 0, 0}, narrowAt(5), 88+36, true)
	for _, part := range familyParts() {
		for i, thirds := range append(someThirds(), farThirds(12, 60)...) {
			if i%3 == 0 {
				checkNearestInOrder(t, part, familyOf(part), thirds)
			}
		}
	}
}

func TestFirstOfEquallyNearCircles(t *testing.T) {
	for _, part := range familyParts() {
		family := familyOf(part)
		// Every circle is as far from thirds that are all greater, or all smaller, than its own ones.
		for third, sum := range map[int]int{0: 48, 12: 96, 13: 108, 200: 2352, -1: 60, -200: 2448} {
			checkNearest(t, part, equalThirds(third), family[0], sum, true)
		}
	}
	// Halfway between two narrow fifths, the first one in order has the greater key.
	for key := range 11 {
		halfway := thirdsOf(narrowAt(key))
		for i, third := range thirdsOf(narrowAt(key + 1)) {
			halfway[i] = (halfway[i] + third) / 2
		}
		checkNearest(t, 12, halfway, narrowAt(key+1), 12, true)
		for i, third := range thirdsOf(narrowAt(key)) {
			if third > halfway[i] {
				checkNearest(t, 12, withThird(halfway, i, halfway[i]+1), narrowAt(key), 11, true)
			}
		}
	}
	// Four circles are as near to these thirds, each with one narrow fifth of every two neighbours.
	thirds := []int{6, 6, 0, 0, 0, 0, 0, 0, 6, 12, 12, 6}
	if nearest, _ := nearestIn(familyOf(6), thirds); len(nearest) != 4 {
		t.Errorf("%v are near", nearest)
	}
	checkNearest(t, 6, thirds, circleOf(0, 6, 0, 0, 0, 0, 0, 0, 0, 0, 0, 6), 12, true)
}

func TestNearestHeardFarAway(t *testing.T) {
	for _, part := range familyParts() {
		family := familyOf(part)
		checkNearest(t, part, equalThirds(200), family[0], 12*200-48, true)
		checkNearest(t, part, equalThirds(-200), family[0], 12*200+48, true)
		for i := 0; i < len(family); i += 60 {
			thirds := thirdsOf(family[i])
			for place := range 12 {
				for _, far := range []int{-200, -199, 199, 200} {
					checkNearestInOrder(t, part, family, withThird(thirds, place, far))
					checkNearestInOrder(t, part, family, withThird(equalThirds(-far), place, far))
				}
			}
		}
		for _, thirds := range farThirds(200, 60) {
			checkNearestInOrder(t, part, family, thirds)
		}
	}
	// Such a third draws the narrow fifth near, or keeps it away.
	checkNearest(t, 12, withThird(equalThirds(0), 0, 200), narrowAt(3), 188+36, true)
	checkNearest(t, 12, withThird(equalThirds(0), 11, 200), narrowAt(11), 188+36, true)
	checkNearest(t, 12, withThird(equalThirds(6), 11, -200), narrowAt(10), 266, true)
	checkNearest(t, 12, withThird(equalThirds(6), 0, -200), narrowAt(11), 266, true)
}

// What is heard exactly is nearest, and what is nearest with the sum 0 is heard.
func TestNearestAndHeardAgree(t *testing.T) {
	for _, part := range familyParts() {
		for _, thirds := range append(someThirds(), equalThirds(4), equalThirds(0)) {
			heard := impl.CirclesHeard(part, thirds)
			nearest, sum, ok := impl.NearestHeard(part, thirds)
			if !ok || (sum == 0) != (len(heard) > 0) {
				t.Fatalf("NearestHeard(%d, %v) = %v, %d, %v, and %v are heard", part, thirds, nearest, sum, ok, heard)
			}
			if sum == 0 && !slices.Equal(nearest.Parts, heard[0].Parts) {
				t.Errorf("NearestHeard(%d, %v) is %v, and %v are heard", part, thirds, nearest, heard)
			}
		}
		for _, c := range append(knownCircles(), mixedCircle()) {
			nearest, sum, _ := impl.NearestHeard(part, impl.ThirdsOf(c))
			checkDifference(t, nearest, c, sum)
		}
	}
}

func TestDifferenceOf(t *testing.T) {
	quarters := circleOf(3, 3, 3, 0, 0, 3, 0, 0, 0, 0, 0, 0)
	checkDifference(t, quarters, impl.EqualCircle(), 32)
	checkDifference(t, quarters, circleOf(2, 2, 2, 2, 2, 0, 0, 0, 0, 0, 0, 2), 12)
	checkDifference(t, circleOf(2, 0, 2, 0, 2, 0, 2, 0, 2, 0, 2, 0), circleOf(0, 4, 0, 0, 0, 4, 0, 0, 0, 4, 0, 0), 0)
	checkDifference(t, circleOf(2, 0, 2, 0, 2, 0, 2, 0, 2, 0, 2, 0), impl.EqualCircle(), 0)
	// One twelfth that is moved to the next fifth is missing above one key and more above another one.
	checkDifference(t, impl.EqualCircle(), circleOf(0, 2, 1, 1, 1, 1, 1, 1, 1, 1, 1, 1), 2)
	for key := range 12 {
		checkDifference(t, narrowAt(key), impl.EqualCircle(), 64)
		for distance, want := range []int{0, 24, 48, 72, 96, 96, 96, 96, 96, 72, 48, 24} {
			checkDifference(t, narrowAt(key), narrowAt((key+distance)%12), want)
		}
	}
}

func TestDifferenceOfManyCircles(t *testing.T) {
	var circles []impl.Circle
	for i, c := range manyCircles() {
		if i%17 == 0 {
			circles = append(circles, c)
		}
	}
	circles = append(circles, knownCircles()...)
	for _, part := range familyParts() {
		for i, c := range familyOf(part) {
			if i%23 == 0 {
				circles = append(circles, c)
			}
		}
	}
	for _, a := range circles {
		for _, b := range circles {
			want := distanceOf(thirdsOf(a), thirdsOf(b))
			checkDifference(t, a, b, want)
			if want != distanceOf(impl.ThirdsOf(b), impl.ThirdsOf(a)) {
				t.Errorf("ThirdsOf(%v) and ThirdsOf(%v) do not differ by %d", a, b, want)
			}
		}
	}
}

func TestDifferenceOfACircleAndItself(t *testing.T) {
	circles := append(manyCircles(), knownCircles()...)
	for _, part := range familyParts() {
		circles = append(circles, familyOf(part)...)
	}
	for _, c := range circles {
		checkDifference(t, c, c, 0)
		checkDifference(t, c, circleOf(slices.Clone(c.Parts)...), 0)
	}
}

func TestInvalidCirclesAreNotHeard(t *testing.T) {
	invalid := append(invalidCircles(), circleOf(-1, 13, 0, 0, 0, 0, 0, 0, 0, 0, 0, 0), circleOf(0, 0, 0, 0, 0, 0, 0, 0, 0, 0, -1, 13),
		circleOf(11, 0, 0, 0, 0, 0, 0, 0, 0, 0, 0, 0), circleOf(1, 1, 1, 1, 1, 1, 1, 1, 1, 1, 1, 2), circleOf(13, 0, 0, 0, 0, 0, 0, 0, 0, 0, 0, 0))
	valid := append(knownCircles(), narrowAt(0), narrowAt(11))
	for i, c := range invalid {
		checkThirdsOf(t, c)
		checkDifference(t, c, c, -1)
		checkDifference(t, c, invalid[(i+1)%len(invalid)], -1)
		checkDifference(t, c, impl.Circle{}, -1)
		for _, other := range valid {
			checkDifference(t, c, other, -1)
		}
	}
}

func TestThirdsOfWrongLength(t *testing.T) {
	for _, thirds := range thirdsOfWrongLength() {
		for _, part := range append(familyParts(), 0, 1, 5, 24) {
			checkNothingHeard(t, part, thirds)
		}
	}
}

func TestThirdsTooFar(t *testing.T) {
	lists := [][]int{equalThirds(0), equalThirds(4), equalThirds(200), equalThirds(-200)}
	for _, part := range familyParts() {
		lists = append(lists, thirdsOf(familyOf(part)[0]))
	}
	for _, third := range thirdsTooFar() {
		for i, part := range familyParts() {
			checkNothingHeard(t, part, equalThirds(third))
			for _, thirds := range append(lists[:4:4], lists[4+i]) {
				for _, place := range []int{0, 5, 11} {
					checkNothingHeard(t, part, withThird(thirds, place, third))
				}
			}
			// With one just within the range, before it or behind it.
			checkNothingHeard(t, part, withThird(withThird(equalThirds(0), 0, third), 11, 200))
			checkNothingHeard(t, part, withThird(withThird(equalThirds(0), 0, -200), 11, third))
		}
	}
}

func TestNothingIsHeardInNoFamily(t *testing.T) {
	for _, part := range noFamilyParts() {
		for _, thirds := range [][]int{
			equalThirds(4), equalThirds(0), equalThirds(200), equalThirds(-200), equalThirds(201), withThird(equalThirds(4), 11, math.MinInt), nil, equalThirds(4)[:11], thirdsOf(narrowAt(0)), thirdsOf(narrowAt(11)), thirdsOf(mixedCircle()),
		} {
			checkNothingHeard(t, part, thirds)
		}
	}
	// The circle of this part is heard in no family, though it has these thirds.
	checkNothingHeard(t, 1, impl.ThirdsOf(impl.EqualCircle()))
}

func askHeard(part int, thirds []int, c impl.Circle) {
	impl.CirclesHeard(part, thirds)
	impl.NearestHeard(part, thirds)
	impl.ThirdsOf(c)
	impl.DifferenceOf(c, c)
	impl.DifferenceOf(c, impl.EqualCircle())
	impl.DifferenceOf(impl.EqualCircle(), c)
}

func TestHeardArgumentsAreKept(t *testing.T) {
	circles := slices.Concat(knownCircles(), circlesOfWrongLength(), circlesOfWrongParts(), []impl.Circle{mixedCircle(), narrowAt(0)})
	lists := slices.Concat(thirdsOfWrongLength(), farThirds(200, 10), farThirds(12, 10), [][]int{equalThirds(4), equalThirds(201), withThird(equalThirds(0), 11, math.MinInt)})
	for _, c := range circles {
		lists = append(lists, thirdsOf(narrowAt(len(c.Parts)%12)))
	}
	for i, thirds := range lists {
		c := circles[i%len(circles)]
		parts := append(slices.Clone(c.Parts), 77, -77, 77, 77)
		memory := append(slices.Clone(thirds), 77, -77, 77, 77)
		partsBefore, before := slices.Clone(parts), slices.Clone(memory)
		for _, part := range append(familyParts(), 0, 1, 5) {
			askHeard(part, memory[:len(thirds)], circleOf(parts[:len(c.Parts)]...))
		}
		if !slices.Equal(parts, partsBefore) {
			t.Errorf("the parts %v, or what lies behind them, became %v", partsBefore, parts)
		}
		if !slices.Equal(memory, before) {
			t.Errorf("the thirds %v, or what lies behind them, became %v", before, memory)
		}
	}
}

func TestThirdsOfAreNewMemory(t *testing.T) {
	for _, c := range append(knownCircles(), mixedCircle(), narrowAt(0)) {
		parts := slices.Clone(c.Parts)
		first, second := impl.ThirdsOf(c), impl.ThirdsOf(c)
		overwrite(circleOf(first...))
		if !slices.Equal(second, thirdsOf(c)) {
			t.Errorf("two results of ThirdsOf(%v) share memory: %v", c, second)
		}
		if !slices.Equal(c.Parts, parts) {
			t.Errorf("ThirdsOf shares memory with the parts %v, which became %v", parts, c.Parts)
		}
		checkThirdsOf(t, c, thirdsOf(c)...)
		overwrite(c)
		if !slices.Equal(second, thirdsOf(circleOf(parts...))) {
			t.Errorf("ThirdsOf shares memory with the parts %v: %v", parts, second)
		}
	}
}

func TestCirclesHeardAreNewMemory(t *testing.T) {
	for part, c := range map[int]impl.Circle{2: circleOf(2, 0, 2, 0, 2, 0, 2, 0, 2, 0, 2, 0), 3: circleOf(3, 3, 0, 0, 0, 3, 0, 0, 0, 3, 0, 0), 4: circleOf(4, 0, 0, 0, 4, 0, 0, 0, 4, 0, 0, 0), 12: narrowAt(7)} {
		thirds := thirdsOf(c)
		want := heardIn(familyOf(part), thirds)
		for changed := range want {
			first, second := impl.CirclesHeard(part, thirds), impl.CirclesHeard(part, thirds)
			overwrite(first[changed])
			for i, other := range first {
				if i != changed && !slices.Equal(other.Parts, want[i].Parts) {
					t.Errorf("circles %d and %d of CirclesHeard(%d, %v) share memory: %v", changed, i, part, thirds, other)
				}
			}
			first = first[:cap(first)]
			clear(first)
			if !sameCircles(second, want) {
				t.Errorf("two results of CirclesHeard(%d, %v) share memory: %v", part, thirds, second)
			}
			if !slices.Equal(thirds, thirdsOf(c)) {
				t.Errorf("CirclesHeard(%d, thirds) shares memory with the thirds: %v", part, thirds)
			}
			checkHeard(t, part, thirds, want)
			checkFamily(t, part, familyOf(part))
		}
	}
}

func TestNearestHeardIsNewMemory(t *testing.T) {
	for _, part := range familyParts() {
		for _, thirds := range [][]int{equalThirds(4), equalThirds(-200), thirdsOf(narrowAt(5)), thirdsOf(mixedCircle())} {
			before := slices.Clone(thirds)
			nearest, least := nearestIn(familyOf(part), thirds)
			first, _, _ := impl.NearestHeard(part, thirds)
			second, _, _ := impl.NearestHeard(part, thirds)
			overwrite(first)
			if !slices.Equal(second.Parts, nearest[0].Parts) {
				t.Errorf("two results of NearestHeard(%d, %v) share memory: %v", part, thirds, second)
			}
			if !slices.Equal(thirds, before) {
				t.Errorf("NearestHeard(%d, thirds) shares memory with the thirds %v, which became %v", part, before, thirds)
			}
			checkNearest(t, part, thirds, nearest[0], least, true)
		}
	}
}

// The circles are in the same order every time, and what was asked for, or rejected, before changes nothing.
func TestHeardKeepsNothing(t *testing.T) {
	sixes, quarters := heardIn(familyOf(2), equalThirds(4)), heardIn(familyOf(4), equalThirds(4))
	for range 30 {
		checkHeard(t, 2, equalThirds(4), sixes)
		checkNearest(t, 2, equalThirds(4), sixes[0], 0, true)
		checkNothingHeard(t, 2, equalThirds(4)[:11])
		checkHeard(t, 4, equalThirds(4), quarters)
		checkNothingHeard(t, 1, equalThirds(4))
		checkNearest(t, 12, equalThirds(4), narrowAt(11), 64, true)
		checkHeard(t, 12, equalThirds(4), nil)
		checkDifference(t, sixes[0], quarters[0], 0)
		checkDifference(t, impl.Circle{}, sixes[0], -1)
		checkThirdsOf(t, impl.Circle{})
		checkThirdsOf(t, sixes[5], equalThirds(4)...)
	}
	// The same memory with other thirds is another list.
	thirds := equalThirds(4)
	checkHeard(t, 2, thirds, sixes)
	copy(thirds, thirdsOf(narrowAt(2)))
	checkHeard(t, 2, thirds, nil)
	checkHeard(t, 12, thirds, []impl.Circle{narrowAt(2)})
	checkNearest(t, 12, thirds, narrowAt(2), 0, true)
}
