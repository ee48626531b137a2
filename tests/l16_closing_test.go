package tests

import (
	"math"
	"slices"
	"testing"

	"loop.example/g00989/impl"
)

// familiesOfAll are the circles of every family.
func familiesOfAll() []impl.Circle {
	var circles []impl.Circle
	for _, part := range familyParts() {
		circles = append(circles, familyOf(part)...)
	}
	return circles
}

// circlesToClose are those of every family, those of every way to divide the comma, and the known ones.
func circlesToClose() []impl.Circle {
	return slices.Concat(familiesOfAll(), manyCircles(), knownCircles(), []impl.Circle{mixedCircle()})
}

// withPart is a copy of the parts with another one at a place.
func withPart(parts []int, place, part int) []int {
	changed := slices.Clone(parts)
	changed[place] = part
	return changed
}

// restOf is what some parts leave of the comma. They must be no extreme ones.
func restOf(parts []int) int {
	rest := 12
	for _, part := range parts {
		rest -= part
	}
	return rest
}

func areBetween(parts []int, low, high int) bool {
	return !slices.ContainsFunc(parts, func(part int) bool { return part < low || part > high })
}

// areClosed looks at the range before it adds, so that it is right for extreme parts too.
func areClosed(parts []int) bool {
	return len(parts) == 12 && areBetween(parts, -1000, 1000) && restOf(parts) == 0
}

// wolfIn collects the places of each part: two different parts are there, and one of them just once.
func wolfIn(parts []int) int {
	places := map[int][]int{}
	for i, part := range parts {
		places[part] = append(places[part], i)
	}
	for _, where := range places {
		if len(places) == 2 && len(where) == 1 {
			return where[0]
		}
	}
	return -1
}

// isRegular takes one part after the other away, and looks whether one size is left.
func isRegular(parts []int) bool {
	for i := range parts {
		if rest := slices.Concat(parts[:i], parts[i+1:]); len(slices.Compact(rest)) == 1 {
			return true
		}
	}
	return false
}

// alike are twelve parts that are the same, but for one of them.
func alike(others, place, part int) []int {
	return withPart(slices.Repeat([]int{others}, 12), place, part)
}

// closedParts have the sum 12 and are from -most to most; one place makes up for all the others.
func closedParts(most, count int) [][]int {
	var lists [][]int
	for i, parts := range farThirds(most, count) {
		closed := withPart(parts, i%12, 0)
		closed[i%12] = restOf(closed)
		if areBetween(closed, -1000, 1000) {
			lists = append(lists, closed)
		}
	}
	return lists
}

// elevenParts are pseudo-random ones from 0 to most.
func elevenParts(most, count int) [][]int {
	var lists [][]int
	for _, parts := range farThirds(most, count) {
		for i := range parts {
			parts[i] = max(parts[i], -parts[i])
		}
		lists = append(lists, parts[:11])
	}
	return lists
}

// noGroups are keys with which no group begins: some that are in one, too, and some whose second or third key would be in the circle.
func noGroups() []int {
	return append(noKeys(), -9, -8, -7, -6, -5, -4, -3, 4, 5, 6, 7, 8, 9, 10, 11, math.MaxInt-4, math.MaxInt-7, math.MaxInt-8, 1<<32+3)
}

func checkCloses(t *testing.T, parts []int, want bool) {
	t.Helper()
	if got := impl.Closes(parts); got != want {
		t.Errorf("Closes(%v) = %v", parts, got)
	}
}

// checkClosesOnly changes each part by 1 in both directions too.
func checkClosesOnly(t *testing.T, parts []int) {
	t.Helper()
	checkCloses(t, parts, true)
	for i, part := range parts {
		checkCloses(t, withPart(parts, i, part+1), false)
		checkCloses(t, withPart(parts, i, part-1), false)
	}
}

func checkLastPart(t *testing.T, parts []int, want int) {
	t.Helper()
	if got, ok := impl.LastPart(parts); got != want || !ok {
		t.Errorf("LastPart(%v) = %d, %v; want %d", parts, got, ok, want)
	}
}

func checkNoLastPart(t *testing.T, parts []int) {
	t.Helper()
	if got, ok := impl.LastPart(parts); got != 0 || ok {
		t.Errorf("LastPart(%v) = %d, %v; want 0, false", parts, got, ok)
	}
}

func checkGroupThirds(t *testing.T, c impl.Circle, k int, want [3]int) {
	t.Helper()
	first, second, third := impl.GroupThirds(c, k)
	if got := [3]int{first, second, third}; got != want {
		t.Errorf("GroupThirds(%v, %d) = %v; want %v", c, k, got, want)
	}
}

func checkGroupSum(t *testing.T, c impl.Circle, k int, want impl.Interval) {
	t.Helper()
	if got := impl.GroupSum(c, k); got != want {
		t.Errorf("GroupSum(%v, %d) = %v; want %v", c, k, got, want)
	}
}

func checkNoGroup(t *testing.T, c impl.Circle, k int) {
	t.Helper()
	checkGroupThirds(t, c, k, [3]int{})
	checkGroupSum(t, c, k, impl.Interval{})
}

// checkRegular asks for the wolf too; -1 is none.
func checkRegular(t *testing.T, c impl.Circle, want bool, wantWolf int) {
	t.Helper()
	if got := impl.IsRegular(c); got != want {
		t.Errorf("IsRegular(%v) = %v", c, got)
	}
	if got := impl.WolfAt(c); got != wantWolf {
		t.Errorf("WolfAt(%v) = %d; want %d", c, got, wantWolf)
	}
}

// checkNothingRegular asks for every result of a circle that is rejected.
func checkNothingRegular(t *testing.T, c impl.Circle) {
	t.Helper()
	checkRegular(t, c, false, -1)
	for k := range 4 {
		checkNoGroup(t, c, k)
	}
}

func TestClosesCircles(t *testing.T) {
	circles := circlesToClose()
	if len(circles) < 924+495+220+66+12 {
		t.Fatalf("there are %d circles", len(circles))
	}
	for _, c := range circles {
		if !areClosed(c.Parts) {
			t.Fatalf("%v is no circle", c)
		}
		checkClosesOnly(t, c.Parts)
	}
}

// These parts have the sum 12, but they make no circle.
func TestClosesPartsBeyondACircle(t *testing.T) {
	count := 0
	for _, others := range [][]int{{-1, 13}, {13, -1}, {-1, 12, 1}, {14, -2}, {24, -12}, {-12, 12, 12}, {112, -100}, {-88, 100}, {999, -987}, {-999, 999, 12}, {3, 3, 3, -5, 4, 4}, {-3, -4, -5, 24}} {
		parts := append(slices.Clone(others), make([]int, 12-len(others))...)
		for n := range 12 {
			checkClosesOnly(t, turnedParts(parts, n))
		}
	}
	for _, most := range []int{1, 12, 13, 80, 400, 999} {
		for _, parts := range closedParts(most, 60) {
			if areBetween(parts, -999, 999) {
				count++
				checkClosesOnly(t, parts)
			}
		}
	}
	if count < 200 {
		t.Errorf("only %d lists of parts have the sum 12", count)
	}
}

func TestClosesOtherSums(t *testing.T) {
	for _, most := range []int{1, 12, 80, 1000, 1003} {
		for _, parts := range farThirds(most, 300) {
			checkCloses(t, parts, areClosed(parts))
		}
	}
	for _, c := range slices.Concat(circlesOfWrongSum(), circlesOfWrongParts(), circlesWithGreatParts()) {
		checkCloses(t, c.Parts, areClosed(c.Parts))
	}
	for _, sum := range []int{0, 1, 2, 3} {
		eachDistribution(sum, func(parts []int) { checkCloses(t, parts, false) })
	}
	for _, part := range []int{-1, 0, 2, 3, 4, 12, 13} {
		checkCloses(t, slices.Repeat([]int{part}, 12), false)
	}
	checkCloses(t, []int{12, -12, 12, -12, 12, -12, 12, -12, 12, -12, 12, -12}, false)
	checkCloses(t, alike(-1, 4, -1), false)
	checkCloses(t, alike(0, 7, -12), false)
}

func TestClosesAtTheLimits(t *testing.T) {
	for place := range 12 {
		next, other := (place+1)%12, (place+7)%12
		for _, sign := range []int{-1, 1} {
			// The other parts make up for the limit, and for one more than it.
			limit := alike(0, place, sign*1000)
			checkCloses(t, limit, false)
			limit[other] = -sign * 500
			checkCloses(t, withPart(limit, next, 12-sign*500), true)
			checkCloses(t, withPart(withPart(limit, place, sign*1001), next, 12-sign*501), false)
			checkCloses(t, withPart(withPart(limit, place, sign*999), next, 12-sign*499), true)
		}
		// With both limits, one more than either of them is too much even where the sum stays 12.
		both := alike(0, place, 1000)
		both[next] = -1000
		checkCloses(t, both, false)
		checkCloses(t, withPart(both, other, 12), true)
		checkCloses(t, withPart(withPart(both, other, 11), place, 1001), false)
		checkCloses(t, withPart(withPart(both, other, 13), next, -1001), false)
	}
	checkCloses(t, slices.Repeat([]int{1000}, 12), false)
	checkCloses(t, slices.Repeat([]int{-1000}, 12), false)
	checkCloses(t, slices.Repeat([]int{1000, -1000}, 6), false)
	checkCloses(t, []int{-1000, 0, 0, 0, 0, 12, 0, 0, 0, 0, 0, 1000}, true)
	checkCloses(t, []int{1000, 0, 0, 0, 0, 12, 0, 0, 0, 0, 0, -1000}, true)
	checkCloses(t, []int{1000, -1000, 1000, -1000, 1000, -1000, 1000, -1000, 1000, -1000, 1000, -988}, true)
	checkCloses(t, []int{-988, 1000, -1000, 1000, -1000, 1000, -1000, 1000, -1000, 1000, -1000, 1000}, true)
	checkCloses(t, []int{1000, -988, 0, 0, 0, 0, 0, 0, 0, 0, 0, 0}, true)
	checkCloses(t, []int{0, 0, 0, 0, 0, 0, 0, 0, 0, 0, -988, 1000}, true)
}

// One part is too far away, and with another one, which may be too, the sum is 12 all the same.
func TestClosesPartsTooFar(t *testing.T) {
	for _, part := range append(extremeInts(), -1001, 1001, -1002, 1002, -2000, 2000, 1<<32+12, -1<<32+12, 1<<62, -1<<62) {
		for place := range 12 {
			next := (place + 5) % 12
			checkCloses(t, alike(0, place, part), false)
			checkCloses(t, alike(1, place, part), false)
			checkCloses(t, withPart(alike(0, place, part), next, 12-part), false)
			checkCloses(t, withPart(alike(1, place, part), next, 2-part), false)
		}
		checkCloses(t, slices.Repeat([]int{part}, 12), false)
	}
	checkCloses(t, []int{math.MinInt, 12, 0, 0, 0, 0, 0, 0, 0, 0, 0, math.MinInt}, false)
	checkCloses(t, []int{math.MaxInt, 0, 13, 0, 0, 0, 0, 0, 0, 0, 0, math.MinInt}, false)
}

func TestClosesOfWrongLength(t *testing.T) {
	for _, c := range circlesOfWrongLength() {
		checkCloses(t, c.Parts, false)
	}
	for _, c := range circlesToClose() {
		checkCloses(t, c.Parts[:11], false)
		checkCloses(t, c.Parts[1:], false)
		checkCloses(t, append([]int{0}, c.Parts...), false)
		checkCloses(t, append(slices.Clone(c.Parts), 0), false)
		checkCloses(t, append(slices.Clone(c.Parts), c.Parts...), false)
	}
	checkCloses(t, nil, false)
	checkCloses(t, []int{}, false)
	checkCloses(t, []int{12}, false)
	checkCloses(t, alike(1, 0, 2)[:11], false)
	checkCloses(t, slices.Repeat([]int{math.MaxInt}, 11), false)
	checkCloses(t, slices.Repeat([]int{math.MinInt}, 13), false)
	// The memory behind twelve parts is none of theirs.
	memory := append(alike(1, 0, 1), 0, 5, 0)
	checkCloses(t, memory[:12], true)
	checkCloses(t, memory[:13], false)
	checkCloses(t, memory[3:], false)
	checkCloses(t, memory[1:13], false)
}

// Of parts that a circle can have, just those of circles close.
func TestCirclesAreWhatCloses(t *testing.T) {
	for _, c := range slices.Concat(circlesToClose(), invalidCircles()) {
		if areBetween(c.Parts, 0, 12) {
			checkCloses(t, c.Parts, impl.CircleOk(c))
		} else if impl.CircleOk(c) {
			t.Errorf("%v is a circle", c)
		}
	}
}

func TestLastPartOfCircles(t *testing.T) {
	for _, c := range circlesToClose() {
		checkLastPart(t, c.Parts[:11], c.Parts[11])
		checkLastPart(t, c.Parts[1:], c.Parts[0])
		for n := range 12 {
			turned := turnedParts(c.Parts, n)
			checkLastPart(t, turned[:11], turned[11])
		}
	}
}

func TestLastPart(t *testing.T) {
	checkLastPart(t, []int{1, 1, 1, 1, 1, 1, 1, 1, 1, 1, 1}, 1)
	checkLastPart(t, []int{3, 3, 3, 0, 0, 3, 0, 0, 0, 0, 0}, 0)
	checkLastPart(t, []int{2, 2, 2, 2, 2, 0, 0, 0, 0, 0, 0}, 2)
	checkLastPart(t, []int{0, 1, 2, 0, 3, 0, 1, 0, 0, 0, 1}, 4)
	checkLastPart(t, []int{12, 0, 0, 0, 0, 0, 0, 0, 0, 0, 1}, -1)
	checkLastPart(t, []int{2, 2, 2, 2, 2, 2, 2, 2, 2, 2, 2}, -10)
	checkLastPart(t, []int{0, 1, 2, 3, 4, 5, 6, 7, 8, 9, 10}, -43)
	checkLastPart(t, []int{12, 11, 0, 0, 0, 0, 0, 0, 0, 0, 0}, -11)
	checkLastPart(t, make([]int, 11), 12)
	checkLastPart(t, slices.Repeat([]int{12}, 11), -120)
	checkLastPart(t, slices.Repeat([]int{11}, 11), -109)
	for place := range 11 {
		for part := range 13 {
			checkLastPart(t, alike(0, place, part)[:11], 12-part)
			checkLastPart(t, alike(1, place, part)[:11], 2-part)
			checkLastPart(t, alike(12, place, part)[:11], -108-part)
		}
	}
}

// Whatever eleven parts are, the twelfth one closes them, and no other one does.
func TestLastPartCloses(t *testing.T) {
	count := map[bool]int{}
	for most := range 13 {
		for _, parts := range elevenParts(most, 100) {
			rest := restOf(parts)
			count[rest < 0]++
			checkLastPart(t, parts, rest)
			last, ok := impl.LastPart(parts)
			if !ok {
				t.Fatalf("LastPart(%v) fails", parts)
			}
			checkClosesOnly(t, append(slices.Clone(parts), last))
			checkClosesOnly(t, append([]int{last}, parts...))
			if c := circleOf(append(slices.Clone(parts), last)...); impl.CircleOk(c) != (last >= 0) {
				t.Errorf("CircleOk(%v) = %v", c, impl.CircleOk(c))
			}
		}
	}
	if count[true] < 500 || count[false] < 200 {
		t.Errorf("%d lists have a sum above 12, and %d have not", count[true], count[false])
	}
}

func TestLastPartOfWrongLength(t *testing.T) {
	for _, c := range circlesToClose() {
		for _, parts := range [][]int{c.Parts, c.Parts[:10], c.Parts[2:], c.Parts[:1], c.Parts[:0], append(slices.Clone(c.Parts), 0), append(slices.Clone(c.Parts), c.Parts[:11]...)} {
			checkNoLastPart(t, parts)
		}
	}
	for length := range 30 {
		if length != 11 {
			for _, part := range []int{0, 1, 12, -1, 13, math.MaxInt, math.MinInt} {
				checkNoLastPart(t, slices.Repeat([]int{part}, length))
			}
		}
	}
	checkNoLastPart(t, nil)
	checkNoLastPart(t, []int{})
	memory := []int{0, 1, 2, 0, 3, 0, 1, 0, 0, 0, 1, -5, 13}
	checkLastPart(t, memory[:11], 4)
	checkNoLastPart(t, memory[:10])
	checkNoLastPart(t, memory[:12])
	checkNoLastPart(t, memory[1:12])
	checkNoLastPart(t, memory[2:])
}

func TestLastPartOfWrongParts(t *testing.T) {
	for _, part := range append(extremeInts(), -1, 13, -2, 14, -12, 24, -13, 1000, -1000, 1<<32+3, 1<<62, -1<<62) {
		for place := range 11 {
			for _, others := range []int{0, 1, 2, 12} {
				checkNoLastPart(t, alike(others, place, part)[:11])
			}
			// Another part makes up for it.
			next := (place + 4) % 11
			for _, sum := range []int{0, 5, 11, 12} {
				checkNoLastPart(t, withPart(alike(0, place, part), next, sum-part)[:11])
			}
		}
		checkNoLastPart(t, slices.Repeat([]int{part}, 11))
	}
	checkNoLastPart(t, []int{-1, 13, 0, 0, 0, 0, 0, 0, 0, 0, 0})
	checkNoLastPart(t, []int{12, 0, 0, 0, 0, 0, 0, 0, 0, 0, -1})
	checkNoLastPart(t, []int{13, 0, 0, 0, 0, 0, 0, 0, 0, 0, 0})
}

func TestGroupThirds(t *testing.T) {
	quarters, sixths := circleOf(3, 3, 3, 0, 0, 3, 0, 0, 0, 0, 0, 0), circleOf(2, 2, 2, 2, 2, 0, 0, 0, 0, 0, 0, 2)
	for k, want := range [][3]int{{9, 3, 0}, {6, 3, 3}, {6, 0, 6}, {3, 0, 9}} {
		checkGroupThirds(t, quarters, k, want)
	}
	for k, want := range [][3]int{{8, 2, 2}, {8, 0, 4}, {6, 0, 6}, {4, 0, 8}} {
		checkGroupThirds(t, sixths, k, want)
	}
	for k, want := range [][3]int{{4, 6, 2}, {3, 4, 5}, {3, 5, 4}, {2, 5, 5}} {
		checkGroupThirds(t, mixedCircle(), k, want)
	}
}

func TestGroupThirdsAreThirdParts(t *testing.T) {
	for _, c := range circlesToClose() {
		thirds := thirdsOf(c)
		for k := range 4 {
			checkGroupThirds(t, c, k, [3]int{impl.ThirdParts(c, k), impl.ThirdParts(c, k+4), impl.ThirdParts(c, k+8)})
			checkGroupThirds(t, c, k, [3]int{thirds[k], thirds[k+4], thirds[k+8]})
		}
	}
}

// Each part is in one of the three thirds.
func TestGroupThirdsAreTheComma(t *testing.T) {
	for _, c := range circlesToClose() {
		for k := range 4 {
			if first, second, third := impl.GroupThirds(c, k); first+second+third != 12 {
				t.Errorf("GroupThirds(%v, %d) = %d, %d, %d", c, k, first, second, third)
			}
		}
	}
}

// A circle that is turned by a third has the same groups, which begin with the next of their keys.
func TestGroupsOfTurnedCircles(t *testing.T) {
	for _, c := range circlesToClose() {
		turned := impl.TurnCircle(c, 4)
		for k := range 4 {
			first, second, third := impl.GroupThirds(c, k)
			checkGroupThirds(t, turned, k, [3]int{second, third, first})
		}
		for n := range 4 {
			first, second, third := impl.GroupThirds(c, n)
			checkGroupThirds(t, impl.TurnCircle(c, n), 0, [3]int{first, second, third})
		}
	}
}

func TestGroupSumIsThreeThirds(t *testing.T) {
	for _, c := range circlesToClose() {
		for k := range 4 {
			sum := foundSum(t, foundSum(t, impl.ThirdAt(c, k), impl.ThirdAt(c, k+4)), impl.ThirdAt(c, k+8))
			checkGroupSum(t, c, k, sum)
			checkGroupSum(t, c, k, foundSum(t, impl.ThirdAt(c, k+4), foundSum(t, impl.ThirdAt(c, k+8), impl.ThirdAt(c, k))))
		}
	}
}

func TestGroupSumIsAnOctave(t *testing.T) {
	for _, c := range circlesToClose() {
		for k := range 4 {
			checkGroupSum(t, c, k, tone(1, 0, 0, 1))
			checkGroupSum(t, c, k, impl.PureOf(1, 0, 0))
			sum := impl.GroupSum(c, k)
			checkOctaves(t, sum, 1)
			checkWithin(t, sum, prime(), true)
			checkOrder(t, sum, tone(1, 0, 0, 1), 0)
		}
	}
}

// The sum of the thirds, as fractions, is found from the parts alone.
func TestGroupSumAsFractions(t *testing.T) {
	table := thirdTable()
	for _, c := range circlesToClose() {
		thirds := thirdsOf(c)
		for k := range 4 {
			sum := exponentsOf(table[thirds[k]]).plus(exponentsOf(table[thirds[k+4]])).plus(exponentsOf(table[thirds[k+8]]))
			want, ok := sum.simplest()
			if !ok {
				t.Fatalf("the thirds of the group %d of %v are beyond the limits", k, c)
			}
			checkGroupSum(t, c, k, want)
		}
	}
}

func TestRegularCircles(t *testing.T) {
	regular, wolves := 0, 0
	for _, c := range circlesToClose() {
		wolf := wolfIn(c.Parts)
		checkRegular(t, c, isRegular(c.Parts), wolf)
		if isRegular(c.Parts) {
			regular++
		}
		if wolf >= 0 {
			wolves++
		}
	}
	if regular <= wolves || wolves < 24 {
		t.Errorf("%d circles are regular, and %d have a wolf", regular, wolves)
	}
	checkRegular(t, circleOf(3, 3, 3, 0, 0, 3, 0, 0, 0, 0, 0, 0), false, -1)
	checkRegular(t, circleOf(2, 2, 2, 2, 2, 0, 0, 0, 0, 0, 0, 2), false, -1)
	checkRegular(t, circleOf(6, 6, 0, 0, 0, 0, 0, 0, 0, 0, 0, 0), false, -1)
	checkRegular(t, circleOf(6, 0, 0, 0, 0, 0, 0, 0, 0, 0, 0, 6), false, -1)
	checkRegular(t, circleOf(11, 0, 0, 0, 0, 0, 0, 0, 0, 0, 0, 1), false, -1)
	checkRegular(t, circleOf(1, 1, 1, 1, 1, 1, 1, 1, 1, 1, 0, 2), false, -1)
}

// All circles with one part that differs: eleven equal ones are the comma together with it only if all of them are pure.
func TestOnePartThatDiffers(t *testing.T) {
	for others := range 13 {
		for part := range 13 {
			for place := range 12 {
				c := circleOf(alike(others, place, part)...)
				switch {
				case others == 0 && part == 12:
					checkRegular(t, c, true, place)
				case others == 1 && part == 1:
					checkRegular(t, c, true, -1)
				default:
					checkNothingRegular(t, c)
				}
			}
		}
	}
	for place := range 12 {
		checkRegular(t, narrowAt(place), true, place)
		for n := range 12 {
			checkRegular(t, impl.TurnCircle(narrowAt(place), n), true, (place-n+12)%12)
		}
	}
}

func TestTwoPartsThatDiffer(t *testing.T) {
	for first := range 12 {
		for second := range first {
			for part := range 13 {
				parts := withPart(alike(0, first, part), second, 12-part)
				checkRegular(t, circleOf(parts...), part == 0 || part == 12, wolfIn(parts))
			}
			for part := range 3 {
				parts := withPart(alike(1, first, part), second, 2-part)
				checkRegular(t, circleOf(parts...), part == 1, -1)
			}
		}
	}
}

func TestMorePartsThatDiffer(t *testing.T) {
	for _, parts := range [][]int{{1, 1, 10}, {4, 4, 4}, {5, 5, 1, 1}, {3, 3, 3, 3}, {2, 2, 2, 2, 2, 2}, {1, 1, 1, 1, 1, 7}, {1, 1, 1, 1, 1, 1, 1, 1, 1, 1, 2}, {2, 2, 2, 2, 1, 1, 1, 1}, {1, 2, 3, 6}} {
		parts := append(slices.Clone(parts), make([]int, 12-len(parts))...)
		for n := range 12 {
			checkRegular(t, circleOf(turnedParts(parts, n)...), false, -1)
		}
	}
}

// All ways to divide the comma, in all six functions.
func TestClosingOfEveryDistribution(t *testing.T) {
	count, regular, wolves := 0, 0, 0
	eachDistribution(12, func(parts []int) {
		c, k := circleOf(parts...), count%4
		count++
		last, ok := impl.LastPart(parts[:11])
		if !impl.Closes(parts) || !ok || last != parts[11] {
			t.Fatalf("the last part of %v is %d, %v", parts, last, ok)
		}
		first, second, third := impl.GroupThirds(c, k)
		if first != sumFrom(parts, k, 4) || second != sumFrom(parts, k+4, 4) || third != sumFrom(parts, k+8, 4) {
			t.Fatalf("GroupThirds(%v, %d) = %d, %d, %d", c, k, first, second, third)
		}
		if sum := impl.GroupSum(c, k); sum != tone(1, 0, 0, 1) {
			t.Fatalf("GroupSum(%v, %d) = %v", c, k, sum)
		}
		if impl.IsRegular(c) {
			regular++
		}
		if wolf := impl.WolfAt(c); wolf >= 0 {
			wolves++
			if parts[wolf] != 12 {
				t.Errorf("WolfAt(%v) = %d", c, wolf)
			}
		}
	})
	if count != 1352078 || regular != 13 || wolves != 12 {
		t.Errorf("of %d distributions, %d are regular, and %d have a wolf", count, regular, wolves)
	}
}

func TestEqualCircleCloses(t *testing.T) {
	c := impl.EqualCircle()
	checkClosesOnly(t, c.Parts)
	checkLastPart(t, c.Parts[:11], 1)
	for k := range 4 {
		checkGroupThirds(t, c, k, [3]int{4, 4, 4})
		checkGroupSum(t, c, k, tone(1, 0, 0, 1))
		checkMultiple(t, impl.ThirdAt(c, k), 3, impl.GroupSum(c, k), true)
	}
	checkRegular(t, c, true, -1)
}

func TestOneNarrowFifthCloses(t *testing.T) {
	for narrow := range 12 {
		c := narrowAt(narrow)
		checkClosesOnly(t, c.Parts)
		if narrow == 11 {
			checkLastPart(t, c.Parts[:11], 12)
		} else {
			checkLastPart(t, c.Parts[:11], 0)
		}
		for k := range 4 {
			// The narrow fifth is in the third above one of the keys; those below key k are in that of the last one.
			want := [3]int{}
			want[(narrow-k+12)%12/4] = 12
			checkGroupThirds(t, c, k, want)
			checkGroupSum(t, c, k, tone(1, 0, 0, 1))
		}
		checkRegular(t, c, true, narrow)
		checkFifthAt(t, c, impl.WolfAt(c), foundWolf(t, part{0, 1}))
	}
}

func TestInvalidCirclesDoNotClose(t *testing.T) {
	// But for their sum or one part that is beyond the range, some of them would be regular.
	invalid := append(invalidCircles(), circleOf(slices.Repeat([]int{1}, 11)...), circleOf(slices.Repeat([]int{1}, 13)...), circleOf(alike(0, 3, 12)[:11]...), circleOf(append(alike(0, 3, 12), 0)...))
	for place := range 12 {
		for _, pair := range [][2]int{{0, 11}, {0, 13}, {0, -1}, {0, -12}, {1, 0}, {1, 2}, {1, 13}, {1, 12}, {2, -10}, {-1, 23}, {2, 0}, {12, 0}, {0, math.MaxInt}, {0, math.MinInt}, {1 << 62, 12 + 1<<62}} {
			invalid = append(invalid, circleOf(alike(pair[0], place, pair[1])...))
		}
		invalid = append(invalid, circleOf(withPart(alike(0, place, -1), (place+1)%12, 13)...))
	}
	for _, c := range invalid {
		checkNothingRegular(t, c)
		for _, k := range noGroups() {
			checkNoGroup(t, c, k)
		}
	}
	checkNothingRegular(t, impl.Circle{})
	checkNothingRegular(t, circleOf(nil...))
}

func TestKeysOfNoGroup(t *testing.T) {
	for _, c := range append(circlesToClose(), narrowAt(0), narrowAt(11)) {
		for _, k := range noGroups() {
			checkNoGroup(t, c, k)
		}
	}
}

func askClosing(parts []int) {
	c := circleOf(parts...)
	impl.Closes(parts)
	impl.LastPart(parts)
	impl.IsRegular(c)
	impl.WolfAt(c)
	for _, k := range append(noGroups(), 0, 1, 2, 3) {
		impl.GroupThirds(c, k)
		impl.GroupSum(c, k)
	}
}

func TestClosingArgumentsAreKept(t *testing.T) {
	lists := slices.Concat(closedParts(400, 20), elevenParts(12, 20), elevenParts(20, 20), [][]int{nil, make([]int, 11), slices.Repeat([]int{12}, 11)})
	for _, c := range slices.Concat(knownCircles(), circlesOfWrongLength(), circlesOfWrongParts(), []impl.Circle{mixedCircle(), narrowAt(0), narrowAt(11)}) {
		lists = append(lists, c.Parts)
		if len(c.Parts) == 12 {
			lists = append(lists, c.Parts[:11])
		}
	}
	for _, parts := range lists {
		memory := append(slices.Clone(parts), 77, -77, 77, 77)
		before := slices.Clone(memory)
		askClosing(memory[:len(parts)])
		if !slices.Equal(memory, before) {
			t.Errorf("the parts %v, or what lies behind them, became %v", before, memory)
		}
	}
}

// What was asked for, or rejected, before changes nothing.
func TestClosingKeepsNothing(t *testing.T) {
	parts := []int{3, 3, 3, 0, 0, 3, 0, 0, 0, 0, 0, 0}
	c := circleOf(parts...)
	for range 3 {
		checkCloses(t, parts, true)
		checkCloses(t, parts[:11], false)
		checkLastPart(t, parts[:11], 0)
		checkNoLastPart(t, parts)
		checkGroupThirds(t, c, 0, [3]int{9, 3, 0})
		checkNoGroup(t, c, 4)
		checkGroupSum(t, c, 1, tone(1, 0, 0, 1))
		checkNoGroup(t, impl.Circle{}, 1)
		checkRegular(t, narrowAt(5), true, 5)
		checkRegular(t, c, false, -1)
		checkRegular(t, impl.EqualCircle(), true, -1)
	}
	// The same memory with other parts is another circle.
	copy(parts, narrowAt(7).Parts)
	checkCloses(t, parts, true)
	checkLastPart(t, parts[:11], 0)
	checkGroupThirds(t, c, 0, [3]int{0, 12, 0})
	checkGroupSum(t, c, 0, tone(1, 0, 0, 1))
	checkRegular(t, c, true, 7)
	parts[7] = 13
	checkCloses(t, parts, false)
	checkNoLastPart(t, parts[:11])
	checkNothingRegular(t, c)
}
