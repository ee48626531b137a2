package tests

import (
	"math"
	"slices"
	"testing"

	"loop.example/g00989/impl"
)

// wishesOf takes a key and its least sum from each two numbers.
func wishesOf(numbers ...int) []impl.Wish {
	var wishes []impl.Wish
	for i := 0; i < len(numbers); i += 2 {
		wishes = append(wishes, impl.Wish{Key: numbers[i], Least: numbers[i+1]})
	}
	return wishes
}

// wishesOfThirds demand from every key just what the circle has.
func wishesOfThirds(c impl.Circle) []impl.Wish {
	var wishes []impl.Wish
	for key, third := range thirdsOf(c) {
		wishes = append(wishes, impl.Wish{Key: key, Least: third})
	}
	return wishes
}

func familyParts() []int { return []int{2, 3, 4, 6, 12} }

func noFamilyParts() []int {
	return append(extremeInts(), -12, -6, -4, -3, -2, -1, 0, 1, 5, 7, 8, 9, 10, 11, 13, 14, 18, 24, 36, 48, 1<<32+2, 1<<32+12, 1<<62+2)
}

// familyOf goes through all 4096 choices, with 0 before the part at each place, and keeps those with the sum 12.
func familyOf(part int) []impl.Circle {
	var family []impl.Circle
	parts := make([]int, 12)
	var choose func(place, sum int)
	choose = func(place, sum int) {
		if place == len(parts) {
			if sum == 12 {
				family = append(family, circleOf(slices.Clone(parts)...))
			}
			return
		}
		for _, n := range []int{0, part} {
			parts[place] = n
			choose(place+1, sum+n)
		}
	}
	choose(0, 0)
	return family
}

// isMet does not look at the circle's validity.
func isMet(c impl.Circle, wishes []impl.Wish) bool {
	met := len(wishes) <= 12
	for _, wish := range wishes {
		met = met && wish.Key >= 0 && wish.Key <= 11 && sumFrom(c.Parts, wish.Key, 4) >= wish.Least
	}
	return met
}

func circlesMeeting(part int, wishes []impl.Wish) []impl.Circle {
	var met []impl.Circle
	for _, c := range familyOf(part) {
		if isMet(c, wishes) {
			met = append(met, c)
		}
	}
	return met
}

// isConflict tries every three of the wishes.
func isConflict(wishes []impl.Wish) bool {
	counted := func(wish impl.Wish) int { return min(max(wish.Least, -1000), 1000) }
	for _, a := range wishes {
		for _, b := range wishes {
			for _, c := range wishes {
				isGroup := a.Key >= 0 && a.Key <= 3 && b.Key == a.Key+4 && c.Key == a.Key+8
				if isGroup && counted(a)+counted(b)+counted(c) > 12 {
					return true
				}
			}
		}
	}
	return false
}

// orders are all the ways to arrange some wishes.
func orders[T any](items []T) [][]T {
	if len(items) == 0 {
		return [][]T{nil}
	}
	var lists [][]T
	for i, first := range items {
		rest := slices.Concat(items[:i], items[i+1:])
		for _, list := range orders(rest) {
			lists = append(lists, append([]T{first}, list...))
		}
	}
	return lists
}

// manyWishes have up to twelve wishes in no order, often several for one key, from hardly any demand to more than a circle has.
func manyWishes() [][]impl.Wish {
	lists := [][]impl.Wish{nil, {}}
	state := 1
	next := func(n int) int {
		state = state * 16807 % 2147483647
		return state % n
	}
	for count := 1; count <= 12; count++ {
		for most := 0; most <= 13; most++ {
			for range 3 {
				var list []impl.Wish
				for range count {
					list = append(list, impl.Wish{Key: next(12), Least: next(most+3) - 2})
				}
				lists = append(lists, list, append(slices.Clone(list[1:]), list[0]), append(slices.Clone(list[1:]), list[count-1]))
			}
		}
	}
	return lists
}

// rejectedWishes would all be met if their keys and their number did not matter.
func rejectedWishes() [][]impl.Wish {
	lists := [][]impl.Wish{slices.Repeat(wishesOf(0, 0), 13), slices.Repeat(wishesOf(5, math.MinInt), 13), slices.Repeat(wishesOf(3, -1), 24), slices.Repeat(wishesOf(3, -1), 5000)}
	for _, key := range noKeys() {
		for _, least := range []int{math.MinInt, -1000, -1, 0} {
			bad := impl.Wish{Key: key, Least: least}
			for _, others := range [][]impl.Wish{nil, wishesOf(0, 0), wishesOf(4, -1, 7, 0, 7, 0, 11, 0)} {
				lists = append(lists, append([]impl.Wish{bad}, others...), append(slices.Clone(others), bad))
			}
			full := slices.Repeat(wishesOf(2, 0), 12)
			full[11] = bad
			lists = append(lists, full)
		}
	}
	return lists
}

func sameCircles(a, b []impl.Circle) bool {
	return slices.EqualFunc(a, b, func(x, y impl.Circle) bool { return slices.Equal(x.Parts, y.Parts) })
}

func checkFamily(t *testing.T, part int, want []impl.Circle) {
	t.Helper()
	if got := impl.FamilyOf(part); !sameCircles(got, want) {
		t.Errorf("FamilyOf(%d) = %v; want %v", part, got, want)
	}
}

func checkMeets(t *testing.T, c impl.Circle, wishes []impl.Wish, want bool) {
	t.Helper()
	if got := impl.Meets(c, wishes); got != want {
		t.Errorf("Meets(%v, %v) = %v", c, wishes, got)
	}
}

// checkMeeting asks for the number of circles and for the first one.
func checkMeeting(t *testing.T, part int, wishes []impl.Wish, want []impl.Circle) {
	t.Helper()
	if got := impl.CountMeeting(part, wishes); got != len(want) {
		t.Errorf("CountMeeting(%d, %v) = %d; want %d", part, wishes, got, len(want))
	}
	first := impl.Circle{}
	if len(want) > 0 {
		first = want[0]
	}
	if got, ok := impl.FirstMeeting(part, wishes); !slices.Equal(got.Parts, first.Parts) || ok != (len(want) > 0) {
		t.Errorf("FirstMeeting(%d, %v) = %v, %v; want %v", part, wishes, got, ok, first)
	}
}

func checkConflict(t *testing.T, wishes []impl.Wish, want bool) {
	t.Helper()
	if got := impl.ConflictOf(wishes); got != want {
		t.Errorf("ConflictOf(%v) = %v", wishes, got)
	}
}

func TestFamilyOfTwelve(t *testing.T) {
	var want []impl.Circle
	for key := 11; key >= 0; key-- {
		want = append(want, narrowAt(key))
	}
	checkFamily(t, 12, want)
}

func TestFamilyOfSix(t *testing.T) {
	var want []impl.Circle
	for first := 10; first >= 0; first-- {
		for second := 11; second > first; second-- {
			parts := make([]int, 12)
			parts[first], parts[second] = 6, 6
			want = append(want, circleOf(parts...))
		}
	}
	checkFamily(t, 6, want)
}

func TestFirstAndLastCirclesOfFamilies(t *testing.T) {
	for part, want := range map[int][][]int{
		2: {{0, 0, 0, 0, 0, 0, 2, 2, 2, 2, 2, 2}, {0, 0, 0, 0, 0, 2, 0, 2, 2, 2, 2, 2}, {2, 2, 2, 2, 2, 2, 0, 0, 0, 0, 0, 0}},
		3: {{0, 0, 0, 0, 0, 0, 0, 0, 3, 3, 3, 3}, {0, 0, 0, 0, 0, 0, 0, 3, 0, 3, 3, 3}, {3, 3, 3, 3, 0, 0, 0, 0, 0, 0, 0, 0}},
		4: {{0, 0, 0, 0, 0, 0, 0, 0, 0, 4, 4, 4}, {0, 0, 0, 0, 0, 0, 0, 0, 4, 0, 4, 4}, {4, 4, 4, 0, 0, 0, 0, 0, 0, 0, 0, 0}},
	} {
		family := impl.FamilyOf(part)
		if len(family) < 3 {
			t.Fatalf("FamilyOf(%d) = %v", part, family)
		}
		for i, c := range []impl.Circle{family[0], family[1], family[len(family)-1]} {
			if !slices.Equal(c.Parts, want[i]) {
				t.Errorf("circle %d of FamilyOf(%d) is %v; want %v", i, part, c, want[i])
			}
		}
	}
}

func TestFamiliesAreAllChoices(t *testing.T) {
	for part, count := range map[int]int{2: 924, 3: 495, 4: 220, 6: 66, 12: 12} {
		want := familyOf(part)
		if len(want) != count {
			t.Fatalf("there are %d choices for the part %d", len(want), part)
		}
		checkFamily(t, part, want)
	}
}

func TestFamiliesAreCirclesInLexicographicOrder(t *testing.T) {
	for _, part := range familyParts() {
		family := impl.FamilyOf(part)
		for i, c := range family {
			checkCircleOk(t, c, true)
			for _, n := range c.Parts {
				if n != 0 && n != part {
					t.Errorf("circle %d of FamilyOf(%d) has the part %d", i, part, n)
				}
			}
			// Strictly ascending circles are none of them there twice.
			if i > 0 && slices.Compare(family[i-1].Parts, c.Parts) >= 0 {
				t.Errorf("FamilyOf(%d) has %v before %v", part, family[i-1], c)
			}
		}
	}
}

// A family has every circle that a circle of it is turned into.
func TestTurnedCirclesAreInTheFamily(t *testing.T) {
	for _, part := range familyParts() {
		texts := map[string]bool{}
		for _, c := range impl.FamilyOf(part) {
			texts[impl.CircleText(c)] = true
		}
		for _, c := range impl.FamilyOf(part) {
			for n := range 12 {
				if text := impl.CircleText(impl.TurnCircle(c, n)); !texts[text] {
					t.Errorf("FamilyOf(%d) has no %s", part, text)
				}
			}
		}
	}
}

func TestNoFamily(t *testing.T) {
	for _, part := range noFamilyParts() {
		checkFamily(t, part, nil)
		for _, wishes := range [][]impl.Wish{nil, {}, wishesOf(0, 0), wishesOf(0, 4, 7, -5), wishesOf(0, 13), wishesOf(12, 0)} {
			checkMeeting(t, part, wishes, nil)
		}
	}
}

func TestMeets(t *testing.T) {
	// The thirds of the keys 0 to 11 are 9, 6, 6, 3, 3, 3, 0, 0, 0, 3, 6 and 9.
	c := circleOf(3, 3, 3, 0, 0, 3, 0, 0, 0, 0, 0, 0)
	checkMeets(t, c, wishesOf(0, 9), true)
	checkMeets(t, c, wishesOf(0, 10), false)
	checkMeets(t, c, wishesOf(0, 8), true)
	checkMeets(t, c, wishesOf(11, 9, 0, 9, 10, 6, 6, 0), true)
	checkMeets(t, c, wishesOf(11, 9, 0, 9, 10, 7, 6, 0), false)
	checkMeets(t, c, wishesOf(11, 9, 0, 9, 10, 6, 6, 1), false)
	checkMeets(t, c, wishesOf(11, 10, 0, 9, 10, 6, 6, 0), false)
	// Of several wishes for a key, the strictest one decides, wherever it is.
	checkMeets(t, c, wishesOf(5, 1, 5, 3, 5, 2), true)
	checkMeets(t, c, wishesOf(5, 4, 5, 3, 5, 2), false)
	checkMeets(t, c, wishesOf(5, 1, 5, 4, 5, 2), false)
	checkMeets(t, c, wishesOf(5, 1, 5, 3, 5, 4), false)
	checkMeets(t, impl.EqualCircle(), wishesOf(0, 4, 4, 4, 8, 4), true)
	checkMeets(t, impl.EqualCircle(), wishesOf(0, 4, 4, 4, 8, 5), false)
}

func TestMeetsEveryLeastUpToTheThird(t *testing.T) {
	for _, c := range append(manyCircles(), knownCircles()...) {
		for key, third := range thirdsOf(c) {
			checkMeets(t, c, wishesOf(key, third-1), true)
			checkMeets(t, c, wishesOf(key, third), true)
			checkMeets(t, c, wishesOf(key, third+1), false)
		}
	}
}

func TestMeetsManyWishes(t *testing.T) {
	circles := append(knownCircles(), mixedCircle(), narrowAt(0), narrowAt(11))
	for i, c := range manyCircles() {
		if i%97 == 0 {
			circles = append(circles, c)
		}
	}
	count := map[bool]int{}
	for _, c := range circles {
		for _, wishes := range manyWishes() {
			want := true
			for _, wish := range wishes {
				want = want && impl.ThirdParts(c, wish.Key) >= wish.Least
			}
			count[want]++
			checkMeets(t, c, wishes, want)
		}
	}
	if count[true] < 1000 || count[false] < 1000 {
		t.Errorf("%d lists of wishes were met, %d were not", count[true], count[false])
	}
}

// The thirds that a circle has are the most that all its keys can wish for: with one of them higher, one of twelve wishes is not met.
func TestTwelveWishes(t *testing.T) {
	for _, c := range append(manyCircles(), knownCircles()...) {
		wishes := wishesOfThirds(c)
		checkMeets(t, c, wishes, true)
		for i := range wishes {
			wishes[i].Least++
			checkMeets(t, c, wishes, false)
			wishes[i].Least--
		}
		for i := range wishes {
			// A thirteenth wish is too much, though it is met like the others.
			checkMeets(t, c, append(slices.Clone(wishes), wishes[i]), false)
			same := slices.Repeat(wishes[i:i+1], 13)
			checkMeets(t, c, same[:12], true)
			checkMeets(t, c, same, false)
		}
	}
}

func TestTwelveWishesOfFamilies(t *testing.T) {
	for _, part := range familyParts() {
		for i, c := range familyOf(part) {
			if i%10 == 0 || part >= 6 {
				wishes := wishesOfThirds(c)
				checkMeeting(t, part, wishes, circlesMeeting(part, wishes))
				checkMeeting(t, part, wishes[1:], circlesMeeting(part, wishes[1:]))
				checkMeeting(t, part, append(wishes, wishesOf(0, -1)...), nil)
			}
		}
	}
}

func TestNoWishes(t *testing.T) {
	memory := wishesOf(0, 13, 4, 13, 8, 13)
	for _, wishes := range [][]impl.Wish{nil, {}, memory[:0]} {
		for _, c := range append(manyCircles(), knownCircles()...) {
			checkMeets(t, c, wishes, true)
		}
		for part, count := range map[int]int{2: 924, 3: 495, 4: 220, 6: 66, 12: 12} {
			if got := impl.CountMeeting(part, wishes); got != count {
				t.Errorf("CountMeeting(%d, no wishes) = %d", part, got)
			}
			checkMeeting(t, part, wishes, familyOf(part))
		}
		checkConflict(t, wishes, false)
	}
}

func TestMeetingOneWish(t *testing.T) {
	for key := range 12 {
		// The narrow fifth is one of the four above the key.
		checkMeeting(t, 12, wishesOf(key, 13), nil)
		for _, least := range []int{1, 11, 12} {
			if got := impl.CountMeeting(12, wishesOf(key, least)); got != 4 {
				t.Errorf("CountMeeting(12, key %d, least %d) = %d", key, least, got)
			}
			checkMeeting(t, 12, wishesOf(key, least), circlesMeeting(12, wishesOf(key, least)))
		}
		for _, least := range []int{0, -1, -1000, -1001, math.MinInt} {
			checkMeeting(t, 12, wishesOf(key, least), familyOf(12))
			checkMeeting(t, 2, wishesOf(key, least), familyOf(2))
			checkMeets(t, narrowAt((key+4)%12), wishesOf(key, least), true)
		}
		for _, least := range []int{13, 1000, 1001, math.MaxInt} {
			checkMeets(t, narrowAt(key), wishesOf(key, least), false)
			for _, part := range familyParts() {
				checkMeeting(t, part, wishesOf(key, least), nil)
			}
		}
		checkMeets(t, narrowAt((key+4)%12), wishesOf(key, 1), false)
		checkMeets(t, narrowAt(key), wishesOf(key, 12), true)
	}
	// Three fourths of the comma in four fifths leave one fourth for the other eight.
	if got := impl.CountMeeting(3, wishesOf(5, 9)); got != 4*8+1 {
		t.Errorf("CountMeeting(3, key 5, least 9) = %d", got)
	}
	if got := impl.CountMeeting(2, wishesOf(9, 8)); got != 28 {
		t.Errorf("CountMeeting(2, key 9, least 8) = %d", got)
	}
}

func TestFirstMeeting(t *testing.T) {
	for _, known := range []struct {
		part   int
		wishes []impl.Wish
		want   impl.Circle
	}{
		{12, wishesOf(0, 12), narrowAt(3)},
		{12, wishesOf(9, 1), narrowAt(11)},
		{12, wishesOf(9, 1, 0, 1), narrowAt(0)},
		{12, wishesOf(0, 1, 3, 1), narrowAt(3)},
		{6, wishesOf(0, 6, 4, 6), circleOf(0, 0, 0, 6, 0, 0, 0, 6, 0, 0, 0, 0)},
		{4, wishesOf(0, 4, 4, 4, 8, 4), circleOf(0, 0, 0, 4, 0, 0, 0, 4, 0, 0, 0, 4)},
		{3, wishesOf(0, 9, 1, 6), circleOf(0, 3, 3, 3, 0, 0, 0, 0, 0, 0, 0, 3)},
		{2, wishesOf(0, 8, 11, 8), circleOf(2, 2, 2, 2, 0, 0, 0, 0, 0, 0, 2, 2)},
	} {
		got, ok := impl.FirstMeeting(known.part, known.wishes)
		if !slices.Equal(got.Parts, known.want.Parts) || !ok {
			t.Errorf("FirstMeeting(%d, %v) = %v, %v; want %v", known.part, known.wishes, got, ok, known.want)
		}
	}
}

func TestMeetingManyWishes(t *testing.T) {
	for _, part := range familyParts() {
		family, none, some := familyOf(part), 0, 0
		for _, wishes := range manyWishes() {
			var want []impl.Circle
			for _, c := range family {
				if isMet(c, wishes) {
					want = append(want, c)
				}
			}
			checkMeeting(t, part, wishes, want)
			switch len(want) {
			case 0:
				none++
			case len(family):
			default:
				some++
			}
		}
		if none < 100 || some < 100 {
			t.Errorf("with the part %d, %d lists of wishes are met by no circle, %d by some", part, none, some)
		}
	}
}

// The number and the first one are those of the circles of FamilyOf that Meets accepts.
func TestMeetingIsInTheFamily(t *testing.T) {
	for _, part := range append(familyParts(), noFamilyParts()...) {
		family := impl.FamilyOf(part)
		for i, wishes := range slices.Concat(manyWishes(), rejectedWishes()) {
			if i%7 == 0 {
				met := slices.DeleteFunc(slices.Clone(family), func(c impl.Circle) bool { return !impl.Meets(c, wishes) })
				checkMeeting(t, part, wishes, met)
			}
		}
	}
}

func TestOrderOfWishesDoesNotMatter(t *testing.T) {
	for _, wishes := range [][]impl.Wish{wishesOf(0, 6, 1, 6, 5, 2, 0, 3), wishesOf(3, 4, 7, 4, 11, 4, 7, 2), wishesOf(2, 5, 6, 4, 10, 4, 6, 1), wishesOf(0, 2, 0, 2, 5, 3, 5, 3)} {
		for _, list := range orders(wishes) {
			checkConflict(t, list, isConflict(wishes))
			for _, part := range familyParts() {
				checkMeeting(t, part, list, circlesMeeting(part, wishes))
			}
		}
	}
}

func TestRejectedWishes(t *testing.T) {
	for _, wishes := range rejectedWishes() {
		for _, c := range append(knownCircles(), mixedCircle(), narrowAt(0), narrowAt(11)) {
			checkMeets(t, c, wishes, false)
		}
		for _, part := range familyParts() {
			checkMeeting(t, part, wishes, nil)
		}
		checkConflict(t, wishes, false)
	}
}

func TestInvalidCirclesMeetNoWishes(t *testing.T) {
	for _, c := range invalidCircles() {
		for _, wishes := range [][]impl.Wish{nil, {}, wishesOf(0, 0), wishesOf(0, math.MinInt, 11, -1), wishesOf(5, 1), wishesOf(12, 0), slices.Repeat(wishesOf(0, 0), 13)} {
			checkMeets(t, c, wishes, false)
		}
	}
}

func TestMeetsDoesNotUseWhatIsBehindTheCircle(t *testing.T) {
	memory := append(slices.Clone(mixedCircle().Parts), 12, 0, 0, -7)
	checkMeets(t, circleOf(memory[:12]...), wishesOfThirds(mixedCircle()), true)
	checkMeets(t, circleOf(memory[:11]...), nil, false)
	checkMeets(t, circleOf(memory[:13]...), nil, false)
	wishes := wishesOf(0, 4, 4, 3, 8, 2, 8, 12)
	checkMeets(t, mixedCircle(), wishes[:3], true)
	checkMeets(t, mixedCircle(), wishes, false)
	checkConflict(t, wishes[:3], false)
	checkConflict(t, wishes, true)
}

func TestConflictOf(t *testing.T) {
	checkConflict(t, wishesOf(0, 5, 4, 5, 8, 5), true)
	checkConflict(t, wishesOf(0, 9), false)
	checkConflict(t, wishesOf(0, 13), false)
	checkConflict(t, wishesOf(0, 12, 4, 12), false)
	checkConflict(t, wishesOf(4, 12, 8, 12), false)
	checkConflict(t, wishesOf(0, 12, 8, 12), false)
	checkConflict(t, wishesOf(0, 12, 0, 12, 4, 12), false)
	checkConflict(t, wishesOf(0, 12, 4, 12, 8, -12), false)
	checkConflict(t, wishesOf(0, 12, 4, 12, 8, -11), true)
	checkConflict(t, wishesOf(0, 13, 4, 0, 8, 0), true)
	checkConflict(t, wishesOf(1, 5, 6, 5, 11, 5), false)
	checkConflict(t, wishesOf(3, 1, 7, 12, 11, 0), true)
}

func TestConflictsHaveSumsBeyondTheComma(t *testing.T) {
	for k := range 4 {
		for a := -1; a <= 14; a++ {
			for b := -1; b <= 14; b++ {
				for _, sum := range []int{11, 12, 13, 14} {
					for _, list := range orders(wishesOf(k, a, k+4, b, k+8, sum-a-b)) {
						checkConflict(t, list, sum > 12)
					}
				}
			}
		}
	}
}

// A fourth wish decides just if it is the stricter one of two for one of the keys.
func TestConflictsWithAFurtherWish(t *testing.T) {
	for k := range 4 {
		for place := range 3 {
			three := wishesOf(k, 3, k+4, 4, k+8, 5)
			further := three[place]
			further.Least++
			for _, list := range orders(append(three, further)) {
				checkConflict(t, list, true)
			}
			for _, less := range []int{0, 1, 20, 2000} {
				further.Least = three[place].Least - less
				for _, list := range orders(append(three, further)) {
					checkConflict(t, list, false)
				}
			}
			further.Key = (three[place].Key + 1) % 12
			further.Least = 12
			for _, list := range orders(append(three, further)) {
				checkConflict(t, list, false)
			}
		}
	}
}

// Only keys that are four and eight above the first one make a group.
func TestConflictsOfEveryThreeKeys(t *testing.T) {
	for a := -5; a < 20; a++ {
		for b := -5; b < 20; b++ {
			for c := -5; c < 20; c++ {
				keys := []int{a, b, c}
				slices.Sort(keys)
				isGroup := keys[0] >= 0 && keys[0] < 4 && keys[1] == keys[0]+4 && keys[2] == keys[0]+8
				for _, least := range []int{4, 5, 13, 1000} {
					checkConflict(t, wishesOf(a, least, b, least, c, least), isGroup && least > 4)
				}
			}
		}
	}
}

// Each group is looked at, and wishes of different groups are not added.
func TestConflictsOfEveryGroup(t *testing.T) {
	for k := range 4 {
		var wishes []impl.Wish
		for key := range 12 {
			least := 4
			if key%4 == k && key >= 8 {
				least = 5
			}
			wishes = append(wishes, impl.Wish{Key: key, Least: least})
		}
		checkConflict(t, wishes, true)
		wishes[8+k].Least = 4
		checkConflict(t, wishes, false)
		// Without one key of each group, no sum counts.
		for key := range wishes {
			wishes[key].Least = 12
		}
		checkConflict(t, wishes[:8], false)
		checkConflict(t, wishes[4:], false)
		checkConflict(t, slices.Concat(wishes[:4], wishes[8:]), false)
		checkConflict(t, wishes[:9], true)
	}
}

func TestConflictsOfManyWishes(t *testing.T) {
	count := map[bool]int{}
	for _, wishes := range manyWishes() {
		count[isConflict(wishes)]++
		checkConflict(t, wishes, isConflict(wishes))
	}
	if count[true] < 100 || count[false] < 100 {
		t.Errorf("%d lists of wishes are in conflict, %d are not", count[true], count[false])
	}
}

func TestLeastIsCountedUpToAThousand(t *testing.T) {
	for _, known := range []struct {
		a, b, c int
		want    bool
	}{
		{math.MaxInt, math.MaxInt, math.MaxInt, true}, {math.MinInt, math.MinInt, math.MinInt, false}, {math.MaxInt, math.MaxInt, math.MinInt, true},
		{math.MaxInt, math.MinInt, math.MinInt, false}, {math.MaxInt, math.MinInt, 12, false}, {math.MaxInt, math.MinInt, 13, true},
		{math.MaxInt, 1, 1, true}, {math.MinInt, 6, 6, false}, {math.MinInt, -1, -1, false}, {math.MinInt, 506, 507, true}, {math.MinInt, 506, 506, false},
		{1 << 62, 1 << 62, 0, true}, {-1 << 62, -1 << 62, -1, false}, {-1 << 62, 1 << 62, 12, false}, {-1 << 62, 1 << 62, 13, true},
		{1000, -988, 0, false}, {1000, -987, 0, true}, {1001, -988, 0, false}, {999, -987, 0, false}, {999, -986, 0, true}, {2000, -988, 0, false},
		{-1000, 1000, 12, false}, {-1000, 1000, 13, true}, {-1001, 1000, 13, true}, {-999, 1000, 12, true}, {-999, 1000, 11, false}, {-2000, 1000, 13, true},
		{-1001, 506, 507, true}, {-1000, 506, 506, false}, {-999, 506, 506, true}, {1001, -494, -494, false}, {1001, -494, -493, true},
	} {
		for k := range 4 {
			wishes := wishesOf(k, known.a, k+4, known.b, k+8, known.c)
			if isConflict(wishes) != known.want {
				t.Errorf("every three of %v make %v", wishes, !known.want)
			}
			for _, list := range orders(wishes) {
				checkConflict(t, list, known.want)
				// A wish that is no stricter, however little it demands, changes nothing.
				checkConflict(t, append(list, wishesOf(k+4, math.MinInt)...), known.want)
			}
		}
	}
	// One key alone, or two, are never in conflict.
	for key := range 12 {
		for _, least := range extremeInts() {
			checkConflict(t, wishesOf(key, least), false)
			checkConflict(t, wishesOf(key, math.MaxInt, (key+4)%12, least, key, least), false)
		}
	}
}

func TestConflictsWithKeysOutside(t *testing.T) {
	three := wishesOf(1, 4, 5, 4, 9, 5)
	for _, key := range noKeys() {
		bad := impl.Wish{Key: key, Least: 12}
		checkConflict(t, append([]impl.Wish{bad}, three...), true)
		checkConflict(t, append(slices.Clone(three), bad), true)
		checkConflict(t, append([]impl.Wish{bad}, three[:2]...), false)
		checkConflict(t, append(slices.Clone(three[1:]), bad), false)
		// Three keys of this distance are no group outside of 0 to 11, also where the numbers overflow.
		checkConflict(t, wishesOf(key, 12, key+4, 12, key+8, 12), false)
		checkConflict(t, wishesOf(key, 12, key-4, 12, key-8, 12), false)
	}
	checkConflict(t, wishesOf(-4, 12, 0, 12, 4, 12), false)
	checkConflict(t, wishesOf(4, 12, 8, 12, 12, 12), false)
	checkConflict(t, wishesOf(-1, 12, 3, 12, 7, 12), false)
	checkConflict(t, wishesOf(7, 12, 11, 12, 15, 12), false)
	checkConflict(t, wishesOf(12, 12, 4, 12, 8, 12), false)
	checkConflict(t, wishesOf(0, 12, 4, 12, -4, 12), false)
}

// ConflictOf has no limit to the number of wishes.
func TestConflictsOfLongLists(t *testing.T) {
	three := wishesOf(2, 4, 6, 5, 10, 4)
	for _, count := range []int{9, 10, 11, 20, 1000, 100000} {
		for _, others := range [][]impl.Wish{wishesOf(2, 3), wishesOf(0, 12), wishesOf(-1, 99), wishesOf(6, 5)} {
			long := slices.Repeat(others, count)
			checkConflict(t, long, false)
			checkConflict(t, slices.Concat(long, three), true)
			checkConflict(t, slices.Concat(three, long), true)
			checkConflict(t, slices.Concat(three[:1], long, three[1:]), true)
		}
		long := slices.Repeat(wishesOf(2, 3), count)
		checkConflict(t, slices.Concat(long, three[1:]), false)
		checkConflict(t, slices.Concat(three[1:], long), false)
	}
}

// Wishes need not be in conflict where a family is without a circle that meets them.
func TestWishesOutsideAFamily(t *testing.T) {
	for _, known := range []struct {
		without []int
		wishes  []impl.Wish
	}{
		{[]int{4, 12}, wishesOf(0, 6, 4, 6)},
		{[]int{6, 12}, wishesOf(0, 1, 4, 1, 8, 1)},
		{[]int{3, 6, 12}, wishesOf(0, 4, 4, 4, 8, 4)},
		{[]int{2, 4, 6, 12}, wishesOf(3, 9, 7, 3)},
		{[]int{2}, wishesOf(0, 9)},
		{[]int{2, 3, 4, 6, 12}, wishesOf(0, 5, 4, 5, 8, 1)},
		{[]int{2, 3, 4, 6, 12}, wishesOf(2, 13)},
		{[]int{2, 3, 4, 6, 12}, wishesOf(2, 7, 6, 6)},
	} {
		checkConflict(t, known.wishes, false)
		for _, part := range familyParts() {
			want := circlesMeeting(part, known.wishes)
			if slices.Contains(known.without, part) != (len(want) == 0) {
				t.Errorf("%d circles with the part %d meet %v", len(want), part, known.wishes)
			}
			checkMeeting(t, part, known.wishes, want)
		}
	}
	checkMeets(t, impl.EqualCircle(), wishesOf(0, 4, 4, 4, 8, 4), true)
}

func TestWishesInConflictAreMetByNoCircle(t *testing.T) {
	circles := append(manyCircles(), knownCircles()...)
	for i, wishes := range manyWishes() {
		if !impl.ConflictOf(wishes) {
			continue
		}
		for _, part := range familyParts() {
			checkMeeting(t, part, wishes, nil)
		}
		if i%5 == 0 {
			for _, c := range circles {
				checkMeets(t, c, wishes, false)
			}
		}
	}
}

// All ways to divide the comma: what three keys of a circle have is no conflict, and one twelfth more is one that it does not meet.
func TestThirdsOfEveryDistributionAreNoConflict(t *testing.T) {
	count := 0
	eachDistribution(12, func(parts []int) {
		c, k := circleOf(parts...), count%4
		wishes := wishesOf(k, sumFrom(parts, k, 4), k+4, sumFrom(parts, k+4, 4), k+8, sumFrom(parts, k+8, 4))
		more := &wishes[count/4%3]
		count++
		if impl.ConflictOf(wishes) || !impl.Meets(c, wishes) {
			t.Fatalf("%v does not meet %v, or they are in conflict", c, wishes)
		}
		more.Least++
		if !impl.ConflictOf(wishes) || impl.Meets(c, wishes) {
			t.Fatalf("%v meets %v, or they are not in conflict", c, wishes)
		}
	})
	if count != 1352078 {
		t.Errorf("%d distributions were tried", count)
	}
}

// Three wishes without a conflict are met by a circle that has their parts in three fifths.
func TestThreeWishesWithoutAConflictAreMet(t *testing.T) {
	for k := range 4 {
		for a := range 13 {
			for b := range 13 - a {
				parts := make([]int, 12)
				parts[k], parts[k+4], parts[k+8] = a, b, 12-a-b
				wishes := wishesOf(k, a, k+4, b, k+8, 12-a-b)
				checkConflict(t, wishes, false)
				checkMeets(t, circleOf(parts...), wishes, true)
			}
		}
	}
}

func askWishes(c impl.Circle, wishes []impl.Wish) {
	impl.Meets(c, wishes)
	impl.ConflictOf(wishes)
	for _, part := range append(familyParts(), 0, 1, 5) {
		impl.CountMeeting(part, wishes)
		impl.FirstMeeting(part, wishes)
	}
}

func TestWishArgumentsAreKept(t *testing.T) {
	lists := slices.Concat([][]impl.Wish{nil, wishesOf(8, 3, 0, 5, 4, 9, 0, 2)}, rejectedWishes()[:40])
	for i, wishes := range manyWishes() {
		if i%13 == 0 {
			lists = append(lists, wishes)
		}
	}
	for _, wishes := range lists {
		for _, c := range []impl.Circle{mixedCircle(), narrowAt(11), circleOf(1, 2, 9), circleOf(slices.Repeat([]int{13}, 12)...)} {
			parts := append(slices.Clone(c.Parts), 77, -77, 77, 77)
			memory := append(slices.Clone(wishes), wishesOf(77, -77, 4, 77, 8, 77)...)
			partsBefore, before := slices.Clone(parts), slices.Clone(memory)
			askWishes(circleOf(parts[:len(c.Parts)]...), memory[:len(wishes)])
			if !slices.Equal(parts, partsBefore) {
				t.Errorf("the parts %v, or what lies behind them, became %v", partsBefore, parts)
			}
			if !slices.Equal(memory, before) {
				t.Errorf("the wishes %v, or what lies behind them, became %v", before, memory)
			}
		}
	}
}

func TestFamiliesAreNewMemory(t *testing.T) {
	for _, part := range familyParts() {
		want := familyOf(part)
		second := impl.FamilyOf(part)
		for changed := range want {
			if changed%17 != 0 {
				continue
			}
			first := impl.FamilyOf(part)
			overwrite(first[changed])
			for i, c := range first {
				if i != changed && !slices.Equal(c.Parts, want[i].Parts) {
					t.Fatalf("circles %d and %d of FamilyOf(%d) share memory: %v", changed, i, part, c)
				}
			}
		}
		if !sameCircles(second, want) {
			t.Errorf("two results of FamilyOf(%d) share memory: %v", part, second)
		}
		first := impl.FamilyOf(part)
		first = first[:cap(first)]
		clear(first)
		if !sameCircles(second, want) {
			t.Errorf("two lists of FamilyOf(%d) share memory: %v", part, second)
		}
		checkFamily(t, part, want)
	}
}

func TestFirstMeetingIsNewMemory(t *testing.T) {
	for _, part := range familyParts() {
		for _, wishes := range [][]impl.Wish{nil, wishesOf(0, 1), wishesOf(11, 1, 2, -4)} {
			want := circlesMeeting(part, wishes)
			family := impl.FamilyOf(part)
			first, _ := impl.FirstMeeting(part, wishes)
			second, ok := impl.FirstMeeting(part, wishes)
			overwrite(first)
			if !slices.Equal(second.Parts, want[0].Parts) || !ok {
				t.Errorf("two results of FirstMeeting(%d, %v) share memory: %v", part, wishes, second)
			}
			if !sameCircles(family, familyOf(part)) {
				t.Errorf("FirstMeeting(%d, %v) shares memory with the family", part, wishes)
			}
			checkMeeting(t, part, wishes, want)
		}
	}
}

// Wishes that were asked for change no other ones, nor do those that were rejected.
func TestWishesKeepNothing(t *testing.T) {
	wishes := wishesOf(0, 9, 1, 6)
	for range 3 {
		checkMeeting(t, 3, wishes, circlesMeeting(3, wishes))
		checkMeeting(t, 3, wishesOf(0, 9, 1, 6, 12, 0), nil)
		checkMeeting(t, 7, wishes, nil)
		checkMeeting(t, 6, wishes, circlesMeeting(6, wishes))
		checkConflict(t, wishesOf(0, 9, 4, 4, 8, 0), true)
		checkConflict(t, wishes, false)
		checkMeets(t, circleOf(3, 3, 3, 0, 0, 3, 0, 0, 0, 0, 0, 0), wishes, true)
		checkMeets(t, impl.EqualCircle(), wishes, false)
	}
	// The same memory with other wishes is another list.
	wishes[0].Least, wishes[1].Key = 3, 4
	checkMeeting(t, 3, wishes, circlesMeeting(3, wishes))
	checkMeets(t, impl.EqualCircle(), wishes, false)
	wishes[1].Least = 4
	checkMeets(t, impl.EqualCircle(), wishes, true)
}
