package tests

import (
	"math"
	"slices"
	"testing"

	"loop.example/g00989/impl"
)

// placesIn counts up to each place, so that nothing is divided; it is nil where the chapter rejects the input.
func placesIn(count, size int) []int {
	if count < 1 || count > mostSizes || size < count || size > mostSizesSum {
		return nil
	}
	var places []int
	for i := 0; i < count; i++ {
		place := 0
		for (place+1)*count <= i*size {
			place++
		}
		places = append(places, place)
	}
	return places
}

// evenScaleIn is nil where the chapter has the zero Scale.
func evenScaleIn(count, size int) []int {
	places := placesIn(count, size)
	var sizes []int
	for i, place := range places {
		distance := size - place
		if i < len(places)-1 {
			distance = places[i+1] - place
		}
		if distance > greatestSize {
			return nil
		}
		sizes = append(sizes, distance)
	}
	return sizes
}

func isEvenIn(sizes []int) bool {
	for count := 0; count <= len(sizes); count++ {
		spans := spansIn(sizes, count)
		if len(spans) != 1 && (len(spans) != 2 || spans[1]-spans[0] != 1) {
			return false
		}
	}
	return isScale(sizes)
}

func unevennessIn(sizes []int) int {
	sum := 0
	for count := 1; count <= len(sizes) && isScale(sizes); count++ {
		spans := spansIn(sizes, count)
		sum += slices.Max(spans) - slices.Min(spans)
	}
	return sum
}

// leastUnevenness is that of the even scale with as many sizes and the same sum.
func leastUnevenness(sizes []int) int {
	return impl.Unevenness(impl.EvenScale(len(sizes), sumFrom(sizes, 0, len(sizes))))
}

// eachEven calls with every count and size that has places.
func eachEven(visit func(count, size int)) {
	for count := 1; count <= mostSizes; count++ {
		for size := count; size <= mostSizesSum; size++ {
			visit(count, size)
		}
	}
}

// nearlyEven moves one step from one size of each even scale to another one.
func nearlyEven() [][]int {
	var lists [][]int
	eachEven(func(count, size int) {
		even := evenScaleIn(count, size)
		for from := range even {
			for to := range even {
				sizes := slices.Clone(even)
				sizes[from]--
				sizes[to]++
				if isScale(sizes) {
					lists = append(lists, sizes)
				}
			}
		}
	})
	return lists
}

// smallScales are all scales of up to twelve sizes with a sum of at most this one.
func smallScales(most int) [][]int {
	var lists [][]int
	for sum := 1; sum <= most; sum++ {
		for _, sizes := range compositions(sum) {
			if isScale(sizes) {
				lists = append(lists, sizes)
			}
		}
	}
	return lists
}

// noEvenCounts are numbers of notes that are rejected; some of them would be possible if they lost their upper bits.
func noEvenCounts() []int {
	return append(extremeInts(), 0, -1, -2, -7, -mostSizes, mostSizes+1, mostSizes+2, 24, mostSizesSum, 256+7, 1<<32+7, -1<<32+7, math.MinInt+7)
}

// noEvenSizes are numbers of steps that are rejected for a number of notes.
func noEvenSizes(count int) []int {
	return append(extremeInts(), count-1, 0, -1, -count, -mostSizesSum, mostSizesSum+1, mostSizesSum+2, 2*mostSizesSum, 256+mostSizes, 1<<32+mostSizes, -1<<32+mostSizes, math.MinInt+mostSizes, math.MaxInt/2)
}

func checkPlaces(t *testing.T, count, size int, want ...int) {
	t.Helper()
	if got := impl.EvenPlaces(count, size); !slices.Equal(got, want) {
		t.Errorf("EvenPlaces(%d, %d) = %v; want %v", count, size, got, want)
	}
}

func checkEvenScale(t *testing.T, count, size int, want ...int) {
	t.Helper()
	if got := impl.EvenScale(count, size); !slices.Equal(got.Sizes, want) {
		t.Errorf("EvenScale(%d, %d) = %v; want %v", count, size, got, want)
	}
}

func checkEven(t *testing.T, sizes []int, want bool) {
	t.Helper()
	if got := impl.IsEven(scaleOf(sizes...)); got != want {
		t.Errorf("IsEven(%v) = %v", sizes, got)
	}
}

func checkUnevenness(t *testing.T, sizes []int, want int) {
	t.Helper()
	if got := impl.Unevenness(scaleOf(sizes...)); got != want {
		t.Errorf("Unevenness(%v) = %d; want %d", sizes, got, want)
	}
}

// checkEvenness holds the results for sizes, which may be no scale, against the chapter's words.
func checkEvenness(t *testing.T, sizes []int) {
	t.Helper()
	checkEven(t, sizes, isEvenIn(sizes))
	checkUnevenness(t, sizes, unevennessIn(sizes))
}

// checkNoPlaces asks with a count or a size that is rejected.
func checkNoPlaces(t *testing.T, count, size int) {
	t.Helper()
	checkPlaces(t, count, size)
	checkEvenScale(t, count, size)
}

func TestEvenPlaces(t *testing.T) {
	checkPlaces(t, 7, 12, 0, 1, 3, 5, 6, 8, 10)
	checkPlaces(t, 5, 12, 0, 2, 4, 7, 9)
	checkPlaces(t, 8, 12, 0, 1, 3, 4, 6, 7, 9, 10)
	checkPlaces(t, 3, 7, 0, 2, 4)
	checkPlaces(t, 12, 53, 0, 4, 8, 13, 17, 22, 26, 30, 35, 39, 44, 48)
	checkPlaces(t, 7, 31, 0, 4, 8, 13, 17, 22, 26)
	checkPlaces(t, 2, 60, 0, 30)
	checkPlaces(t, 11, 60, 0, 5, 10, 16, 21, 27, 32, 38, 43, 49, 54)
	checkPlaces(t, 3, 2)
	checkPlaces(t, 0, 12)
	checkPlaces(t, 13, 60)
	checkPlaces(t, 7, 61)
}

func TestEvenScale(t *testing.T) {
	checkEvenScale(t, 7, 12, 1, 2, 2, 1, 2, 2, 2)
	checkEvenScale(t, 5, 12, 2, 2, 3, 2, 3)
	checkEvenScale(t, 8, 12, 1, 2, 1, 2, 1, 2, 1, 2)
	checkEvenScale(t, 6, 12, 2, 2, 2, 2, 2, 2)
	checkEvenScale(t, 3, 7, 2, 2, 3)
	checkEvenScale(t, 12, 53, 4, 4, 5, 4, 5, 4, 4, 5, 4, 5, 4, 5)
	checkEvenScale(t, 7, 31, 4, 4, 5, 4, 5, 4, 5)
	checkEvenScale(t, 4, 59, 14, 15, 15, 15)
	checkEvenScale(t, 2, 60)
	checkEvenScale(t, 3, 2)
	checkEvenScale(t, 13, 60)
	checkEvenScale(t, 0, 0)
}

func TestIsEven(t *testing.T) {
	for _, sizes := range [][]int{{2, 2, 1, 2, 2, 2, 1}, {2, 2, 3, 2, 3}, {1, 2, 1, 2, 1, 2, 1, 2}, {2, 2, 2}, {19, 20}, {1}, {20}, {2, 2, 2, 3}, {4, 4, 5, 4, 5, 4, 5}} {
		checkEven(t, sizes, true)
	}
	for _, sizes := range [][]int{{1, 3}, {2, 1, 2, 2, 1, 3, 1}, {1, 2, 3}, {9, 9, 4, 9, 9, 9, 4}, {1, 1, 3}, {18, 20}, nil, {0}, {61}} {
		checkEven(t, sizes, false)
	}
}

func TestUnevenness(t *testing.T) {
	checkUnevenness(t, []int{2, 2, 1, 2, 2, 2, 1}, 6)
	checkUnevenness(t, []int{2, 1, 2, 2, 1, 3, 1}, 10)
	checkUnevenness(t, []int{1, 2, 1, 2, 1, 2, 1, 2}, 4)
	checkUnevenness(t, []int{2, 2, 3, 2, 3}, 4)
	checkUnevenness(t, []int{1, 1, 2, 2}, 4)
	checkUnevenness(t, []int{1, 3}, 2)
	checkUnevenness(t, []int{1, 20}, 19)
	checkUnevenness(t, []int{20, 1, 10}, 38)
	checkUnevenness(t, []int{9, 9, 4, 9, 9, 9, 4}, 30)
	checkUnevenness(t, []int{20, 20, 20}, 0)
	checkUnevenness(t, []int{7}, 0)
	checkUnevenness(t, nil, 0)
	checkUnevenness(t, []int{20, 20, 20, 1}, 0)
}

func TestEveryEvenPlace(t *testing.T) {
	eachEven(func(count, size int) { checkPlaces(t, count, size, placesIn(count, size)...) })
}

func TestEveryEvenScale(t *testing.T) {
	eachEven(func(count, size int) {
		sizes := evenScaleIn(count, size)
		checkEvenScale(t, count, size, sizes...)
		checkEvenness(t, sizes)
	})
}

// The distances are the ones between the places that are returned, and lead back to the first note.
func TestDistancesOfPlaces(t *testing.T) {
	eachEven(func(count, size int) {
		places, s := impl.EvenPlaces(count, size), impl.EvenScale(count, size)
		for i, distance := range s.Sizes {
			if places[0] != 0 || (places[i]+distance)%size != places[(i+1)%count] {
				t.Errorf("EvenScale(%d, %d) = %v does not lead along %v", count, size, s, places)
			}
		}
		if len(s.Sizes) > 0 && impl.ScaleSum(s) != size {
			t.Errorf("ScaleSum(%v) is not %d", s, size)
		}
	})
}

func TestEvenScalesAndTheirModesAreEven(t *testing.T) {
	eachEven(func(count, size int) {
		s := impl.EvenScale(count, size)
		unevenness := impl.Unevenness(s)
		for k := range s.Sizes {
			mode := impl.ModeOf(s, k)
			checkEven(t, mode.Sizes, true)
			checkUnevenness(t, mode.Sizes, unevenness)
			checkEven(t, impl.ReverseScale(mode).Sizes, true)
		}
		if len(s.Sizes) == 0 && (impl.IsEven(s) || unevenness != 0) {
			t.Errorf("the zero Scale of EvenScale(%d, %d) is even or uneven", count, size)
		}
	})
}

// checkAgainstEven holds a scale against the even one of its kind: it is not below it, and only an even one, which is a mode of that, is not above it.
func checkAgainstEven(t *testing.T, sizes []int) {
	t.Helper()
	s := scaleOf(sizes...)
	got, least := impl.Unevenness(s), leastUnevenness(sizes)
	if got < least {
		t.Errorf("Unevenness(%v) = %d; the even scale has %d", sizes, got, least)
	}
	if impl.IsEven(s) != (got == least) {
		t.Errorf("IsEven(%v) = %v, but Unevenness is %d, and %d for the even scale", sizes, impl.IsEven(s), got, least)
	}
	even := impl.EvenScale(len(sizes), sumFrom(sizes, 0, len(sizes)))
	if impl.IsEven(s) != (impl.SameMode(even, s) != -1) {
		t.Errorf("IsEven(%v) = %v, but it differs from being a mode of %v", sizes, impl.IsEven(s), even)
	}
}

func TestNoScaleIsMoreEven(t *testing.T) {
	for _, sizes := range slices.Concat(manySizes(), smallScales(14), blocks(12, 2), blocks(6, 4), blocks(3, greatestSize), nearlyEven()) {
		if isScale(sizes) {
			checkAgainstEven(t, sizes)
		}
	}
}

func TestEvennessOfManyScales(t *testing.T) {
	for _, sizes := range slices.Concat(manySizes(), smallScales(11), blocks(12, 2), nearlyEven()) {
		checkEvenness(t, sizes)
	}
}

func TestEvennessOfOneAndTwoSizes(t *testing.T) {
	for first := -1; first <= greatestSize+1; first++ {
		checkEvenness(t, []int{first})
		for second := -1; second <= greatestSize+1; second++ {
			checkEvenness(t, []int{first, second})
		}
	}
	for first := 1; first <= greatestSize; first++ {
		for second := 1; second <= greatestSize; second++ {
			checkEven(t, []int{first, second}, first-second >= -1 && first-second <= 1)
			checkUnevenness(t, []int{first, second}, max(first-second, second-first))
		}
	}
}

func TestAsManyNotesAsSteps(t *testing.T) {
	for count := 1; count <= mostSizes; count++ {
		var places []int
		for i := range count {
			places = append(places, i)
		}
		ones := slices.Repeat([]int{1}, count)
		checkPlaces(t, count, count, places...)
		checkEvenScale(t, count, count, ones...)
		checkEven(t, ones, true)
		checkUnevenness(t, ones, 0)
		checkNoPlaces(t, count, count-1)
		checkEvenScale(t, count, count+1, append(slices.Repeat([]int{1}, count-1), 2)...)
	}
}

func TestOneEvenNote(t *testing.T) {
	for size := 1; size <= mostSizesSum; size++ {
		checkPlaces(t, 1, size, 0)
		if size <= greatestSize {
			checkEvenScale(t, 1, size, size)
			checkEven(t, []int{size}, true)
			checkUnevenness(t, []int{size}, 0)
		} else {
			checkEvenScale(t, 1, size)
		}
	}
	checkNoPlaces(t, 1, 0)
	checkNoPlaces(t, 1, mostSizesSum+1)
}

func TestEvenScalesOfEqualDistances(t *testing.T) {
	for _, sizes := range evenSizes() {
		sum := len(sizes) * sizes[0]
		var places []int
		for i := range sizes {
			places = append(places, i*sizes[0])
		}
		checkPlaces(t, len(sizes), sum, places...)
		checkEvenScale(t, len(sizes), sum, sizes...)
		checkEven(t, sizes, true)
		checkUnevenness(t, sizes, 0)
	}
}

func TestGreatestDistance(t *testing.T) {
	checkEvenScale(t, 1, 20, 20)
	checkEvenScale(t, 1, 21)
	checkEvenScale(t, 2, 39, 19, 20)
	checkEvenScale(t, 2, 40, 20, 20)
	checkEvenScale(t, 2, 41)
	checkEvenScale(t, 2, 42)
	checkEvenScale(t, 3, 58, 19, 19, 20)
	checkEvenScale(t, 3, 59, 19, 20, 20)
	checkEvenScale(t, 3, 60, 20, 20, 20)
	checkEvenScale(t, 3, 61)
	checkPlaces(t, 2, 40, 0, 20)
	checkPlaces(t, 2, 41, 0, 20)
	checkPlaces(t, 2, 42, 0, 21)
	checkPlaces(t, 3, 60, 0, 20, 40)
}

func TestTwoSizesThatAreNotEven(t *testing.T) {
	for _, sizes := range [][]int{{1, 3}, {1, 20}, {2, 4, 2, 4}, {9, 9, 4, 9, 9, 9, 4}, {1, 1, 3}, {18, 20, 20}, {1, 1, 1, 1, 1, 1, 1, 1, 1, 1, 1, 3}} {
		checkTwoSizes(t, sizes, true)
		checkEven(t, sizes, false)
		checkEvenness(t, sizes)
		checkAgainstEven(t, sizes)
	}
}

// The sizes differ by 1, but where the same ones stand together, longer spans differ by more: for two sizes, for three or for four.
func TestSizesThatStandTogether(t *testing.T) {
	for _, sizes := range [][]int{{1, 1, 2, 2}, {2, 1, 1, 2}, {1, 1, 2, 2, 2}, {1, 1, 2, 2, 2, 2, 2}, {2, 1, 2, 2, 2, 2, 1}, {1, 2, 1, 2, 1, 2, 2, 1}, {1, 1, 2, 1, 1, 2, 1, 2, 1, 2}, {19, 19, 11, 11}, {14, 14, 15, 15}} {
		checkEven(t, sizes, false)
		checkEvenness(t, sizes)
		checkAgainstEven(t, sizes)
	}
	eachEven(func(count, size int) {
		sizes := evenScaleIn(count, size)
		slices.Sort(sizes)
		great := 0
		for _, distance := range sizes {
			if distance > sizes[0] {
				great++
			}
		}
		checkEvenness(t, sizes)
		if great > 1 && count-great > 1 {
			checkEven(t, sizes, false)
		} else if len(sizes) > 0 {
			checkEven(t, sizes, true)
		}
	})
}

// firstUneven is the least count whose spans differ by more than 1, or 0.
func firstUneven(sizes []int) int {
	for count := 1; count <= len(sizes); count++ {
		if spans := spansIn(sizes, count); spans[len(spans)-1]-spans[0] > 1 {
			return count
		}
	}
	return 0
}

// Up to half of the sizes, each count is the first one that tells some scale from an even one, so that none of them may be left out.
func TestEveryCountDecides(t *testing.T) {
	decides := map[int]bool{}
	for _, sizes := range slices.Concat(blocks(2, 3), blocks(8, 2), blocks(10, 2), blocks(12, 2)) {
		count := firstUneven(sizes)
		decides[count] = true
		checkEven(t, sizes, count == 0)
	}
	for count := range mostSizes/2 + 1 {
		if !decides[count] {
			t.Errorf("there is no scale whose spans of %d sizes decide first", count)
		}
	}
}

func TestMajorScaleIsEven(t *testing.T) {
	major, even := impl.MajorScale(), impl.EvenScale(7, 12)
	for k := range major.Sizes {
		mode := impl.ModeOf(major, k)
		checkEven(t, mode.Sizes, true)
		checkUnevenness(t, mode.Sizes, 6)
		checkAgainstEven(t, mode.Sizes)
	}
	if got := impl.SameMode(major, even); got != 6 {
		t.Errorf("SameMode(%v, %v) = %d; want 6", major, even, got)
	}
}

func TestNoEvenCounts(t *testing.T) {
	for _, count := range noEvenCounts() {
		for size := -2; size <= mostSizesSum+2; size++ {
			checkNoPlaces(t, count, size)
		}
		for _, size := range slices.Concat(extremeInts(), []int{count, -count, count - 1, count + 1, 2 * count}) {
			checkNoPlaces(t, count, size)
		}
	}
}

func TestNoEvenSizes(t *testing.T) {
	for count := 1; count <= mostSizes; count++ {
		for _, size := range noEvenSizes(count) {
			checkNoPlaces(t, count, size)
		}
		for size := -mostSizesSum; size < count; size++ {
			checkNoPlaces(t, count, size)
		}
		for size := mostSizesSum + 1; size <= 300; size++ {
			checkNoPlaces(t, count, size)
		}
	}
}

func TestEvennessOfNoScale(t *testing.T) {
	for _, sizes := range invalidSizes() {
		checkEven(t, sizes, false)
		checkUnevenness(t, sizes, 0)
	}
	for _, sizes := range [][]int{nil, {}, slices.Repeat([]int{1}, 13), slices.Repeat([]int{4}, 13), {0}, {0, 0}, {0, 1}, {21}, {21, 20}, {21, 21}, {-1}, {-1, 0}, {-1, -1}, {math.MaxInt}, {math.MaxInt, math.MaxInt - 1}, {math.MinInt}, {math.MinInt, math.MaxInt}, {15, 15, 15, 16}, {20, 20, 21}, {61}, {5, 5, 5, 5, 5, 5, 5, 5, 5, 5, 5, 6}} {
		checkEven(t, sizes, false)
		checkUnevenness(t, sizes, 0)
	}
}

// The spare capacity holds sizes, so that a program that looks there gives other answers, and one that writes there leaves a trace.
func TestScalesOfEvennessAreKept(t *testing.T) {
	for _, sizes := range slices.Concat(manySizes(), invalidSizes()) {
		memory := withSpare(sizes)
		before := slices.Clone(memory)
		s := impl.Scale{Sizes: memory[:len(sizes)]}
		clipped := impl.Scale{Sizes: slices.Clip(slices.Clone(sizes))}
		if impl.IsEven(s) != impl.IsEven(clipped) || impl.Unevenness(s) != impl.Unevenness(clipped) {
			t.Errorf("the answers for %v depend on the memory behind it", sizes)
		}
		if !slices.Equal(memory, before) {
			t.Errorf("the scale %v and what is behind it became %v", before, memory)
		}
	}
}

func TestNoSizesAreNotEven(t *testing.T) {
	major := impl.MajorScale().Sizes
	for _, sizes := range [][]int{nil, {}, make([]int, 0, 7), major[:0]} {
		if s := (impl.Scale{Sizes: sizes}); impl.IsEven(s) || impl.Unevenness(s) != 0 {
			t.Error("no sizes are even or uneven")
		}
	}
}

// checkNewNumbers gets the same answer twice and writes into the first one and its whole capacity, also by append.
func checkNewNumbers(t *testing.T, want []int, answer func() []int) {
	t.Helper()
	first, second := answer(), answer()
	longer := append(first, 77, 77, 77)
	overwriteInts(first)
	overwriteInts(longer)
	if !slices.Equal(second, want) || !slices.Equal(answer(), want) {
		t.Errorf("a result %v shares memory with another one", want)
	}
}

func TestEvenScalesAreNewMemory(t *testing.T) {
	eachEven(func(count, size int) {
		checkNewNumbers(t, placesIn(count, size), func() []int { return impl.EvenPlaces(count, size) })
		checkNewNumbers(t, evenScaleIn(count, size), func() []int { return impl.EvenScale(count, size).Sizes })
	})
	eachEven(func(count, size int) {
		places, s := impl.EvenPlaces(count, size), impl.EvenScale(count, size)
		overwriteInts(places)
		if !slices.Equal(s.Sizes, evenScaleIn(count, size)) {
			t.Errorf("writing into EvenPlaces(%d, %d) changes the scale to %v", count, size, s)
		}
	})
	for _, size := range []int{6, 61} {
		checkNewNumbers(t, nil, func() []int { return impl.EvenPlaces(7, size) })
		checkNewNumbers(t, nil, func() []int { return impl.EvenScale(7, size).Sizes })
	}
}

// The answers come again in the opposite order, and among ones that are rejected.
func TestEvenScalesKeepNothing(t *testing.T) {
	for range 2 {
		for count := mostSizes + 1; count >= -1; count-- {
			for size := mostSizesSum + 2; size >= -2; size-- {
				checkPlaces(t, count, size, placesIn(count, size)...)
				checkEvenScale(t, count, size, evenScaleIn(count, size)...)
			}
		}
	}
}

// The same memory is asked again with other sizes in it.
func TestEvennessFollowsTheSizes(t *testing.T) {
	memory := make([]int, mostSizes)
	for _, sizes := range manySizes() {
		s := impl.Scale{Sizes: memory[:copy(memory, sizes)]}
		if impl.IsEven(s) != isEvenIn(sizes) || impl.Unevenness(s) != unevennessIn(sizes) {
			t.Errorf("the answers for %v are those of earlier sizes in its memory", sizes)
		}
	}
}
