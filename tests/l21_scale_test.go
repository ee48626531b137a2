package tests

import (
	"math"
	"slices"
	"testing"

	"loop.example/g00989/impl"
)

const (
	mostSizes    = 12
	greatestSize = 20
	mostSizesSum = 60
)

func scaleOf(sizes ...int) impl.Scale { return impl.Scale{Sizes: sizes} }

// isScale takes the sizes away from the greatest sum one after the other, so that no sum overflows.
func isScale(sizes []int) bool {
	if len(sizes) == 0 || len(sizes) > mostSizes {
		return false
	}
	rest := mostSizesSum
	for _, size := range sizes {
		if size < 1 || size > greatestSize {
			return false
		}
		rest -= size
	}
	return rest >= 0
}

// spanIn is what the sizes have together from an index on; it is 0 where the chapter rejects the input.
func spanIn(sizes []int, from, count int) int {
	if !isScale(sizes) || from < 0 || from >= len(sizes) || count < 0 || count > len(sizes) {
		return 0
	}
	return sumFrom(sizes, from, count)
}

// spansIn asks for each number that a span can be whether it is one of them.
func spansIn(sizes []int, count int) []int {
	if !isScale(sizes) || count < 0 || count > len(sizes) {
		return nil
	}
	var spans []int
	for span := 0; span <= mostSizesSum; span++ {
		for from := range sizes {
			if spanIn(sizes, from, count) == span {
				spans = append(spans, span)
				break
			}
		}
	}
	return spans
}

func hasTwoIn(sizes []int) bool {
	for count := 0; count <= len(sizes); count++ {
		if len(spansIn(sizes, count)) > 2 {
			return false
		}
	}
	return isScale(sizes)
}

// compositions are all lists of positive numbers with this sum.
func compositions(sum int) [][]int {
	if sum == 0 {
		return [][]int{nil}
	}
	var lists [][]int
	for first := 1; first <= sum; first++ {
		for _, rest := range compositions(sum - first) {
			lists = append(lists, append([]int{first}, rest...))
		}
	}
	return lists
}

// evenSizes are the scales whose sizes are all the same.
func evenSizes() [][]int {
	var lists [][]int
	for count := 1; count <= mostSizes; count++ {
		for size := 1; size <= greatestSize && size*count <= mostSizesSum; size++ {
			lists = append(lists, slices.Repeat([]int{size}, count))
		}
	}
	return lists
}

// mixedSizes are scales of each length, with sizes in no order.
func mixedSizes() [][]int {
	var lists [][]int
	for _, most := range []int{2, 3, 5, 9, greatestSize} {
		numbers := mixedFines(most, 1500)
		for count := 1; len(numbers) >= count; count = count%mostSizes + 1 {
			if sizes := numbers[:count]; isScale(sizes) {
				lists = append(lists, slices.Clone(sizes))
			}
			numbers = numbers[count:]
		}
	}
	return lists
}

// fullSizes have a sum near the greatest one; it is spread evenly, or the first sizes have as much of it as they can.
func fullSizes(sum int) [][]int {
	var lists [][]int
	for count := 4; count <= mostSizes; count++ {
		sizes := slices.Repeat([]int{sum / count}, count)
		for i := range sum % count {
			sizes[i]++
		}
		lists = append(lists, sizes)
		steep := slices.Repeat([]int{1}, count)
		for i, rest := 0, sum-count; i < count && rest > 0; i++ {
			more := min(rest, greatestSize-1)
			steep[i] += more
			rest -= more
		}
		lists = append(lists, steep)
	}
	return lists
}

func knownSizes() [][]int {
	return [][]int{
		{2, 2, 1, 2, 2, 2, 1}, {2, 1, 2, 2, 1, 2, 2}, {2, 1, 2, 2, 1, 3, 1}, {2, 1, 2, 2, 2, 2, 1}, {2, 2, 3, 2, 3}, {3, 2, 2, 3, 2}, {1, 2, 1, 2, 1, 2, 1, 2},
		{3, 3, 3, 3, 2, 3, 2}, {5, 5, 3, 5, 5, 5, 3}, {9, 9, 4, 9, 9, 9, 4}, {1}, {20}, {12}, {1, 20}, {20, 1}, {20, 20}, {1, 1}, {20, 20, 20}, {20, 19, 20}, {1, 2, 3}, {3, 1, 2}, {1, 1, 2, 2}, {1, 2, 1, 2},
	}
}

func manySizes() [][]int {
	return slices.Concat(knownSizes(), evenSizes(), mixedSizes(), fullSizes(mostSizesSum), fullSizes(mostSizesSum-1), compositions(7), compositions(10))
}

// noSizes are numbers that no scale has among its sizes; some of them would be sizes if they lost their upper bits.
func noSizes() []int {
	return append(extremeInts(), 0, -1, -2, -7, -greatestSize, greatestSize+1, greatestSize+2, 2*greatestSize, mostSizesSum, mostSizesSum+1, 256+2, 1<<16+2, 1<<32+2, -1<<32+2, math.MinInt+2)
}

// invalidSizes have too few or too many sizes, one that is out of range, or a sum that is too great; some of the sums wrap around to a possible one.
func invalidSizes() [][]int {
	lists := [][]int{nil, {}, make([]int, 0, 5), make([]int, 1), make([]int, 7), make([]int, 12), make([]int, 13)}
	for _, count := range []int{13, 14, 24, 60, 61, 256 + 7, 1<<16 + 7} {
		lists = append(lists, slices.Repeat([]int{1}, count))
	}
	for _, sizes := range [][]int{{2}, {2, 3}, {2, 2, 1, 2, 2, 2, 1}, slices.Repeat([]int{1}, mostSizes)} {
		for i := range sizes {
			for _, size := range noSizes() {
				changed := slices.Clone(sizes)
				changed[i] = size
				lists = append(lists, changed)
			}
		}
	}
	for count := 4; count <= mostSizes; count++ {
		lists = append(lists, slices.Repeat([]int{greatestSize}, count))
	}
	lists = slices.Concat(lists, fullSizes(mostSizesSum+1), fullSizes(mostSizesSum+2))
	return append(lists, [][]int{
		{20, 20, 20, 1}, {1, 20, 20, 20}, {20, 20, 1, 20}, {20, 20, 21}, {21, 20, 19}, {21, 20, 20}, {61}, {60}, {30, 30}, {40, 20, 1},
		{math.MaxInt, math.MaxInt}, {math.MaxInt, math.MinInt}, {math.MinInt, math.MaxInt}, {math.MinInt, math.MinInt}, {math.MaxInt, math.MinInt, 13}, {math.MaxInt, math.MaxInt, 14},
		{math.MaxInt, math.MaxInt, 2, 2, 2}, {math.MinInt, math.MinInt, 5}, {1 << 62, 1 << 62, 1 << 62, 1 << 62, 1}, {2, -1, 2}, {21, -1}, {22, -2, 1}, {5, -3, 10}, {0, 2}, {2, 0, 2}, {2, 2, 0}, {-2, -2},
	}...)
}

func noIndexes(count int) []int {
	return append(extremeInts(), -1, -2, -count, -count-1, count, count+1, 2*count, math.MaxInt-count, math.MinInt+count, 256, 1<<32+1, -1<<32+1)
}

func noCounts(count int) []int {
	return append(extremeInts(), -1, -2, -count, -count-1, count+1, count+2, 2*count+1, math.MaxInt-count, math.MinInt+count, 256, 1<<32+1, -1<<32+1)
}

func checkScaleOk(t *testing.T, sizes []int, want bool) {
	t.Helper()
	if got := impl.ScaleOk(scaleOf(sizes...)); got != want {
		t.Errorf("ScaleOk(%v) = %v", sizes, got)
	}
}

func checkScaleSum(t *testing.T, sizes []int, want int) {
	t.Helper()
	if got := impl.ScaleSum(scaleOf(sizes...)); got != want {
		t.Errorf("ScaleSum(%v) = %d; want %d", sizes, got, want)
	}
}

func checkSpan(t *testing.T, sizes []int, from, count, want int) {
	t.Helper()
	if got := impl.SpanAt(scaleOf(sizes...), from, count); got != want {
		t.Errorf("SpanAt(%v, %d, %d) = %d; want %d", sizes, from, count, got, want)
	}
}

func checkSpans(t *testing.T, sizes []int, count int, want ...int) {
	t.Helper()
	if got := impl.SpansOf(scaleOf(sizes...), count); !slices.Equal(got, want) {
		t.Errorf("SpansOf(%v, %d) = %v; want %v", sizes, count, got, want)
	}
}

func checkTwoSizes(t *testing.T, sizes []int, want bool) {
	t.Helper()
	if got := impl.HasTwoSizes(scaleOf(sizes...)); got != want {
		t.Errorf("HasTwoSizes(%v) = %v", sizes, got)
	}
}

// checkScale holds the results for sizes, which may be no scale, against the chapter's words.
func checkScale(t *testing.T, sizes []int) {
	t.Helper()
	checkScaleOk(t, sizes, isScale(sizes))
	checkTwoSizes(t, sizes, hasTwoIn(sizes))
	if isScale(sizes) {
		checkScaleSum(t, sizes, sumFrom(sizes, 0, len(sizes)))
	} else {
		checkScaleSum(t, sizes, 0)
	}
	for count := -1; count <= mostSizes+1; count++ {
		checkSpans(t, sizes, count, spansIn(sizes, count)...)
		for from := -1; from <= mostSizes; from++ {
			checkSpan(t, sizes, from, count, spanIn(sizes, from, count))
		}
	}
}

// checkNoScale asks every function; the sizes are no scale.
func checkNoScale(t *testing.T, sizes []int) {
	t.Helper()
	checkScaleOk(t, sizes, false)
	checkScaleSum(t, sizes, 0)
	checkTwoSizes(t, sizes, false)
	for _, number := range []int{math.MinInt, -1, 0, 1, 2, 6, 7, 11, 12, 13, 14, math.MaxInt, len(sizes), len(sizes) - 1} {
		checkSpans(t, sizes, number)
		checkSpan(t, sizes, 0, number, 0)
		checkSpan(t, sizes, number, 1, 0)
		checkSpan(t, sizes, number, 0, 0)
		checkSpan(t, sizes, number, number, 0)
	}
}

func TestScaleLimit(t *testing.T) {
	if impl.MaxScaleSteps != mostSizes {
		t.Error("MaxScaleSteps is", impl.MaxScaleSteps)
	}
}

func TestScaleOk(t *testing.T) {
	for _, sizes := range manySizes() {
		checkScaleOk(t, sizes, true)
	}
	for _, sizes := range invalidSizes() {
		checkScaleOk(t, sizes, false)
	}
}

func TestScaleOkWithEverySize(t *testing.T) {
	for count := 1; count <= mostSizes; count++ {
		for at := range count {
			for size := -3; size <= mostSizesSum+3; size++ {
				sizes := slices.Repeat([]int{1}, count)
				sizes[at] = size
				checkScaleOk(t, sizes, size >= 1 && size <= greatestSize)
			}
		}
	}
}

func TestScaleOkWithEverySum(t *testing.T) {
	for sum := 41; sum <= 80; sum++ {
		for _, sizes := range orders([]int{20, 20, sum - 41, 1}) {
			checkScaleOk(t, sizes, sum > 41 && sum <= mostSizesSum)
		}
	}
	for count := 1; count <= mostSizes+2; count++ {
		for size := 1; size <= greatestSize; size++ {
			checkScaleOk(t, slices.Repeat([]int{size}, count), count <= mostSizes && size*count <= mostSizesSum)
		}
	}
	checkScaleOk(t, []int{20, 20, 20}, true)
	checkScaleOk(t, []int{20, 20, 20, 1}, false)
}

func TestScaleSum(t *testing.T) {
	checkScaleSum(t, []int{2, 2, 1, 2, 2, 2, 1}, 12)
	checkScaleSum(t, []int{9, 9, 4, 9, 9, 9, 4}, 53)
	checkScaleSum(t, []int{1}, 1)
	checkScaleSum(t, []int{20}, 20)
	checkScaleSum(t, []int{20, 20, 20}, 60)
	checkScaleSum(t, []int{5, 5, 5, 5, 5, 5, 5, 5, 5, 5, 5, 5}, 60)
	checkScaleSum(t, []int{20, 20, 20, 1}, 0)
	checkScaleSum(t, nil, 0)
}

func TestSpanAt(t *testing.T) {
	major := []int{2, 2, 1, 2, 2, 2, 1}
	for from, want := range []int{4, 3, 3, 4, 4, 3, 3} {
		checkSpan(t, major, from, 2, want)
	}
	for from, want := range []int{7, 7, 7, 7, 7, 7, 6} {
		checkSpan(t, major, from, 4, want)
	}
	checkSpan(t, []int{1, 2, 4, 8, 16}, 3, 2, 24)
	checkSpan(t, []int{1, 2, 4, 8, 16}, 3, 3, 25)
	checkSpan(t, []int{1, 2, 4, 8, 16}, 4, 1, 16)
	checkSpan(t, []int{1, 2, 4, 8, 16}, 4, 4, 23)
	checkSpan(t, []int{1, 2, 4, 8, 16}, 4, 5, 31)
	checkSpan(t, []int{1, 2, 4, 8, 16}, 5, 1, 0)
	checkSpan(t, []int{1, 2, 4, 8, 16}, 0, 6, 0)
	checkSpan(t, []int{1, 2, 4, 8, 16}, -1, 1, 0)
	checkSpan(t, []int{1, 2, 4, 8, 16}, 0, -1, 0)
}

func TestSpansOf(t *testing.T) {
	major := []int{2, 2, 1, 2, 2, 2, 1}
	for count, want := range [][]int{{0}, {1, 2}, {3, 4}, {5, 6}, {6, 7}, {8, 9}, {10, 11}, {12}} {
		checkSpans(t, major, count, want...)
	}
	harmonic := []int{2, 1, 2, 2, 1, 3, 1}
	for count, want := range [][]int{{0}, {1, 2, 3}, {3, 4}, {4, 5, 6}, {6, 7, 8}, {8, 9}, {9, 10, 11}, {12}} {
		checkSpans(t, harmonic, count, want...)
	}
	checkSpans(t, []int{20, 1, 10}, 1, 1, 10, 20)
	checkSpans(t, []int{20, 1, 10}, 2, 11, 21, 30)
	checkSpans(t, []int{4, 4, 4}, 2, 8)
	checkSpans(t, []int{12, 11, 10, 9, 8, 7, 1, 2}, 1, 1, 2, 7, 8, 9, 10, 11, 12)
	checkSpans(t, []int{4, 4, 4}, 4)
	checkSpans(t, []int{4, 4, 4}, -1)
}

func TestHasTwoSizes(t *testing.T) {
	for _, sizes := range [][]int{{2, 2, 1, 2, 2, 2, 1}, {2, 2, 3, 2, 3}, {1, 2, 1, 2, 1, 2, 1, 2}, {3, 3, 2, 3, 3, 3, 2}, {9, 9, 4, 9, 9, 9, 4}, {7}, {1, 20}, {1, 1, 20}, {3, 3, 3}} {
		checkTwoSizes(t, sizes, true)
	}
	for _, sizes := range [][]int{{1, 2, 3}, {2, 1, 2, 2, 1, 3, 1}, {1, 2, 3, 1, 2, 3}, {1, 1, 1, 2, 3}, {3, 3, 3, 3, 2, 3, 2}} {
		checkTwoSizes(t, sizes, false)
	}
}

// There are two sizes, but three different spans of two of them; or of two and of three; or only of three and of four; or of two, of four and of six.
func TestTwoSizesForEachCount(t *testing.T) {
	for _, sizes := range [][]int{{1, 1, 2, 2}, {1, 1, 2, 2, 2}, {2, 1, 2, 2, 2, 2, 1}, {1, 2, 1, 2, 1, 2, 2, 1}} {
		if got := impl.SpansOf(scaleOf(sizes...), 1); len(got) != 2 {
			t.Errorf("SpansOf(%v, 1) = %v", sizes, got)
		}
		checkTwoSizes(t, sizes, false)
	}
}

func TestMajorScale(t *testing.T) {
	major := impl.MajorScale()
	if !slices.Equal(major.Sizes, []int{2, 2, 1, 2, 2, 2, 1}) {
		t.Error("MajorScale() =", major)
	}
	if !impl.ScaleOk(major) || impl.ScaleSum(major) != 12 || !impl.HasTwoSizes(major) {
		t.Error("the major scale is no scale with two sizes and twelve steps")
	}
	checkScale(t, major.Sizes)
}

func TestManyScales(t *testing.T) {
	for _, sizes := range manySizes() {
		checkScale(t, sizes)
	}
}

func TestScalesOfOneAndTwoSizes(t *testing.T) {
	for first := -1; first <= greatestSize+1; first++ {
		checkScale(t, []int{first})
		for second := -1; second <= greatestSize+1; second++ {
			checkScale(t, []int{first, second})
		}
	}
}

func TestTwoSizesOfAllSmallScales(t *testing.T) {
	for sum := 1; sum <= 12; sum++ {
		for _, sizes := range compositions(sum) {
			checkTwoSizes(t, sizes, hasTwoIn(sizes))
		}
	}
}

func TestSpansCanBeJoined(t *testing.T) {
	for _, sizes := range manySizes() {
		s := scaleOf(sizes...)
		for from := range sizes {
			for a := 0; a <= len(sizes); a++ {
				for b := 0; a+b <= len(sizes); b++ {
					checkSpan(t, sizes, from, a+b, impl.SpanAt(s, from, a)+impl.SpanAt(s, (from+a)%len(sizes), b))
				}
			}
		}
	}
}

func TestWholeSpanIsTheSum(t *testing.T) {
	for _, sizes := range manySizes() {
		sum := impl.ScaleSum(scaleOf(sizes...))
		for from, size := range sizes {
			checkSpan(t, sizes, from, len(sizes), sum)
			checkSpan(t, sizes, from, 1, size)
			checkSpan(t, sizes, from, 0, 0)
		}
		checkSpans(t, sizes, len(sizes), sum)
		checkSpans(t, sizes, 0, 0)
	}
}

// Whatever is in SpansOf is heard from somewhere, and whatever is heard is in it; each number is greater than the one before it.
func TestSpansOfAreTheSpans(t *testing.T) {
	for _, sizes := range manySizes() {
		s := scaleOf(sizes...)
		for count := 0; count <= len(sizes); count++ {
			spans := impl.SpansOf(s, count)
			found := make([]bool, len(spans))
			for from := range sizes {
				at, ok := slices.BinarySearch(spans, impl.SpanAt(s, from, count))
				if !ok {
					t.Fatalf("SpansOf(%v, %d) = %v lacks the span at %d", sizes, count, spans, from)
				}
				found[at] = true
			}
			for i, span := range spans {
				if !found[i] || i > 0 && spans[i-1] >= span {
					t.Errorf("SpansOf(%v, %d) = %v", sizes, count, spans)
				}
			}
		}
	}
}

func TestScaleOfOneSize(t *testing.T) {
	for size := 1; size <= greatestSize; size++ {
		sizes := []int{size}
		checkScaleSum(t, sizes, size)
		checkSpan(t, sizes, 0, 0, 0)
		checkSpan(t, sizes, 0, 1, size)
		checkSpan(t, sizes, 0, 2, 0)
		checkSpan(t, sizes, 1, 0, 0)
		checkSpan(t, sizes, 1, 1, 0)
		checkSpans(t, sizes, 0, 0)
		checkSpans(t, sizes, 1, size)
		checkSpans(t, sizes, 2)
		checkTwoSizes(t, sizes, true)
	}
}

func TestScaleOfTwelveSizes(t *testing.T) {
	sizes := []int{1, 2, 3, 4, 5, 6, 7, 8, 9, 10, 1, 4}
	checkScaleSum(t, sizes, 60)
	checkSpan(t, sizes, 11, 1, 4)
	checkSpan(t, sizes, 11, 2, 5)
	checkSpan(t, sizes, 11, 11, 59)
	checkSpan(t, sizes, 11, 12, 60)
	checkSpan(t, sizes, 11, 13, 0)
	checkSpan(t, sizes, 12, 1, 0)
	checkSpans(t, sizes, 1, 1, 2, 3, 4, 5, 6, 7, 8, 9, 10)
	checkTwoSizes(t, sizes, false)
	checkScale(t, sizes)
}

func TestScalesOfEqualSizes(t *testing.T) {
	for _, sizes := range evenSizes() {
		checkTwoSizes(t, sizes, true)
		for count := 0; count <= len(sizes); count++ {
			checkSpans(t, sizes, count, count*sizes[0])
		}
	}
}

func TestInvalidScales(t *testing.T) {
	for _, sizes := range invalidSizes() {
		checkNoScale(t, sizes)
	}
}

func TestIndexesOutOfRange(t *testing.T) {
	for _, sizes := range slices.Concat(knownSizes(), evenSizes()) {
		for _, from := range noIndexes(len(sizes)) {
			for count := -1; count <= len(sizes)+1; count++ {
				checkSpan(t, sizes, from, count, 0)
			}
		}
	}
}

func TestCountsOutOfRange(t *testing.T) {
	for _, sizes := range slices.Concat(knownSizes(), evenSizes()) {
		for _, count := range noCounts(len(sizes)) {
			checkSpans(t, sizes, count)
			for from := -1; from <= len(sizes); from++ {
				checkSpan(t, sizes, from, count, 0)
			}
			for _, from := range noIndexes(len(sizes)) {
				checkSpan(t, sizes, from, count, 0)
			}
		}
	}
}

// scaleAnswers is what all functions say about a scale.
type scaleAnswers struct {
	Ok, HasTwo bool
	Sum        int
	Spans      [][]int
	SpanAts    []int
}

func askScale(s impl.Scale) scaleAnswers {
	answers := scaleAnswers{Ok: impl.ScaleOk(s), HasTwo: impl.HasTwoSizes(s), Sum: impl.ScaleSum(s)}
	most := min(len(s.Sizes), mostSizes)
	for count := -1; count <= most+1; count++ {
		answers.Spans = append(answers.Spans, impl.SpansOf(s, count))
		for from := -1; from <= most; from++ {
			answers.SpanAts = append(answers.SpanAts, impl.SpanAt(s, from, count))
		}
	}
	return answers
}

func (a scaleAnswers) equal(b scaleAnswers) bool {
	return a.Ok == b.Ok && a.HasTwo == b.HasTwo && a.Sum == b.Sum && slices.EqualFunc(a.Spans, b.Spans, slices.Equal[[]int]) && slices.Equal(a.SpanAts, b.SpanAts)
}

func overwriteInts(numbers []int) {
	memory := numbers[:cap(numbers)]
	for i := range memory {
		memory[i] = 77
	}
}

// The spare capacity holds sizes, so that a program that looks there gives other answers.
func TestScalesAreKept(t *testing.T) {
	for _, sizes := range slices.Concat(manySizes(), invalidSizes()) {
		memory := slices.Concat(sizes, []int{5, 3, 1})
		before := slices.Clone(memory)
		got := askScale(impl.Scale{Sizes: memory[:len(sizes)]})
		if !slices.Equal(memory, before) {
			t.Errorf("the scale %v and what is behind it became %v", before, memory)
		}
		if !got.equal(askScale(impl.Scale{Sizes: slices.Clip(slices.Clone(sizes))})) {
			t.Errorf("the answers for %v depend on the memory behind it", sizes)
		}
	}
}

func TestNoSizesAreTheSame(t *testing.T) {
	without := askScale(impl.Scale{})
	major := impl.MajorScale().Sizes
	for _, sizes := range [][]int{{}, make([]int, 0, 7), major[:0]} {
		if !askScale(impl.Scale{Sizes: sizes}).equal(without) {
			t.Error("no sizes and empty ones get different answers")
		}
	}
}

func TestSpansAreNewMemory(t *testing.T) {
	for _, sizes := range slices.Concat(knownSizes(), evenSizes()) {
		s := scaleOf(slices.Clone(sizes)...)
		for count := 0; count <= len(sizes); count++ {
			first := impl.SpansOf(s, count)
			second := impl.SpansOf(s, count)
			overwriteInts(first)
			if !slices.Equal(s.Sizes, sizes) || !slices.Equal(second, spansIn(sizes, count)) {
				t.Errorf("SpansOf(%v, %d) shares memory with the scale or another result", sizes, count)
			}
			checkSpans(t, sizes, count, spansIn(sizes, count)...)
			overwriteInts(second)
		}
		checkScale(t, s.Sizes)
	}
}

func TestMajorScaleIsNewMemory(t *testing.T) {
	first, second := impl.MajorScale(), impl.MajorScale()
	overwriteInts(first.Sizes)
	for _, s := range []impl.Scale{second, impl.MajorScale()} {
		if !slices.Equal(s.Sizes, []int{2, 2, 1, 2, 2, 2, 1}) {
			t.Error("after writing into the major scale, another one is", s)
		}
	}
}

func TestScalesKeepNothing(t *testing.T) {
	lists := slices.Concat(knownSizes(), evenSizes(), invalidSizes()[:60])
	var answers []scaleAnswers
	for _, sizes := range lists {
		answers = append(answers, askScale(scaleOf(sizes...)))
	}
	for range 2 {
		for i := len(lists) - 1; i >= 0; i-- {
			if !askScale(scaleOf(lists[i]...)).equal(answers[i]) {
				t.Errorf("later, the answers for %v are others", lists[i])
			}
		}
	}
}

// The same memory is asked again with other sizes in it.
func TestScalesFollowTheirSizes(t *testing.T) {
	memory := make([]int, mostSizes)
	for _, sizes := range manySizes() {
		s := impl.Scale{Sizes: memory[:copy(memory, sizes)]}
		if got, want := impl.ScaleSum(s), sumFrom(sizes, 0, len(sizes)); got != want {
			t.Errorf("ScaleSum(%v) = %d; want %d", s, got, want)
		}
		if got, want := impl.HasTwoSizes(s), hasTwoIn(sizes); got != want {
			t.Errorf("HasTwoSizes(%v) = %v", s, got)
		}
	}
}
