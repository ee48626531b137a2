package tests

import (
	"math"
	"slices"
	"testing"

	"loop.example/g00989/impl"
)

// modeIn takes the sizes from an index on and then those before it; it is nil where the chapter rejects the input.
func modeIn(sizes []int, k int) []int {
	if !isScale(sizes) || k < 0 || k >= len(sizes) {
		return nil
	}
	var mode []int
	for i := k; i < len(sizes); i++ {
		mode = append(mode, sizes[i])
	}
	for i := 0; i < k; i++ {
		mode = append(mode, sizes[i])
	}
	return mode
}

func countModesIn(sizes []int) int {
	different := map[[mostSizes]int]bool{}
	for k := range sizes {
		if isScale(sizes) {
			different[[mostSizes]int(append(modeIn(sizes, k), make([]int, mostSizes-len(sizes))...))] = true
		}
	}
	return len(different)
}

// sameModeIn goes down to index 0, so that the least index is found last.
func sameModeIn(a, b []int) int {
	found := -1
	for k := len(a) - 1; k >= 0; k-- {
		if isScale(a) && slices.Equal(modeIn(a, k), b) {
			found = k
		}
	}
	return found
}

// exceeds tells of two lists of one length whether the first one is greater where they differ first.
func exceeds(a, b []int) bool {
	for i, size := range a {
		if size != b[i] {
			return size > b[i]
		}
	}
	return false
}

func isExceeded(sizes []int, k int) bool {
	for other := range sizes {
		if exceeds(modeIn(sizes, other), modeIn(sizes, k)) {
			return true
		}
	}
	return false
}

func brightestIn(sizes []int) int {
	if !isScale(sizes) {
		return -1
	}
	for k := range sizes {
		if !isExceeded(sizes, k) {
			return k
		}
	}
	return -1
}

func reverseIn(sizes []int) []int {
	if !isScale(sizes) {
		return nil
	}
	var reverse []int
	for i := len(sizes) - 1; i >= 0; i-- {
		reverse = append(reverse, sizes[i])
	}
	return reverse
}

func isMirrorIn(sizes []int) bool { return sameModeIn(reverseIn(sizes), sizes) != -1 }

// blocks are all lists of so many numbers from 1 to a greatest one.
func blocks(count, most int) [][]int {
	if count == 0 {
		return [][]int{nil}
	}
	var lists [][]int
	for first := 1; first <= most; first++ {
		for _, rest := range blocks(count-1, most) {
			lists = append(lists, append([]int{first}, rest...))
		}
	}
	return lists
}

func checkMode(t *testing.T, sizes []int, k int, want ...int) {
	t.Helper()
	if got := impl.ModeOf(scaleOf(sizes...), k); !slices.Equal(got.Sizes, want) {
		t.Errorf("ModeOf(%v, %d) = %v; want %v", sizes, k, got, want)
	}
}

func checkCountModes(t *testing.T, sizes []int, want int) {
	t.Helper()
	if got := impl.CountModes(scaleOf(sizes...)); got != want {
		t.Errorf("CountModes(%v) = %d; want %d", sizes, got, want)
	}
}

func checkSameMode(t *testing.T, a, b []int, want int) {
	t.Helper()
	if got := impl.SameMode(scaleOf(a...), scaleOf(b...)); got != want {
		t.Errorf("SameMode(%v, %v) = %d; want %d", a, b, got, want)
	}
}

func checkBrightest(t *testing.T, sizes []int, want int) {
	t.Helper()
	if got := impl.BrightestMode(scaleOf(sizes...)); got != want {
		t.Errorf("BrightestMode(%v) = %d; want %d", sizes, got, want)
	}
}

func checkReverse(t *testing.T, sizes []int, want ...int) {
	t.Helper()
	if got := impl.ReverseScale(scaleOf(sizes...)); !slices.Equal(got.Sizes, want) {
		t.Errorf("ReverseScale(%v) = %v; want %v", sizes, got, want)
	}
}

func checkMirror(t *testing.T, sizes []int, want bool) {
	t.Helper()
	if got := impl.IsMirror(scaleOf(sizes...)); got != want {
		t.Errorf("IsMirror(%v) = %v", sizes, got)
	}
}

// checkModes holds the results for sizes, which may be no scale, against the chapter's words.
func checkModes(t *testing.T, sizes []int) {
	t.Helper()
	checkCountModes(t, sizes, countModesIn(sizes))
	checkBrightest(t, sizes, brightestIn(sizes))
	checkReverse(t, sizes, reverseIn(sizes)...)
	checkMirror(t, sizes, isMirrorIn(sizes))
	for k := -1; k <= len(sizes); k++ {
		mode := modeIn(sizes, k)
		checkMode(t, sizes, k, mode...)
		checkSameMode(t, sizes, mode, sameModeIn(sizes, mode))
	}
}

// checkNoModes asks every function; the sizes are no scale.
func checkNoModes(t *testing.T, sizes []int) {
	t.Helper()
	checkCountModes(t, sizes, 0)
	checkBrightest(t, sizes, -1)
	checkReverse(t, sizes)
	checkMirror(t, sizes, false)
	for _, k := range []int{math.MinInt, -1, 0, 1, 2, 6, 7, 11, 12, 13, 14, math.MaxInt, len(sizes), len(sizes) - 1} {
		checkMode(t, sizes, k)
	}
	reverse := slices.Clone(sizes)
	slices.Reverse(reverse)
	for _, other := range [][]int{sizes, reverse, nil, {}, {0}, {1}, {61}, {2, 2, 1, 2, 2, 2, 1}, slices.Repeat([]int{5}, mostSizes)} {
		checkSameMode(t, sizes, other, -1)
		checkSameMode(t, other, sizes, -1)
	}
}

func TestModeOf(t *testing.T) {
	major := []int{2, 2, 1, 2, 2, 2, 1}
	checkMode(t, major, 0, 2, 2, 1, 2, 2, 2, 1)
	checkMode(t, major, 1, 2, 1, 2, 2, 2, 1, 2)
	checkMode(t, major, 2, 1, 2, 2, 2, 1, 2, 2)
	checkMode(t, major, 3, 2, 2, 2, 1, 2, 2, 1)
	checkMode(t, major, 4, 2, 2, 1, 2, 2, 1, 2)
	checkMode(t, major, 5, 2, 1, 2, 2, 1, 2, 2)
	checkMode(t, major, 6, 1, 2, 2, 1, 2, 2, 2)
	checkMode(t, major, 7)
	checkMode(t, major, -1)
	checkMode(t, []int{1, 2, 4, 8, 16}, 0, 1, 2, 4, 8, 16)
	checkMode(t, []int{1, 2, 4, 8, 16}, 4, 16, 1, 2, 4, 8)
	checkMode(t, []int{1, 20}, 1, 20, 1)
}

func TestCountModes(t *testing.T) {
	checkCountModes(t, []int{2, 2, 1, 2, 2, 2, 1}, 7)
	checkCountModes(t, []int{1, 2, 1, 2, 1, 2, 1, 2}, 2)
	checkCountModes(t, []int{2, 2, 2, 2, 2, 2}, 1)
	checkCountModes(t, []int{1, 3, 1, 3, 1, 3}, 2)
	checkCountModes(t, []int{1, 1, 4, 1, 1, 4}, 3)
	checkCountModes(t, []int{1, 3, 1, 3, 1}, 5)
	checkCountModes(t, []int{1, 3, 1, 3, 1, 1}, 6)
	checkCountModes(t, []int{1, 2, 2, 1}, 4)
	checkCountModes(t, []int{2, 3}, 2)
	checkCountModes(t, []int{2, 2}, 1)
	checkCountModes(t, []int{5}, 1)
	checkCountModes(t, nil, 0)
}

func TestSameMode(t *testing.T) {
	major := []int{2, 2, 1, 2, 2, 2, 1}
	checkSameMode(t, major, major, 0)
	checkSameMode(t, major, []int{2, 1, 2, 2, 2, 1, 2}, 1)
	checkSameMode(t, []int{2, 1, 2, 2, 2, 1, 2}, major, 6)
	checkSameMode(t, major, []int{2, 1, 2, 2, 1, 2, 2}, 5)
	checkSameMode(t, []int{2, 1, 2, 2, 1, 2, 2}, major, 2)
	checkSameMode(t, major, []int{1, 2, 2, 1, 2, 2, 2}, 6)
	checkSameMode(t, major, []int{2, 1, 2, 2, 1, 3, 1}, -1)
	checkSameMode(t, major, []int{2, 1, 2, 2, 2, 2, 1}, -1)
	checkSameMode(t, []int{1, 2, 1, 2, 1, 2}, []int{2, 1, 2, 1, 2, 1}, 1)
	checkSameMode(t, []int{1, 2, 1, 2, 1, 2}, []int{1, 2, 1, 2, 1, 2}, 0)
}

func TestBrightestMode(t *testing.T) {
	checkBrightest(t, []int{2, 2, 1, 2, 2, 2, 1}, 3)
	checkBrightest(t, []int{2, 1, 2, 2, 1, 2, 2}, 5)
	checkBrightest(t, []int{1, 2, 1, 2, 1, 2, 1, 2}, 1)
	checkBrightest(t, []int{2, 1, 2, 1, 2, 1, 2, 1}, 0)
	checkBrightest(t, []int{3, 1, 3, 2}, 2)
	checkBrightest(t, []int{3, 2, 3, 1}, 0)
	checkBrightest(t, []int{9, 10}, 1)
	checkBrightest(t, []int{10, 9}, 0)
	checkBrightest(t, []int{1, 20, 2}, 1)
	checkBrightest(t, []int{3, 1, 1, 3, 1, 2}, 3)
	checkBrightest(t, []int{1, 1, 1, 1, 1, 1, 1, 1, 1, 1, 1, 2}, 11)
}

func TestReverseScale(t *testing.T) {
	checkReverse(t, []int{2, 2, 1, 2, 2, 2, 1}, 1, 2, 2, 2, 1, 2, 2)
	checkReverse(t, []int{1, 2, 3}, 3, 2, 1)
	checkReverse(t, []int{1, 20}, 20, 1)
	checkReverse(t, []int{7}, 7)
	checkReverse(t, []int{1, 2, 3, 4, 5, 6, 7, 8, 9, 10, 1, 4}, 4, 1, 10, 9, 8, 7, 6, 5, 4, 3, 2, 1)
	checkReverse(t, nil)
}

func TestIsMirror(t *testing.T) {
	for _, sizes := range [][]int{{2, 2, 1, 2, 2, 2, 1}, {2, 2, 3, 2, 3}, {1, 2, 1, 2, 1, 2, 1, 2}, {1, 2, 2, 1}, {1, 1, 2}, {1, 20}, {3}, {1, 2, 3, 2}} {
		checkMirror(t, sizes, true)
	}
	for _, sizes := range [][]int{{1, 2, 3}, {3, 2, 1}, {2, 1, 2, 2, 1, 3, 1}, {1, 1, 2, 3}, {1, 2, 3, 1, 2, 3}, {1, 1, 2, 1, 2, 2}} {
		checkMirror(t, sizes, false)
	}
}

func TestModesOfManyScales(t *testing.T) {
	for _, sizes := range manySizes() {
		checkModes(t, sizes)
	}
}

func TestModesOfAllSmallScales(t *testing.T) {
	for sum := 1; sum <= 11; sum++ {
		for _, sizes := range compositions(sum) {
			checkModes(t, sizes)
		}
	}
}

// There are twelve sizes, each of them 1 or 2, in every possible order.
func TestModesOfAllTwelves(t *testing.T) {
	for _, sizes := range blocks(mostSizes, 2) {
		checkCountModes(t, sizes, countModesIn(sizes))
		checkBrightest(t, sizes, brightestIn(sizes))
		checkMirror(t, sizes, isMirrorIn(sizes))
	}
}

func TestNumberOfModesDividesNumberOfNotes(t *testing.T) {
	for _, sizes := range slices.Concat(manySizes(), blocks(8, 2), blocks(9, 2), blocks(10, 2), blocks(6, 3)) {
		if count := impl.CountModes(scaleOf(sizes...)); count < 1 || len(sizes)%count != 0 {
			t.Errorf("CountModes(%v) = %d; it does not divide %d", sizes, count, len(sizes))
		}
	}
}

// A mode of a mode is a mode, all modes have equally many modes of their own, and each leads to the same brightest one.
func TestModesOfModes(t *testing.T) {
	for _, sizes := range manySizes() {
		s := scaleOf(sizes...)
		count, brightest := impl.CountModes(s), impl.ModeOf(s, impl.BrightestMode(s))
		mirror := impl.IsMirror(s)
		for k := range sizes {
			mode := impl.ModeOf(s, k)
			checkCountModes(t, mode.Sizes, count)
			checkMirror(t, mode.Sizes, mirror)
			checkMode(t, mode.Sizes, impl.BrightestMode(mode), brightest.Sizes...)
			checkMode(t, mode.Sizes, (len(sizes)-k)%len(sizes), sizes...)
			checkScaleSum(t, mode.Sizes, impl.ScaleSum(s))
		}
	}
}

func TestReverseOfTheReverse(t *testing.T) {
	for _, sizes := range manySizes() {
		reverse := impl.ReverseScale(scaleOf(sizes...))
		checkReverse(t, reverse.Sizes, sizes...)
		checkMirror(t, reverse.Sizes, isMirrorIn(sizes))
		checkMirror(t, sizes, impl.SameMode(reverse, scaleOf(sizes...)) != -1)
	}
}

func TestSameModeOfAllSmallScales(t *testing.T) {
	var lists [][]int
	for sum := 1; sum <= 6; sum++ {
		lists = append(lists, compositions(sum)...)
	}
	for _, a := range lists {
		for _, b := range lists {
			checkSameMode(t, a, b, sameModeIn(a, b))
		}
	}
}

func TestSameModeOfOtherOrders(t *testing.T) {
	for _, sizes := range [][]int{{1, 2, 3}, {1, 2, 3, 4}, {1, 1, 2, 3, 3}, {20, 10, 12, 11}} {
		for _, a := range orders(sizes) {
			for _, b := range orders(sizes) {
				checkSameMode(t, a, b, sameModeIn(a, b))
			}
		}
	}
}

func TestSameModeOfOtherLengths(t *testing.T) {
	for _, sizes := range slices.Concat(knownSizes(), evenSizes()) {
		for count := 1; count < len(sizes); count++ {
			checkSameMode(t, sizes, sizes[:count], -1)
			checkSameMode(t, sizes[:count], sizes, -1)
			checkSameMode(t, sizes, sizes[count:], -1)
			checkSameMode(t, sizes[count:], sizes, -1)
		}
		if twice := slices.Repeat(sizes, 2); isScale(twice) {
			checkSameMode(t, sizes, twice, -1)
			checkSameMode(t, twice, sizes, -1)
		}
	}
}

// A size that is greater by 1 makes another sum, and so no mode.
func TestScalesThatDifferAtOnePlace(t *testing.T) {
	for _, sizes := range slices.Concat(knownSizes(), evenSizes()) {
		for at := range sizes {
			changed := slices.Clone(sizes)
			changed[at]++
			checkSameMode(t, sizes, changed, -1)
			checkSameMode(t, changed, sizes, -1)
		}
	}
}

func TestModesOfOneSize(t *testing.T) {
	for size := 1; size <= greatestSize; size++ {
		sizes := []int{size}
		checkMode(t, sizes, 0, size)
		checkMode(t, sizes, 1)
		checkMode(t, sizes, -1)
		checkCountModes(t, sizes, 1)
		checkBrightest(t, sizes, 0)
		checkReverse(t, sizes, size)
		checkMirror(t, sizes, true)
		for other := 1; other <= greatestSize; other++ {
			checkSameMode(t, sizes, []int{other}, sameModeIn(sizes, []int{other}))
		}
	}
}

func TestModesOfTwoSizes(t *testing.T) {
	for first := 1; first <= greatestSize; first++ {
		for second := 1; second <= greatestSize; second++ {
			checkModes(t, []int{first, second})
			checkMirror(t, []int{first, second}, true)
		}
	}
}

func TestModesOfEqualSizes(t *testing.T) {
	for _, sizes := range evenSizes() {
		checkCountModes(t, sizes, 1)
		checkBrightest(t, sizes, 0)
		checkReverse(t, sizes, sizes...)
		checkMirror(t, sizes, true)
		checkSameMode(t, sizes, sizes, 0)
		for k := range sizes {
			checkMode(t, sizes, k, sizes...)
		}
	}
}

// isOnce tells whether no shorter block repeats to this one.
func isOnce(block []int) bool {
	for k := 1; k < len(block); k++ {
		if slices.Equal(modeIn(block, k), block) {
			return false
		}
	}
	return true
}

// Of several equal modes, the first one is answered: SameMode and BrightestMode stay within the first block.
func TestModesThatRepeat(t *testing.T) {
	for _, count := range []int{1, 2, 3, 4, 6, 12} {
		for _, block := range blocks(count, max(2, 4-count/2)) {
			sizes := slices.Repeat(block, mostSizes/count)
			if !isOnce(block) || !isScale(sizes) {
				continue
			}
			checkCountModes(t, sizes, count)
			checkBrightest(t, sizes, brightestIn(block))
			for k := range sizes {
				checkMode(t, sizes, k, slices.Repeat(modeIn(block, k%count), mostSizes/count)...)
			}
			for _, k := range []int{0, count - 1, count % mostSizes, mostSizes - 1} {
				checkSameMode(t, sizes, modeIn(sizes, k), k%count)
			}
		}
	}
}

func TestTwelveModesApart(t *testing.T) {
	for _, sizes := range [][]int{{1, 2, 3, 4, 5, 6, 7, 8, 9, 10, 1, 4}, {1, 1, 1, 1, 1, 1, 1, 1, 1, 1, 1, 2}, {2, 1, 1, 1, 1, 1, 1, 1, 1, 1, 1, 1}, {1, 2, 1, 2, 1, 2, 1, 2, 1, 2, 2, 1}, {20, 19, 12, 1, 1, 1, 1, 1, 1, 1, 1, 1}} {
		checkCountModes(t, sizes, mostSizes)
		checkModes(t, sizes)
		for k := range sizes {
			checkSameMode(t, sizes, modeIn(sizes, k), k)
		}
	}
}

// All sizes but the last one agree: where it is the greatest, it comes first in the brightest mode, and otherwise it stays last there.
func TestModesThatDifferInTheLastSize(t *testing.T) {
	for count := 2; count <= mostSizes; count++ {
		for last := 1; last <= 6; last++ {
			sizes := append(slices.Repeat([]int{4}, count-1), last)
			if last == 4 {
				continue
			}
			checkCountModes(t, sizes, count)
			checkMirror(t, sizes, true)
			checkModes(t, sizes)
			if last > 4 {
				checkBrightest(t, sizes, count-1)
			} else {
				checkBrightest(t, sizes, 0)
			}
			checkSameMode(t, sizes, slices.Repeat([]int{4}, count), -1)
			checkSameMode(t, slices.Repeat([]int{4}, count), sizes, -1)
		}
	}
}

func TestModesOfNoScale(t *testing.T) {
	for _, sizes := range invalidSizes() {
		checkNoModes(t, sizes)
	}
}

// The lists of these pairs would be modes of each other if they were scales.
func TestSameModeOfNoScales(t *testing.T) {
	for _, sizes := range [][]int{{0}, {0, 2}, {2, 0}, {-1, 3}, {21, 1}, {1, 21}, {61}, {20, 20, 20, 1}, {1, 20, 20, 20}, slices.Repeat([]int{1}, 13), {math.MaxInt, 1}, {math.MinInt, 1}} {
		for k := range sizes {
			turned := slices.Concat(sizes[k:], sizes[:k])
			checkSameMode(t, sizes, turned, -1)
			checkSameMode(t, turned, sizes, -1)
		}
		checkSameMode(t, sizes, nil, -1)
		checkSameMode(t, sizes, []int{}, -1)
		checkSameMode(t, nil, sizes, -1)
		checkMirror(t, sizes, false)
	}
	for _, none := range [][]int{nil, {}} {
		checkSameMode(t, none, nil, -1)
		checkSameMode(t, none, []int{}, -1)
		checkSameMode(t, []int{2, 2, 1, 2, 2, 2, 1}, none, -1)
		checkMirror(t, none, false)
	}
}

func TestNoSuchMode(t *testing.T) {
	for _, sizes := range slices.Concat(knownSizes(), evenSizes()) {
		for _, k := range noIndexes(len(sizes)) {
			checkMode(t, sizes, k)
		}
	}
}

// modeAnswers is what all functions say about a scale.
type modeAnswers struct {
	Count, Brightest int
	Mirror           bool
	Reverse          []int
	Modes            [][]int
	Same             []int
}

func askModes(s impl.Scale) modeAnswers {
	answers := modeAnswers{Count: impl.CountModes(s), Brightest: impl.BrightestMode(s), Mirror: impl.IsMirror(s), Reverse: impl.ReverseScale(s).Sizes}
	for k := -1; k <= min(len(s.Sizes), mostSizes+1); k++ {
		mode := impl.ModeOf(s, k)
		answers.Modes = append(answers.Modes, mode.Sizes)
		answers.Same = append(answers.Same, impl.SameMode(s, mode), impl.SameMode(mode, s), impl.SameMode(s, s))
	}
	return answers
}

func (a modeAnswers) equal(b modeAnswers) bool {
	return a.Count == b.Count && a.Brightest == b.Brightest && a.Mirror == b.Mirror && slices.Equal(a.Reverse, b.Reverse) && slices.EqualFunc(a.Modes, b.Modes, slices.Equal[[]int]) && slices.Equal(a.Same, b.Same)
}

// withSpare lays other sizes behind those of a scale, as many as a mode can have.
func withSpare(sizes []int) []int {
	return append(slices.Clone(sizes), 17, 7, 16, 6, 15, 5, 14, 4, 13, 3, 12, 2)
}

// The spare capacity holds sizes, so that a program that looks there gives other answers, and one that writes modes there leaves a trace.
func TestScalesOfModesAreKept(t *testing.T) {
	for _, sizes := range slices.Concat(manySizes(), invalidSizes()) {
		memory := withSpare(sizes)
		before := slices.Clone(memory)
		got := askModes(impl.Scale{Sizes: memory[:len(sizes)]})
		if !slices.Equal(memory, before) {
			t.Errorf("the scale %v and what is behind it became %v", before, memory)
		}
		if !got.equal(askModes(impl.Scale{Sizes: slices.Clip(slices.Clone(sizes))})) {
			t.Errorf("the answers for %v depend on the memory behind it", sizes)
		}
	}
}

// Both arguments are parts of the same memory.
func TestSameModeInSharedMemory(t *testing.T) {
	for _, sizes := range slices.Concat(knownSizes(), evenSizes()) {
		memory := slices.Repeat(sizes, 3)
		before := slices.Clone(memory)
		count := len(sizes)
		for k := range memory[:count] {
			a, b := impl.Scale{Sizes: memory[:count]}, impl.Scale{Sizes: memory[k : k+count]}
			if got, want := impl.SameMode(a, b), sameModeIn(sizes, modeIn(sizes, k)); got != want {
				t.Errorf("SameMode(%v, %v) = %d; want %d", a, b, got, want)
			}
			if got, want := impl.SameMode(b, a), sameModeIn(modeIn(sizes, k), sizes); got != want {
				t.Errorf("SameMode(%v, %v) = %d; want %d", b, a, got, want)
			}
		}
		if !slices.Equal(memory, before) {
			t.Errorf("the memory %v became %v", before, memory)
		}
	}
}

func TestNoSizesHaveTheSameModes(t *testing.T) {
	without := askModes(impl.Scale{})
	major := impl.MajorScale().Sizes
	for _, sizes := range [][]int{{}, make([]int, 0, 7), major[:0]} {
		if !askModes(impl.Scale{Sizes: sizes}).equal(without) {
			t.Error("no sizes and empty ones get different answers")
		}
	}
}

// checkNewMemory gets the same answer twice and writes into the first one and its whole capacity, as append would.
func checkNewMemory(t *testing.T, sizes []int, answer func(s impl.Scale) impl.Scale) {
	t.Helper()
	memory := withSpare(sizes)
	before := slices.Clone(memory)
	s := impl.Scale{Sizes: memory[:len(sizes)]}
	want := answer(scaleOf(slices.Clone(sizes)...)).Sizes
	first, second := answer(s), answer(s)
	longer := append(first.Sizes, 77, 77, 77)
	overwriteInts(first.Sizes)
	overwriteInts(longer)
	if !slices.Equal(memory, before) || !slices.Equal(second.Sizes, want) || !slices.Equal(answer(s).Sizes, want) {
		t.Errorf("a result for %v shares memory with it or with another result", sizes)
	}
	overwriteInts(memory)
	if !slices.Equal(second.Sizes, want) {
		t.Errorf("writing into the scale %v changes an earlier result", sizes)
	}
}

func TestModesAreNewMemory(t *testing.T) {
	for _, sizes := range slices.Concat(knownSizes(), evenSizes(), compositions(7)) {
		for k := range sizes {
			checkNewMemory(t, sizes, func(s impl.Scale) impl.Scale { return impl.ModeOf(s, k) })
		}
		checkNewMemory(t, sizes, impl.ReverseScale)
	}
}

func TestModesOfOneScaleAreApart(t *testing.T) {
	for _, sizes := range knownSizes() {
		s := scaleOf(slices.Clone(sizes)...)
		var modes []impl.Scale
		for k := range sizes {
			modes = append(modes, impl.ModeOf(s, k))
		}
		for k, mode := range modes {
			if !slices.Equal(mode.Sizes, modeIn(sizes, k)) {
				t.Errorf("writing into another mode of %v changed mode %d to %v", sizes, k, mode)
			}
			overwriteInts(mode.Sizes)
		}
		checkModes(t, s.Sizes)
	}
}

func TestModesKeepNothing(t *testing.T) {
	lists := slices.Concat(knownSizes(), evenSizes(), invalidSizes()[:60])
	var answers []modeAnswers
	for _, sizes := range lists {
		answers = append(answers, askModes(scaleOf(sizes...)))
	}
	for range 2 {
		for i := len(lists) - 1; i >= 0; i-- {
			if !askModes(scaleOf(lists[i]...)).equal(answers[i]) {
				t.Errorf("later, the answers for %v are others", lists[i])
			}
		}
	}
}

// The same memory is asked again with other sizes in it.
func TestModesFollowTheirSizes(t *testing.T) {
	memory := make([]int, mostSizes)
	for _, sizes := range manySizes() {
		s := impl.Scale{Sizes: memory[:copy(memory, sizes)]}
		if !askModes(s).equal(askModes(scaleOf(slices.Clone(sizes)...))) {
			t.Errorf("the answers for %v are those of earlier sizes in its memory", sizes)
		}
	}
}
