package tests

import (
	"math"
	"slices"
	"testing"

	"loop.example/g00989/impl"
)

const (
	mostKeys      = 20
	highestNumber = 19
	// firstAsked and lastAsked are the ends of the numbers that every keyboard is asked for; the names end before them on both sides.
	firstAsked = -20
	lastAsked  = 25
)

func keyboardOf(notes ...int) impl.Keyboard { return impl.Keyboard{Notes: notes} }

func isNamed(n int) bool { return n >= lowestNumber && n <= highestNumber }

func isKeyboard(notes []int) bool {
	for i, n := range notes {
		if !isNamed(n) {
			return false
		}
		for _, later := range notes[i+1:] {
			if later <= n {
				return false
			}
		}
	}
	return len(notes) > 0 && len(notes) <= mostKeys
}

func hasIn(notes []int, n int) bool { return isKeyboard(notes) && slices.Contains(notes, n) }

// tonicsIn is nil where one of the seven has no name.
func tonicsIn(n int) []int {
	seven := []int{n - 1, n, n + 1, n + 2, n + 3, n + 4, n + 5}
	for _, note := range seven {
		if !isNamed(note) {
			return nil
		}
	}
	return seven
}

// lackingIn are those of the seven notes of a key that a keyboard lacks.
func lackingIn(notes []int, n int) []int {
	var lacking []int
	for _, note := range tonicsIn(n) {
		if !slices.Contains(notes, note) {
			lacking = append(lacking, note)
		}
	}
	return lacking
}

func isPlayableIn(notes []int, n int) bool {
	return isKeyboard(notes) && tonicsIn(n) != nil && len(lackingIn(notes, n)) == 0
}

func playableIn(notes []int) []int {
	var keys []int
	for n := firstAsked; n <= lastAsked; n++ {
		if isPlayableIn(notes, n) {
			keys = append(keys, n)
		}
	}
	return keys
}

// pairsIn goes through the notes in their order, so that the pairs are in lexicographic order.
func pairsIn(notes []int) [][]int {
	var pairs [][]int
	for i := 0; i < len(notes) && isKeyboard(notes); i++ {
		for _, high := range notes[i+1:] {
			if impl.AreEnharmonic(notes[i], high) {
				pairs = append(pairs, []int{notes[i], high})
			}
		}
	}
	return pairs
}

func addedIn(notes []int, n int) ([]int, bool) {
	if !isKeyboard(notes) || !isNamed(n) || slices.Contains(notes, n) || len(notes) == mostKeys {
		return notes, false
	}
	var lower, higher []int
	for _, note := range notes {
		if note < n {
			lower = append(lower, note)
		} else {
			higher = append(higher, note)
		}
	}
	return slices.Concat(lower, []int{n}, higher), true
}

func runOf(low, high int) []int {
	var notes []int
	for n := low; n <= high; n++ {
		notes = append(notes, n)
	}
	return notes
}

// without are the notes but those at some places, which are ascending.
func without(notes []int, places ...int) []int {
	var rest []int
	for i, n := range notes {
		if !slices.Contains(places, i) {
			rest = append(rest, n)
		}
	}
	return rest
}

// eachRun calls with all neighbouring notes of so many names.
func eachRun(count int, visit func(notes []int)) {
	for low := lowestNumber; low+count-1 <= highestNumber; low++ {
		visit(runOf(low, low+count-1))
	}
}

func neighbourRuns() [][]int {
	var lists [][]int
	for count := 1; count <= mostKeys; count++ {
		eachRun(count, func(notes []int) { lists = append(lists, notes) })
	}
	return lists
}

// withGaps leaves out so many notes between the first and the last one, in every possible way.
func withGaps(notes []int, gaps int) [][]int {
	if gaps == 0 {
		return [][]int{notes}
	}
	var lists [][]int
	for place := 1; place < len(notes)-1; place++ {
		for _, rest := range withGaps(notes[place:], gaps-1) {
			// All other gaps are behind the first note of the rest, which is the first gap.
			lists = append(lists, slices.Concat(notes[:place], rest[1:]))
		}
	}
	return lists
}

// gappedRuns are runs of up to so many neighbours that have lost some of their inner notes and have not too many left.
func gappedRuns(most, gaps int) [][]int {
	var lists [][]int
	for count := gaps + 2; count <= most; count++ {
		eachRun(count, func(notes []int) { lists = append(lists, withGaps(notes, gaps)...) })
	}
	return lists
}

// mixedKeyboards have 1 to 20 notes from anywhere.
func mixedKeyboards() [][]int {
	var lists [][]int
	names := highestNumber - lowestNumber + 1
	places := mixedFines(names, 40*mostKeys*mostKeys)
	for count := 1; len(places) >= count; count = count%mostKeys + 1 {
		notes := runOf(lowestNumber, highestNumber)
		for i, place := range places[:count] {
			other := (i + place) % names
			notes[i], notes[other] = notes[other], notes[i]
		}
		notes = notes[:count:count]
		slices.Sort(notes)
		lists = append(lists, notes)
		places = places[count:]
	}
	return lists
}

func knownKeyboards() [][]int {
	return [][]int{
		runOf(-3, 8), runOf(-3, 9), runOf(-4, 9), runOf(-5, 11), runOf(-1, 5), runOf(-1, 11), runOf(-6, 13), runOf(-15, 4), runOf(0, 19), runOf(-15, 3), runOf(1, 19),
		{0}, {-15}, {19}, {-15, 19}, {-3, 9}, {-15, -3, 9}, {-5, 7, 19}, {-15, -3, 7, 19}, {-15, -5, -3, 7, 9, 19}, {-14, -2, 10}, {-6, 6, 18}, {-4, -3, 8, 9}, {-4, 9},
		{-3, -1, 0, 1, 2, 3, 4, 5, 9}, {-15, -14, -13, -12, -11, -10, -9, -3, 13, 14, 15, 16, 17, 18, 19},
		slices.Concat(runOf(-15, -9), runOf(-3, 3), runOf(9, 14)), slices.Concat(runOf(-15, -6), runOf(-3, 6)), slices.Concat(runOf(-10, -4), runOf(2, 8), runOf(14, 19)),
		{-15, -13, -11, -9, -7, -5, -3, -1, 1, 3, 5, 7, 9, 11, 13, 15, 17, 19}, {-14, -12, -10, -8, -6, -4, -2, 0, 2, 4, 6, 8, 10, 12, 14, 16, 18},
	}
}

func manyKeyboards() [][]int {
	return slices.Concat(knownKeyboards(), neighbourRuns(), gappedRuns(mostKeys+1, 1), mixedKeyboards())
}

// someKeyboards are fewer, for what takes long.
func someKeyboards() [][]int {
	return slices.Concat(knownKeyboards(), neighbourRuns(), mixedKeyboards()[:10*mostKeys])
}

// noNotes are numbers without a name; some of them would be notes if they lost their upper bits.
func noNotes() []int {
	return append(extremeInts(), -16, -17, -27, -28, 20, 21, 31, 32, 100, -100, 256, 256+9, 1<<16+9, 1<<32+9, -1<<32+9, math.MinInt+9, math.MinInt+15, math.MaxInt-4, math.MaxInt-5)
}

// unnamedKeyboards are ascending but for the notes that do not fit in, with one note that has no name.
func unnamedKeyboards() [][]int {
	lists := [][]int{runOf(-16, -16), runOf(20, 20), runOf(-16, 3), runOf(1, 20), runOf(-16, -15), runOf(19, 20), runOf(-16, -9), runOf(13, 20), runOf(-17, -16), {-16, 20}, {math.MinInt, math.MaxInt}, {math.MinInt, 0, math.MaxInt}}
	for _, notes := range [][]int{{0}, {-3, 9}, runOf(-1, 5), runOf(-3, 8), runOf(-6, 12), runOf(-15, 4), runOf(0, 19)} {
		for _, n := range noNotes() {
			lists = append(lists, slices.Concat([]int{n}, notes[1:]), slices.Concat(notes[:len(notes)-1], []int{n}))
			lists = append(lists, slices.Concat(notes, []int{n}), slices.Concat([]int{n}, notes))
			for i := range notes {
				changed := slices.Clone(notes)
				changed[i] = n
				lists = append(lists, changed)
			}
		}
	}
	return lists
}

// disorderedKeyboards have two equal notes, or two notes in the wrong order.
func disorderedKeyboards() [][]int {
	lists := [][]int{{0, 0}, {-15, -15}, {19, 19}, {9, -3}, {1, 0}, {0, 5, 4, 3, 2, 1, -1}, slices.Repeat([]int{0}, mostKeys), make([]int, 2), {0, -1, 1, 2, 3, 4, 5}, {-1, 0, 1, 2, 3, 4, 5, -1}, {-1, 0, 1, 2, 3, 4, 5, 5}}
	for _, notes := range [][]int{{-3, 9}, runOf(-1, 5), {-3, -1, 0, 1, 2, 3, 4, 5, 9}, runOf(-3, 8), runOf(-6, 12), runOf(-15, 4)} {
		reverse := slices.Clone(notes)
		slices.Reverse(reverse)
		lists = append(lists, reverse)
		for i := range notes {
			for other := range i {
				changed, swapped := slices.Clone(notes), slices.Clone(notes)
				changed[i] = notes[other]
				swapped[i], swapped[other] = notes[other], notes[i]
				lists = append(lists, changed, swapped)
			}
			if len(notes) < mostKeys {
				lists = append(lists, slices.Concat(notes[:i], notes[i:i+1], notes[i:]))
			}
		}
	}
	return lists
}

func invalidKeyboards() [][]int {
	lists := [][]int{nil, {}, make([]int, 0, 7), make([]int, mostKeys+1), runOf(-15, 19), runOf(-15, 20), runOf(-20, 25), runOf(0, 256+7), runOf(-3, 1<<16+7)}
	for _, count := range []int{mostKeys + 1, mostKeys + 2, 30} {
		eachRun(count, func(notes []int) { lists = append(lists, notes) })
	}
	return slices.Concat(lists, unnamedKeyboards(), disorderedKeyboards())
}

// askedNumbers are all that a keyboard is asked for.
func askedNumbers() []int { return append(runOf(firstAsked, lastAsked), noNotes()...) }

func equalPairs(a, b [][]int) bool { return slices.EqualFunc(a, b, slices.Equal[[]int]) }

func checkKeyboardOk(t *testing.T, notes []int, want bool) {
	t.Helper()
	if got := impl.KeyboardOk(keyboardOf(notes...)); got != want {
		t.Errorf("KeyboardOk(%v) = %v", notes, got)
	}
}

func checkHas(t *testing.T, notes []int, n int, want bool) {
	t.Helper()
	if got := impl.HasNote(keyboardOf(notes...), n); got != want {
		t.Errorf("HasNote(%v, %d) = %v", notes, n, got)
	}
}

func checkTonics(t *testing.T, n int, want ...int) {
	t.Helper()
	if got := impl.TonicNotes(n); !slices.Equal(got, want) {
		t.Errorf("TonicNotes(%d) = %v; want %v", n, got, want)
	}
}

func checkPlayable(t *testing.T, notes []int, n int, want bool) {
	t.Helper()
	if got := impl.IsPlayable(keyboardOf(notes...), n); got != want {
		t.Errorf("IsPlayable(%v, %d) = %v", notes, n, got)
	}
}

func checkPlayableKeys(t *testing.T, notes []int, want ...int) {
	t.Helper()
	if got := impl.PlayableKeys(keyboardOf(notes...)); !slices.Equal(got, want) {
		t.Errorf("PlayableKeys(%v) = %v; want %v", notes, got, want)
	}
}

func checkPairs(t *testing.T, notes []int, want ...[]int) {
	t.Helper()
	if got := impl.SplitPairs(keyboardOf(notes...)); !equalPairs(got, want) {
		t.Errorf("SplitPairs(%v) = %v; want %v", notes, got, want)
	}
}

func checkAdds(t *testing.T, notes []int, n int, want []int, wantOk bool) {
	t.Helper()
	if got, ok := impl.AddNote(keyboardOf(notes...), n); !slices.Equal(got.Notes, want) || ok != wantOk {
		t.Errorf("AddNote(%v, %d) = %v, %v; want %v, %v", notes, n, got, ok, want, wantOk)
	}
}

func checkAddsNone(t *testing.T, notes []int, n int) {
	t.Helper()
	checkAdds(t, notes, n, notes, false)
}

// checkKeys holds what is said about all notes together against the chapter's words.
func checkKeys(t *testing.T, notes []int) {
	t.Helper()
	checkKeyboardOk(t, notes, isKeyboard(notes))
	checkPlayableKeys(t, notes, playableIn(notes)...)
	checkPairs(t, notes, pairsIn(notes)...)
}

// checkKeyboard asks for every number too; the notes may be no keyboard.
func checkKeyboard(t *testing.T, notes []int) {
	t.Helper()
	checkKeys(t, notes)
	for n := firstAsked; n <= lastAsked; n++ {
		checkHas(t, notes, n, hasIn(notes, n))
		checkPlayable(t, notes, n, isPlayableIn(notes, n))
		added, ok := addedIn(notes, n)
		checkAdds(t, notes, n, added, ok)
	}
}

// checkNoKeyboard asks every function; the notes are no keyboard.
func checkNoKeyboard(t *testing.T, notes []int) {
	t.Helper()
	checkKeyboardOk(t, notes, false)
	checkPlayableKeys(t, notes)
	checkPairs(t, notes)
	for _, n := range append(askedNumbers(), notes[:min(len(notes), mostKeys+2)]...) {
		checkHas(t, notes, n, false)
		checkPlayable(t, notes, n, false)
		checkAddsNone(t, notes, n)
	}
}

func TestKeyboardLimits(t *testing.T) {
	if impl.MaxKeys != mostKeys {
		t.Error("MaxKeys is", impl.MaxKeys)
	}
	if names := namesInFifths(); lowestNumber+len(names)-1 != highestNumber {
		t.Error("the notes do not end with", highestNumber)
	}
}

func TestKeyboardOk(t *testing.T) {
	for _, notes := range manyKeyboards() {
		checkKeyboardOk(t, notes, true)
	}
	for _, notes := range invalidKeyboards() {
		checkKeyboardOk(t, notes, false)
	}
}

func TestKeyboardOkWithEveryNote(t *testing.T) {
	for n := firstAsked; n <= lastAsked; n++ {
		checkKeyboardOk(t, []int{n}, isNamed(n))
		for other := firstAsked; other <= lastAsked; other++ {
			checkKeyboardOk(t, []int{n, other}, isNamed(n) && isNamed(other) && n < other)
			checkKeyboardOk(t, []int{n, other, 19}, isNamed(n) && isNamed(other) && n < other && other < 19)
			checkKeyboardOk(t, []int{-15, n, other}, isNamed(n) && isNamed(other) && n < other && n > -15)
		}
	}
}

func TestKeyboardOkWithEveryNumberOfNotes(t *testing.T) {
	for count := 0; count <= 46; count++ {
		for low := firstAsked; low <= lastAsked; low++ {
			notes := runOf(low, low+count-1)
			checkKeyboardOk(t, notes, count >= 1 && count <= 20 && low >= -15 && low+count <= 20)
		}
	}
}

func TestHasNote(t *testing.T) {
	for n := -3; n <= 8; n++ {
		checkHas(t, runOf(-3, 8), n, true)
	}
	for _, n := range []int{-15, -5, -4, 9, 10, 19, -16, 20, math.MinInt, math.MaxInt} {
		checkHas(t, runOf(-3, 8), n, false)
	}
	checkHas(t, []int{-15, 0, 19}, -15, true)
	checkHas(t, []int{-15, 0, 19}, 0, true)
	checkHas(t, []int{-15, 0, 19}, 19, true)
	checkHas(t, []int{-15, 0, 19}, 1, false)
	checkHas(t, []int{-15, 1, 19}, 0, false)
	// The other note of the same key is another note.
	checkHas(t, []int{-3}, 9, false)
	checkHas(t, []int{9}, -3, false)
}

func TestTonicNotes(t *testing.T) {
	checkTonics(t, 0, -1, 0, 1, 2, 3, 4, 5)
	checkTonics(t, 3, 2, 3, 4, 5, 6, 7, 8)
	checkTonics(t, -2, -3, -2, -1, 0, 1, 2, 3)
	checkTonics(t, -14, -15, -14, -13, -12, -11, -10, -9)
	checkTonics(t, 14, 13, 14, 15, 16, 17, 18, 19)
	checkTonics(t, -15)
	checkTonics(t, 15)
}

func TestTonicNotesOfEveryNumber(t *testing.T) {
	for n := firstAsked; n <= lastAsked; n++ {
		checkTonics(t, n, tonicsIn(n)...)
		if got := impl.TonicNotes(n); (len(got) == 7) != (n >= -14 && n <= 14) {
			t.Errorf("TonicNotes(%d) = %v", n, got)
		}
	}
	for n := -400; n <= 400; n++ {
		checkTonics(t, n, tonicsIn(n)...)
	}
	for _, n := range noNotes() {
		checkTonics(t, n)
	}
}

// Each number whose seven notes end beyond the range of an int is asked, so that none of them wraps around to a name.
func TestTonicNotesAtTheEndsOfInt(t *testing.T) {
	for i := range 50 {
		checkTonics(t, math.MinInt+i)
		checkTonics(t, math.MaxInt-i)
	}
	for _, notes := range slices.Concat(knownKeyboards(), [][]int{nil, {}, {math.MinInt}, {math.MaxInt}}) {
		for i := range 25 {
			for _, n := range []int{math.MinInt + i, math.MaxInt - i} {
				checkHas(t, notes, n, false)
				checkPlayable(t, notes, n, false)
				checkAddsNone(t, notes, n)
			}
		}
	}
}

// The seven notes of a major key have the seven letters, and the key's note is the first one of its scale.
func TestTonicNotesHaveAllLetters(t *testing.T) {
	for n := -14; n <= 14; n++ {
		var steps []int
		for _, note := range impl.TonicNotes(n) {
			steps = append(steps, impl.StepsUp(n, note))
		}
		if !slices.Equal(steps, []int{3, 0, 4, 1, 5, 2, 6}) {
			t.Errorf("the notes of the key %d are %v letters above it", n, steps)
		}
	}
}

func TestIsPlayable(t *testing.T) {
	twelve := runOf(-3, 8)
	for n := firstAsked; n <= lastAsked; n++ {
		checkPlayable(t, twelve, n, n >= -2 && n <= 3)
	}
	checkPlayable(t, append(twelve, 9), 4, true)
	checkPlayable(t, runOf(-4, 8), -3, true)
	checkPlayable(t, twelve, -3, false)
	checkPlayable(t, twelve, 4, false)
}

func TestPlayableKeys(t *testing.T) {
	checkPlayableKeys(t, runOf(-3, 8), -2, -1, 0, 1, 2, 3)
	checkPlayableKeys(t, runOf(-3, 9), -2, -1, 0, 1, 2, 3, 4)
	checkPlayableKeys(t, runOf(-1, 5), 0)
	checkPlayableKeys(t, runOf(-15, 4), -14, -13, -12, -11, -10, -9, -8, -7, -6, -5, -4, -3, -2, -1)
	checkPlayableKeys(t, runOf(0, 19), 1, 2, 3, 4, 5, 6, 7, 8, 9, 10, 11, 12, 13, 14)
	checkPlayableKeys(t, slices.Concat(runOf(-15, -9), runOf(-1, 5), runOf(14, 19)), -14, 0)
	checkPlayableKeys(t, slices.Concat(runOf(-15, -9), runOf(13, 19)), -14, 14)
	checkPlayableKeys(t, slices.Concat(runOf(-15, -9), runOf(-7, -1), runOf(1, 6)), -14, -6)
}

func TestSplitPairs(t *testing.T) {
	checkPairs(t, runOf(-3, 8))
	checkPairs(t, runOf(-3, 9), []int{-3, 9})
	checkPairs(t, runOf(-4, 9), []int{-4, 8}, []int{-3, 9})
	checkPairs(t, []int{-3, -1, 0, 1, 2, 3, 4, 5, 9}, []int{-3, 9})
	checkPairs(t, []int{-3, 8})
	checkPairs(t, []int{-3, 10})
	checkPairs(t, []int{-3, 3})
	checkPairs(t, []int{0})
	checkPairs(t, runOf(0, 19), []int{0, 12}, []int{1, 13}, []int{2, 14}, []int{3, 15}, []int{4, 16}, []int{5, 17}, []int{6, 18}, []int{7, 19})
}

// There are names for three notes of one key where the lowest one is from -15 to -5.
func TestThreeNotesOfOneKey(t *testing.T) {
	checkPairs(t, []int{-15, -3, 9}, []int{-15, -3}, []int{-15, 9}, []int{-3, 9})
	checkPairs(t, []int{-15, 9}, []int{-15, 9})
	checkPairs(t, []int{-5, 19}, []int{-5, 19})
	checkPairs(t, []int{-15, -14, -3, -2, 9, 10}, []int{-15, -3}, []int{-15, 9}, []int{-14, -2}, []int{-14, 10}, []int{-3, 9}, []int{-2, 10})
	for low := -15; low <= -5; low++ {
		notes := []int{low, low + 12, low + 24}
		checkPairs(t, notes, []int{low, low + 12}, []int{low, low + 24}, []int{low + 12, low + 24})
		checkKeyboard(t, notes)
		for at := range notes {
			rest := without(notes, at)
			checkPairs(t, rest, rest)
		}
	}
}

func TestSplitKeys(t *testing.T) {
	checkPairs(t, []int{-15, -3, 7, 19}, []int{-15, -3}, []int{7, 19})
	checkPairs(t, []int{-15, -5, -3, 7, 9, 19}, []int{-15, -3}, []int{-15, 9}, []int{-5, 7}, []int{-5, 19}, []int{-3, 9}, []int{7, 19})
	checkPairs(t, []int{-15, 19})
	checkPairs(t, []int{-4, -3, 8, 9}, []int{-4, 8}, []int{-3, 9})
	checkPairs(t, []int{-4, 9})
	for low := -15; low+12 <= 19; low++ {
		checkPairs(t, []int{low, low + 12}, []int{low, low + 12})
		checkPairs(t, []int{low, low + 11})
		checkKeyboard(t, []int{low, low + 12})
		twelve := runOf(low, low+11)
		checkPairs(t, twelve)
		checkAdds(t, twelve, low+12, runOf(low, low+12), true)
		checkPairs(t, runOf(low, low+12), []int{low, low + 12})
	}
}

func TestAddNote(t *testing.T) {
	checkAdds(t, runOf(-3, 8), 9, runOf(-3, 9), true)
	checkAdds(t, runOf(-3, 8), -4, runOf(-4, 8), true)
	checkAdds(t, runOf(-3, 8), 19, append(runOf(-3, 8), 19), true)
	checkAdds(t, runOf(-3, 8), -15, append([]int{-15}, runOf(-3, 8)...), true)
	checkAdds(t, []int{-3, 0, 9}, 4, []int{-3, 0, 4, 9}, true)
	checkAdds(t, []int{-3, 0, 9}, -2, []int{-3, -2, 0, 9}, true)
	checkAdds(t, []int{0}, 1, []int{0, 1}, true)
	checkAdds(t, []int{0}, -1, []int{-1, 0}, true)
	checkAddsNone(t, []int{0}, 0)
	checkAddsNone(t, runOf(-3, 8), 8)
	checkAddsNone(t, runOf(-3, 8), -3)
	checkAddsNone(t, runOf(-3, 8), 20)
	checkAddsNone(t, runOf(-3, 8), -16)
	checkAddsNone(t, nil, 0)
	checkAddsNone(t, []int{1, 0}, 2)
	checkAddsNone(t, []int{0, 0}, 2)
}

func TestManyKeyboards(t *testing.T) {
	for _, notes := range manyKeyboards() {
		checkKeyboard(t, notes)
	}
}

func TestKeyboardsOfOneAndTwoNotes(t *testing.T) {
	for first := firstAsked; first <= lastAsked; first++ {
		checkKeyboard(t, []int{first})
		for second := firstAsked; second <= lastAsked; second++ {
			checkKeyboard(t, []int{first, second})
		}
	}
}

func TestKeyboardsWithTwoGaps(t *testing.T) {
	for _, notes := range gappedRuns(mostKeys+2, 2) {
		checkKeyboard(t, notes)
	}
}

func TestKeyboardsWithThreeGaps(t *testing.T) {
	for _, notes := range gappedRuns(12, 3) {
		checkKeyboard(t, notes)
	}
	for _, notes := range gappedRuns(mostKeys+3, 3) {
		checkKeys(t, notes)
	}
}

// The gaps are counted, so that no kind of keyboard is missing above.
func TestGapsAreLeftOut(t *testing.T) {
	for gaps, want := range []int{1, 18, 153, 816} {
		different := map[[mostKeys]int]bool{}
		for _, notes := range withGaps(runOf(-15, 4), gaps) {
			if len(notes) != mostKeys-gaps || notes[0] != -15 || notes[len(notes)-1] != 4 || !isKeyboard(notes) {
				t.Fatalf("%v has not %d gaps", notes, gaps)
			}
			different[[mostKeys]int(append(slices.Clone(notes), make([]int, gaps)...))] = true
		}
		if len(different) != want {
			t.Errorf("there are %d runs with %d gaps; want %d", len(different), gaps, want)
		}
	}
}

// checkJust asks only functions of the program: a key can be played just if the keyboard has each note that belongs to it.
func checkJust(t *testing.T, k impl.Keyboard, n int) {
	t.Helper()
	notes := impl.TonicNotes(n)
	all := len(notes) == 7
	for _, note := range notes {
		all = all && impl.HasNote(k, note)
	}
	if impl.IsPlayable(k, n) != all || slices.Contains(impl.PlayableKeys(k), n) != all {
		t.Errorf("IsPlayable(%v, %d) = %v, and PlayableKeys are %v", k, n, impl.IsPlayable(k, n), impl.PlayableKeys(k))
	}
}

func TestKeyCanBePlayedJustIfItsNotesAreThere(t *testing.T) {
	for _, notes := range someKeyboards() {
		for n := firstAsked; n <= lastAsked; n++ {
			checkJust(t, keyboardOf(notes...), n)
		}
	}
}

// withoutOne are keyboards that have all notes of a key but one: nothing else, some notes below and above, or as many as there can be.
func withoutOne(n, missing int) [][]int {
	six := slices.DeleteFunc(runOf(n-1, n+5), func(note int) bool { return note == missing })
	lists := [][]int{six}
	for _, more := range [][2]int{{1, 0}, {0, 1}, {2, 3}, {6, 7}, {12, 1}, {0, 13}, {13, 0}} {
		low, high := max(n-1-more[0], lowestNumber), min(n+5+more[1], highestNumber)
		lists = append(lists, slices.Concat(runOf(low, n-2), six, runOf(n+6, high)))
	}
	return lists
}

func TestMissingNote(t *testing.T) {
	for n := -14; n <= 14; n++ {
		for missing := n - 1; missing <= n+5; missing++ {
			for _, notes := range withoutOne(n, missing) {
				checkPlayable(t, notes, n, false)
				k, ok := impl.AddNote(keyboardOf(notes...), missing)
				if !ok || !impl.IsPlayable(k, n) || !slices.Contains(impl.PlayableKeys(k), n) {
					t.Errorf("AddNote(%v, %d) = %v, %v, and the key %d cannot be played", notes, missing, k, ok, n)
				}
			}
		}
	}
}

// The notes that are missing come in every order, and only the last one of them makes the key playable.
func TestMissingNotes(t *testing.T) {
	for n := -14; n <= 14; n++ {
		for _, there := range [][]int{{0}, {6}, {0, 6}, {1, 2, 5}, {0, 1, 3, 4}} {
			var notes []int
			for _, place := range there {
				notes = append(notes, n-1+place)
			}
			for _, order := range orders(lackingIn(notes, n)) {
				checkFilled(t, notes, n, order)
			}
		}
	}
}

func checkFilled(t *testing.T, notes []int, n int, missing []int) {
	t.Helper()
	k := keyboardOf(notes...)
	for _, note := range missing {
		checkPlayable(t, k.Notes, n, false)
		more, ok := impl.AddNote(k, note)
		if !ok {
			t.Fatalf("AddNote(%v, %d) fails", k, note)
		}
		k = more
	}
	if !slices.Equal(k.Notes, runOf(n-1, n+5)) || !slices.Equal(impl.PlayableKeys(k), []int{n}) {
		t.Errorf("the notes %v and %v make %v", notes, missing, k)
	}
}

func TestFurtherNotesKeepKeys(t *testing.T) {
	for _, notes := range someKeyboards() {
		k := keyboardOf(notes...)
		for n := firstAsked; n <= lastAsked; n++ {
			more, ok := impl.AddNote(k, n)
			if ok != (impl.KeyboardOk(more) && len(more.Notes) == len(notes)+1 && impl.HasNote(more, n)) {
				t.Errorf("AddNote(%v, %d) = %v, %v", k, n, more, ok)
			}
			for _, key := range impl.PlayableKeys(k) {
				checkPlayable(t, more.Notes, key, true)
			}
		}
	}
}

// Each keyboard of up to 20 notes is made of its notes in an order of its own.
func TestKeyboardsAreMadeNoteByNote(t *testing.T) {
	for i, notes := range someKeyboards() {
		order := slices.Concat(notes[i%len(notes):], notes[:i%len(notes)])
		if i%2 == 1 {
			slices.Reverse(order)
		}
		k := keyboardOf(order[0])
		for _, n := range order[1:] {
			more, ok := impl.AddNote(k, n)
			if !ok {
				t.Fatalf("AddNote(%v, %d) fails", k, n)
			}
			k = more
		}
		if !slices.Equal(k.Notes, notes) {
			t.Errorf("the notes %v make %v", order, k)
		}
		checkKeys(t, k.Notes)
	}
}

func TestKeyboardOfOneNote(t *testing.T) {
	for note := lowestNumber; note <= highestNumber; note++ {
		checkPlayableKeys(t, []int{note})
		checkPairs(t, []int{note})
		for n := firstAsked; n <= lastAsked; n++ {
			checkHas(t, []int{note}, n, n == note)
			checkPlayable(t, []int{note}, n, false)
			if isNamed(n) && n != note {
				checkAdds(t, []int{note}, n, []int{min(n, note), max(n, note)}, true)
			} else {
				checkAddsNone(t, []int{note}, n)
			}
		}
	}
}

// fullKeyboards have so many notes: neighbours, or with gaps.
func fullKeyboards(count int) [][]int {
	var lists [][]int
	eachRun(count, func(notes []int) { lists = append(lists, notes) })
	eachRun(count+1, func(notes []int) { lists = append(lists, withGaps(notes, 1)...) })
	for _, notes := range mixedKeyboards() {
		if len(notes) == count {
			lists = append(lists, notes)
		}
	}
	return lists
}

func TestNothingIsAddedToTwentyNotes(t *testing.T) {
	for _, notes := range fullKeyboards(mostKeys) {
		checkKeyboardOk(t, notes, true)
		for _, n := range askedNumbers() {
			checkAddsNone(t, notes, n)
		}
	}
}

func TestOneNoteIsAddedToNineteen(t *testing.T) {
	for _, notes := range fullKeyboards(mostKeys - 1) {
		for _, n := range askedNumbers() {
			if !isNamed(n) || slices.Contains(notes, n) {
				checkAddsNone(t, notes, n)
				continue
			}
			want, _ := addedIn(notes, n)
			checkAdds(t, notes, n, want, true)
			checkAddsNone(t, want, -15)
			checkAddsNone(t, want, 19)
		}
	}
}

func TestNoteThatIsThereAlready(t *testing.T) {
	for _, notes := range manyKeyboards() {
		for _, n := range notes {
			checkAddsNone(t, notes, n)
		}
	}
}

func TestLowestAndHighestKey(t *testing.T) {
	checkPlayableKeys(t, runOf(-15, -9), -14)
	checkPlayableKeys(t, runOf(13, 19), 14)
	checkPlayableKeys(t, runOf(-15, -8), -14, -13)
	checkPlayableKeys(t, runOf(12, 19), 13, 14)
	for _, notes := range manyKeyboards() {
		checkPlayable(t, notes, -15, false)
		checkPlayable(t, notes, 15, false)
	}
	for at := range 7 {
		checkPlayable(t, without(runOf(-15, -9), at), -14, false)
		checkPlayable(t, without(runOf(13, 19), at), 14, false)
	}
}

func TestKeyboardsWithoutKeys(t *testing.T) {
	for _, notes := range [][]int{{0}, {-3, 9}, runOf(-1, 4), runOf(0, 5), runOf(-15, -10), runOf(14, 19), {-1, 0, 1, 2, 3, 4, 6}, {-2, 0, 1, 2, 3, 4, 5}} {
		checkPlayableKeys(t, notes)
	}
	// Where every seventh note is left out, no seven neighbours stay together; where every second one is, not even two.
	for first := range 7 {
		notes := slices.DeleteFunc(runOf(-15, 7), func(n int) bool { return (n+15)%7 == first })
		checkPlayableKeys(t, notes)
		checkKeyboard(t, notes)
	}
	for low := -15; low <= -14; low++ {
		var notes []int
		for n := low; n <= highestNumber; n += 2 {
			notes = append(notes, n)
		}
		checkPlayableKeys(t, notes)
		checkKeyboard(t, notes)
	}
	eachRun(6, func(notes []int) { checkPlayableKeys(t, notes) })
	eachRun(7, func(notes []int) { checkPlayableKeys(t, notes, notes[1]) })
}

// A pair is enharmonic, and each two notes of the keyboard that are enharmonic are a pair.
func TestPairsAreEnharmonic(t *testing.T) {
	for _, notes := range manyKeyboards() {
		pairs := impl.SplitPairs(keyboardOf(notes...))
		count := 0
		for _, low := range notes {
			for _, high := range notes {
				if low != high && (high-low)%12 == 0 && !slices.ContainsFunc(pairs, func(pair []int) bool { return slices.Equal(pair, []int{min(low, high), max(low, high)}) }) {
					t.Errorf("SplitPairs(%v) = %v lacks %d and %d", notes, pairs, low, high)
				}
				if low < high && keyOf(impl.NoteName(low)) == keyOf(impl.NoteName(high)) {
					count++
				}
			}
		}
		if len(pairs) != count || !slices.IsSortedFunc(pairs, slices.Compare[[]int]) {
			t.Errorf("SplitPairs(%v) = %v; %d notes are on the same key as others", notes, pairs, count)
		}
	}
}

func TestInvalidKeyboards(t *testing.T) {
	for _, notes := range invalidKeyboards() {
		checkNoKeyboard(t, notes)
	}
}

// The notes that the key wants are all there, or would be with the one that is added, but the keyboard is not valid.
func TestNotesOfNoKeyboard(t *testing.T) {
	seven := runOf(-1, 5)
	reverse := slices.Clone(seven)
	slices.Reverse(reverse)
	for _, notes := range [][]int{reverse, {0, -1, 1, 2, 3, 4, 5}, append(slices.Clone(seven), 5), append([]int{-16}, seven...), append(slices.Clone(seven), 20), runOf(-10, 10), slices.Concat(seven, seven), {-1, 0, 1, 2, 3, 4, 5, 12, 11}} {
		checkNoKeyboard(t, notes)
		checkPlayable(t, notes, 0, false)
		checkHas(t, notes, 0, false)
		checkAddsNone(t, notes, 6)
	}
	checkPairs(t, []int{9, -3})
	checkPairs(t, []int{-3, -3})
	checkPairs(t, []int{-16, -4, 8})
	checkPairs(t, []int{8, 20})
	checkPairs(t, runOf(-10, 10))
}

func TestNumbersWithoutNamesAreNoNotes(t *testing.T) {
	for _, notes := range someKeyboards() {
		for _, n := range noNotes() {
			checkHas(t, notes, n, false)
			checkPlayable(t, notes, n, false)
			checkAddsNone(t, notes, n)
		}
	}
}

// keyboardAnswers is what all functions say about a keyboard.
type keyboardAnswers struct {
	Ok    bool
	Yes   []bool
	Keys  []int
	Pairs [][]int
	Added [][]int
}

func askKeyboard(k impl.Keyboard) keyboardAnswers {
	answers := keyboardAnswers{Ok: impl.KeyboardOk(k), Keys: impl.PlayableKeys(k), Pairs: impl.SplitPairs(k)}
	for _, n := range append(runOf(firstAsked, lastAsked), math.MinInt, math.MaxInt) {
		added, ok := impl.AddNote(k, n)
		answers.Yes = append(answers.Yes, impl.HasNote(k, n), impl.IsPlayable(k, n), ok)
		answers.Added = append(answers.Added, added.Notes)
	}
	return answers
}

func (a keyboardAnswers) equal(b keyboardAnswers) bool {
	return a.Ok == b.Ok && slices.Equal(a.Yes, b.Yes) && slices.Equal(a.Keys, b.Keys) && equalPairs(a.Pairs, b.Pairs) && equalPairs(a.Added, b.Added)
}

// shortInvalidKeyboards leaves out those of thousands of notes.
func shortInvalidKeyboards() [][]int {
	return slices.DeleteFunc(invalidKeyboards(), func(notes []int) bool { return len(notes) > 2*mostKeys })
}

// The spare capacity holds notes, so that a program that looks there gives other answers, and one that writes there leaves a trace.
func TestKeyboardsAreKept(t *testing.T) {
	for _, notes := range slices.Concat(someKeyboards(), shortInvalidKeyboards()) {
		memory := withSpare(notes)
		before := slices.Clone(memory)
		got := askKeyboard(impl.Keyboard{Notes: memory[:len(notes)]})
		if !slices.Equal(memory, before) {
			t.Errorf("the keyboard %v and what is behind it became %v", before, memory)
		}
		if !got.equal(askKeyboard(impl.Keyboard{Notes: slices.Clip(slices.Clone(notes))})) {
			t.Errorf("the answers for %v depend on the memory behind it", notes)
		}
	}
}

func TestNoNotesAreTheSame(t *testing.T) {
	nothing := askKeyboard(impl.Keyboard{})
	seven := runOf(-1, 5)
	for _, notes := range [][]int{{}, make([]int, 0, 7), seven[:0]} {
		if !askKeyboard(impl.Keyboard{Notes: notes}).equal(nothing) {
			t.Error("no notes and empty ones get different answers")
		}
	}
	if added, ok := impl.AddNote(impl.Keyboard{Notes: seven[:0]}, 3); ok || len(added.Notes) != 0 || seven[0] != -1 {
		t.Errorf("a note is added to none: %v, %v", added, seven)
	}
}

func TestTonicNotesAreNewMemory(t *testing.T) {
	for n := firstAsked; n <= lastAsked; n++ {
		checkNewNumbers(t, tonicsIn(n), func() []int { return impl.TonicNotes(n) })
		other := impl.TonicNotes(n + 1)
		overwriteInts(impl.TonicNotes(n))
		if !slices.Equal(other, tonicsIn(n+1)) {
			t.Errorf("writing into TonicNotes(%d) changes the notes of the next key to %v", n, other)
		}
	}
}

func TestPlayableKeysAreNewMemory(t *testing.T) {
	for _, notes := range someKeyboards() {
		k := keyboardOf(slices.Clone(notes)...)
		checkNewNumbers(t, playableIn(notes), func() []int { return impl.PlayableKeys(k) })
		if !slices.Equal(k.Notes, notes) {
			t.Errorf("writing into the keys of %v makes it %v", notes, k)
		}
	}
}

// Where a note is added and where none is, the result is apart from the keyboard and what is behind it.
func TestAddedNotesAreNewMemory(t *testing.T) {
	for _, notes := range slices.Concat(someKeyboards(), shortInvalidKeyboards()) {
		for _, n := range []int{-16, -15, -5, 0, 9, 19, 20, math.MinInt, math.MaxInt} {
			memory := withSpare(notes)
			before := slices.Clone(memory)
			k := impl.Keyboard{Notes: memory[:len(notes)]}
			want, _ := addedIn(notes, n)
			checkNewNumbers(t, want, func() []int {
				added, _ := impl.AddNote(k, n)
				return added.Notes
			})
			if !slices.Equal(memory, before) {
				t.Errorf("writing into AddNote(%v, %d) changes the keyboard to %v", notes, n, memory)
			}
			added, _ := impl.AddNote(k, n)
			overwriteInts(memory)
			if !slices.Equal(added.Notes, want) {
				t.Errorf("writing into %v changes what AddNote returned for %d to %v", notes, n, added)
			}
		}
	}
}

// One pair after the other is written into, with the memory behind it, and the pairs not yet reached stay.
func TestPairsAreNewMemory(t *testing.T) {
	for _, notes := range someKeyboards() {
		want := pairsIn(notes)
		k := keyboardOf(slices.Clone(notes)...)
		first, second := impl.SplitPairs(k), impl.SplitPairs(k)
		if !equalPairs(first, want) || !equalPairs(second, want) {
			t.Fatalf("SplitPairs(%v) = %v and then %v; want %v", notes, first, second, want)
		}
		for i, pair := range first {
			longer := append(pair, 77, 77, 77)
			overwriteInts(pair)
			overwriteInts(longer)
			if !equalPairs(first[i+1:], want[i+1:]) {
				t.Fatalf("writing into the pair %d of %v leaves %v", i, want, first[i+1:])
			}
		}
		for i := len(second) - 1; i >= 0; i-- {
			if !equalPairs(second[:i+1], want[:i+1]) {
				t.Fatalf("before the pair %d of %v is written into, there are %v", i, want, second[:i+1])
			}
			overwriteInts(second[i])
		}
		spare := first[:cap(first)]
		for i := range spare {
			spare[i] = []int{77}
		}
		checkPairs(t, k.Notes, want...)
		if !slices.Equal(k.Notes, notes) {
			t.Errorf("writing into the pairs of %v makes it %v", notes, k)
		}
	}
}

// A map has no order: the answers are asked so often that one which depends on it would change.
func TestAnswersHaveAnOrder(t *testing.T) {
	for _, notes := range knownKeyboards() {
		first := askKeyboard(keyboardOf(notes...))
		for range 50 {
			if !askKeyboard(keyboardOf(notes...)).equal(first) {
				t.Fatalf("the answers for %v change", notes)
			}
		}
	}
}

func TestKeyboardsKeepNothing(t *testing.T) {
	lists := slices.Concat(knownKeyboards(), shortInvalidKeyboards()[:60], neighbourRuns())
	var answers []keyboardAnswers
	for _, notes := range lists {
		answers = append(answers, askKeyboard(keyboardOf(notes...)))
	}
	for i := len(lists) - 1; i >= 0; i-- {
		if !askKeyboard(keyboardOf(lists[i]...)).equal(answers[i]) {
			t.Errorf("later, the answers for %v are others", lists[i])
		}
	}
}

// The same memory is asked again with other notes in it.
func TestKeyboardsFollowTheirNotes(t *testing.T) {
	memory := make([]int, mostKeys)
	for _, notes := range manyKeyboards() {
		k := impl.Keyboard{Notes: memory[:copy(memory, notes)]}
		if !slices.Equal(impl.PlayableKeys(k), playableIn(notes)) || !equalPairs(impl.SplitPairs(k), pairsIn(notes)) {
			t.Errorf("the answers for %v are those of earlier notes in its memory", notes)
		}
	}
}
