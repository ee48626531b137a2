package tests

import (
	"slices"
	"strings"
	"testing"

	"loop.example/g00989/impl"
)

const lowestNumber = -15

// namesInFifths are all the names, from that of the number -15 to that of 19.
func namesInFifths() []string {
	return []string{
		"Fbb", "Cbb", "Gbb", "Dbb", "Abb", "Ebb", "Bbb",
		"Fb", "Cb", "Gb", "Db", "Ab", "Eb", "Bb",
		"F", "C", "G", "D", "A", "E", "B",
		"F#", "C#", "G#", "D#", "A#", "E#", "B#",
		"F##", "C##", "G##", "D##", "A##", "E##", "B##",
	}
}

// numberOf has no other way to a number than the list of all the names.
func numberOf(name string) (int, bool) {
	i := slices.Index(namesInFifths(), name)
	if i < 0 {
		return 0, false
	}
	return lowestNumber + i, true
}

func letterIn(name string) int { return strings.IndexByte("CDEFGAB", name[0]) }

func accidentalIn(name string) int {
	return strings.Count(name[1:], "#") - strings.Count(name[1:], "b")
}

// keyOf counts half tones from C, as the keys of a piano are counted.
func keyOf(name string) int {
	halfTones := []int{0, 2, 4, 5, 7, 9, 11}
	return (halfTones[letterIn(name)] + accidentalIn(name) + 12) % 12
}

func numbersWithoutNames() []int {
	numbers := append(extremeInts(), -100, -31, -30, -29, -28, -27, 31, 32, 33, 34, 100)
	for n := 1; n <= 12; n++ {
		numbers = append(numbers, -15-n, 19+n)
	}
	return numbers
}

func checkName(t *testing.T, n int, want string) {
	t.Helper()
	if got := impl.NoteName(n); got != want {
		t.Errorf("NoteName(%d) = %q; want %q", n, got, want)
	}
}

func checkNumber(t *testing.T, s string, want int, wantOk bool) {
	t.Helper()
	if got, ok := impl.NoteNumber(s); got != want || ok != wantOk {
		t.Errorf("NoteNumber(%q) = %d, %v; want %d, %v", s, got, ok, want, wantOk)
	}
}

func checkNoNumber(t *testing.T, s string) {
	t.Helper()
	checkNumber(t, s, 0, false)
}

// checkNote reads the name back too.
func checkNote(t *testing.T, n int, name string, letter, accidental int) {
	t.Helper()
	checkName(t, n, name)
	checkNumber(t, name, n, true)
	if got := impl.LetterOf(n); got != letter {
		t.Errorf("LetterOf(%d) = %d; want %d", n, got, letter)
	}
	if got := impl.AccidentalOf(n); got != accidental {
		t.Errorf("AccidentalOf(%d) = %d; want %d", n, got, accidental)
	}
}

func checkStepsUp(t *testing.T, a, b, want int) {
	t.Helper()
	if got := impl.StepsUp(a, b); got != want {
		t.Errorf("StepsUp(%d, %d) = %d; want %d", a, b, got, want)
	}
}

func checkEnharmonic(t *testing.T, a, b int, want bool) {
	t.Helper()
	if impl.AreEnharmonic(a, b) != want || impl.AreEnharmonic(b, a) != want {
		t.Errorf("AreEnharmonic of %d and %d is not %v in both orders", a, b, want)
	}
}

func TestNotesWithoutAccidentals(t *testing.T) {
	checkNote(t, -1, "F", 3, 0)
	checkNote(t, 0, "C", 0, 0)
	checkNote(t, 1, "G", 4, 0)
	checkNote(t, 2, "D", 1, 0)
	checkNote(t, 3, "A", 5, 0)
	checkNote(t, 4, "E", 2, 0)
	checkNote(t, 5, "B", 6, 0)
}

func TestSharpsAndFlats(t *testing.T) {
	checkNote(t, 6, "F#", 3, 1)
	checkNote(t, 7, "C#", 0, 1)
	checkNote(t, 8, "G#", 4, 1)
	checkNote(t, 12, "B#", 6, 1)
	checkNote(t, -2, "Bb", 6, -1)
	checkNote(t, -3, "Eb", 2, -1)
	checkNote(t, -7, "Cb", 0, -1)
	checkNote(t, -8, "Fb", 3, -1)
}

func TestDoubleFlats(t *testing.T) {
	checkNote(t, -15, "Fbb", 3, -2)
	checkNote(t, -14, "Cbb", 0, -2)
	checkNote(t, -13, "Gbb", 4, -2)
	checkNote(t, -12, "Dbb", 1, -2)
	checkNote(t, -11, "Abb", 5, -2)
	checkNote(t, -10, "Ebb", 2, -2)
	// The letter B in upper case and its flats.
	checkNote(t, -9, "Bbb", 6, -2)
}

func TestDoubleSharps(t *testing.T) {
	checkNote(t, 13, "F##", 3, 2)
	checkNote(t, 14, "C##", 0, 2)
	checkNote(t, 15, "G##", 4, 2)
	checkNote(t, 16, "D##", 1, 2)
	checkNote(t, 17, "A##", 5, 2)
	checkNote(t, 18, "E##", 2, 2)
	checkNote(t, 19, "B##", 6, 2)
}

func TestEveryNote(t *testing.T) {
	names := namesInFifths()
	if len(names) != 35 {
		t.Fatalf("there are %d names", len(names))
	}
	for i, name := range names {
		checkNote(t, lowestNumber+i, name, letterIn(name), accidentalIn(name))
	}
}

func TestFirstAndLastNotesOfEveryLetter(t *testing.T) {
	for i, letter := range []string{"F", "C", "G", "D", "A", "E", "B"} {
		checkNumber(t, letter+"bb", -15+i, true)
		checkNumber(t, letter+"##", 13+i, true)
		checkNoNumber(t, letter+"bbb")
		checkNoNumber(t, letter+"###")
	}
}

func TestSevenFifthsUpIsOneSharpMore(t *testing.T) {
	for n := -15; n <= 12; n++ {
		if impl.LetterOf(n+7) != impl.LetterOf(n) {
			t.Errorf("the letters of %d and %d are not the same", n, n+7)
		}
		if impl.AccidentalOf(n+7) != impl.AccidentalOf(n)+1 {
			t.Errorf("%d has not one sharp more, or one flat less, than %d", n+7, n)
		}
		checkStepsUp(t, n, n+7, 0)
		low, high := impl.NoteName(n), impl.NoteName(n+7)
		if high != low+"#" && low != high+"b" {
			t.Errorf("seven fifths above %s is %s", low, high)
		}
	}
}

func TestNamesAreDifferent(t *testing.T) {
	numbers := map[string]int{}
	for n := -15; n <= 19; n++ {
		name := impl.NoteName(n)
		if before, ok := numbers[name]; ok {
			t.Errorf("%d and %d are both %q", before, n, name)
		}
		numbers[name] = n
	}
}

func TestNumbersWithoutNames(t *testing.T) {
	for _, n := range numbersWithoutNames() {
		checkName(t, n, "")
		if got := impl.LetterOf(n); got != -1 {
			t.Errorf("LetterOf(%d) = %d", n, got)
		}
		if got := impl.AccidentalOf(n); got != 0 {
			t.Errorf("AccidentalOf(%d) = %d", n, got)
		}
	}
}

func TestNoteNumberInvalid(t *testing.T) {
	invalid := []string{
		"", "c", "d", "e", "f", "g", "a", "b", "h", "H", "#", "##", "bb", "bbb", "X", "Z",
		"C#b", "Cb#", "B#b", "Bb#", "Bbb#", "C##b", "C#b#",
		"Fbbb", "Cbbb", "Bbbb", "B###", "C###", "F###", "Bbbbb", "C####",
		"bC", "#C", "#C#", "CB", "BB", "CbB", "CC", "CD", "C#D", "cb", "c#", "fbb", "b##",
		"H#", "Hb", "As", "Es", "Fis", "C♯", "C♭", "Cx", "C𝄫", "Ｃ", "C0", "0", "-15", "19",
		"C C", "C #", "C# #", "\x00", "\xff", "C\xff",
	}
	for _, s := range invalid {
		checkNoNumber(t, s)
	}
	for _, accidental := range []string{"#", "b"} {
		for _, count := range []int{3, 4, 7, 300, 100000} {
			checkNoNumber(t, "C"+strings.Repeat(accidental, count))
			checkNoNumber(t, strings.Repeat(accidental, count))
		}
	}
	checkNoNumber(t, strings.Join(namesInFifths(), " "))
}

// A byte before or behind a name makes just those names that are in the list.
func TestNamesWithAnotherByte(t *testing.T) {
	for _, name := range namesInFifths() {
		for c := range 256 {
			other := string([]byte{byte(c)})
			before, behind := other+name, name+other
			n, ok := numberOf(before)
			checkNumber(t, before, n, ok)
			n, ok = numberOf(behind)
			checkNumber(t, behind, n, ok)
			if c == ' ' || c == 0 || c == '\n' || c == '\t' {
				checkNoNumber(t, before)
				checkNoNumber(t, behind)
			}
		}
	}
}

func TestNamesInLowerCase(t *testing.T) {
	for _, name := range namesInFifths() {
		checkNoNumber(t, strings.ToLower(name))
		if strings.Contains(name, "b") {
			checkNoNumber(t, strings.ToUpper(name))
		}
	}
}

func TestEveryShortString(t *testing.T) {
	found := 0
	check := func(s string) {
		n, ok := numberOf(s)
		checkNumber(t, s, n, ok)
		if ok {
			found++
		}
	}
	for first := range 256 {
		check(string([]byte{byte(first)}))
		for second := range 256 {
			check(string([]byte{byte(first), byte(second)}))
		}
	}
	const signs = "ABCDEFGHabcdefgh#x 0\x00"
	for i := range len(signs) {
		for j := range len(signs) {
			for k := range len(signs) {
				check(string([]byte{signs[i], signs[j], signs[k]}))
			}
		}
	}
	if found != 35 {
		t.Errorf("%d strings are names", found)
	}
}

func TestStepsUp(t *testing.T) {
	checkStepsUp(t, 0, 1, 4)
	checkStepsUp(t, 1, 0, 3)
	checkStepsUp(t, 0, 2, 1)
	checkStepsUp(t, 0, -1, 3)
	checkStepsUp(t, -1, 5, 3)
	checkStepsUp(t, 3, 0, 2)
	// Accidentals do not count.
	checkStepsUp(t, 7, -5, 1)
	checkStepsUp(t, 14, -12, 1)
	checkStepsUp(t, -14, 16, 1)
	checkStepsUp(t, 19, -15, 4)
	checkStepsUp(t, -15, 19, 3)
}

func TestStepsUpToTheLetterAbove(t *testing.T) {
	// From B to C, and with accidentals.
	checkStepsUp(t, 5, 0, 1)
	checkStepsUp(t, 12, 0, 1)
	checkStepsUp(t, 19, -14, 1)
	checkStepsUp(t, -9, 14, 1)
	checkStepsUp(t, 4, -1, 1)
}

func TestStepsUpToTheLetterBelow(t *testing.T) {
	letters := []int{0, 2, 4, -1, 1, 3, 5}
	for i, n := range letters {
		above := letters[(i+1)%7]
		checkStepsUp(t, above, n, 6)
		checkStepsUp(t, n, above, 1)
	}
	checkStepsUp(t, 0, 5, 6)
	checkStepsUp(t, -14, 19, 6)
	checkStepsUp(t, 14, -9, 6)
}

func TestStepsUpToItself(t *testing.T) {
	for n := -15; n <= 19; n++ {
		checkStepsUp(t, n, n, 0)
	}
}

func TestStepsUpBetweenAllPairs(t *testing.T) {
	for i, a := range namesInFifths() {
		for j, b := range namesInFifths() {
			want := 0
			for (letterIn(a)+want)%7 != letterIn(b) {
				want++
			}
			checkStepsUp(t, lowestNumber+i, lowestNumber+j, want)
		}
	}
}

func TestStepsUpInvalid(t *testing.T) {
	for _, bad := range numbersWithoutNames() {
		for n := -15; n <= 19; n++ {
			checkStepsUp(t, bad, n, -1)
			checkStepsUp(t, n, bad, -1)
		}
		for _, other := range numbersWithoutNames() {
			checkStepsUp(t, bad, other, -1)
		}
	}
}

func TestAreEnharmonic(t *testing.T) {
	checkEnharmonic(t, 8, -4, true)
	checkEnharmonic(t, 6, -6, true)
	checkEnharmonic(t, 12, 0, true)
	checkEnharmonic(t, -12, 0, true)
	checkEnharmonic(t, 0, 1, false)
	checkEnharmonic(t, 0, 7, false)
	checkEnharmonic(t, -2, 2, false)
	checkEnharmonic(t, 0, 6, false)
	checkEnharmonic(t, 6, 12, false)
	checkEnharmonic(t, -15, 19, false)
	// 24 fifths apart, and one more or less.
	checkEnharmonic(t, -12, 12, true)
	checkEnharmonic(t, -15, 9, true)
	checkEnharmonic(t, -5, 19, true)
	checkEnharmonic(t, -15, 10, false)
	checkEnharmonic(t, -15, 8, false)
	checkEnharmonic(t, -6, 19, false)
}

func TestEnharmonicPairsAreOneKey(t *testing.T) {
	pairs := 0
	for i, a := range namesInFifths() {
		for j, b := range namesInFifths() {
			same := keyOf(a) == keyOf(b)
			checkEnharmonic(t, lowestNumber+i, lowestNumber+j, same)
			if same {
				pairs++
			}
		}
	}
	// 35 of a note with itself, 23 and 11 that are 12 and 24 fifths apart, in both orders.
	if pairs != 35+2*23+2*11 {
		t.Errorf("there are %d enharmonic pairs", pairs)
	}
}

func TestAreEnharmonicInvalid(t *testing.T) {
	checkEnharmonic(t, -16, -4, false)
	checkEnharmonic(t, -16, 8, false)
	checkEnharmonic(t, 20, 8, false)
	checkEnharmonic(t, 20, -4, false)
	checkEnharmonic(t, -16, 20, false)
	for _, bad := range numbersWithoutNames() {
		checkEnharmonic(t, bad, bad, false)
		for n := -15; n <= 19; n++ {
			checkEnharmonic(t, bad, n, false)
		}
		for _, other := range numbersWithoutNames() {
			checkEnharmonic(t, bad, other, false)
		}
	}
}

// Every key has three names, but for one that has two.
func TestNamesOfEveryKey(t *testing.T) {
	for n := 0; n < 12; n++ {
		count := 0
		for other := -15; other <= 19; other++ {
			if impl.AreEnharmonic(n, other) {
				count++
			}
		}
		want := 3
		if n == 8 {
			want = 2
		}
		if count != want {
			t.Errorf("%s has %d names; want %d", impl.NoteName(n), count, want)
		}
	}
}
