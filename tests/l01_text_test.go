package tests

import (
	"math"
	"slices"
	"strconv"
	"strings"
	"testing"

	"loop.example/g00989/impl"
)

// allBytes returns every byte value once, in order.
func allBytes() string {
	b := make([]byte, 256)
	for i := range b {
		b[i] = byte(i)
	}
	return string(b)
}

func checkEncodes(t *testing.T, s, want string) {
	t.Helper()
	if got, ok := impl.EncodeHex(s); !ok || got != want {
		t.Errorf("EncodeHex(%.40q) = %.40q, %v; want %.40q, true", s, got, ok, want)
	}
}

func checkDecodes(t *testing.T, s, want string) {
	t.Helper()
	if got, ok := impl.DecodeHex(s); !ok || got != want {
		t.Errorf("DecodeHex(%.40q) = %.40q, %v; want %.40q, true", s, got, ok, want)
	}
}

func checkDecodeFails(t *testing.T, s string) {
	t.Helper()
	if got, ok := impl.DecodeHex(s); ok || got != "" {
		t.Errorf("DecodeHex(%.40q) of %d bytes = %.40q, %v; want \"\", false", s, len(s), got, ok)
	}
}

func checkParses(t *testing.T, s string, want int) {
	t.Helper()
	if got, ok := impl.ParseUint(s); !ok || got != want {
		t.Errorf("ParseUint(%q) = %d, %v; want %d, true", s, got, ok, want)
	}
}

func checkParseFails(t *testing.T, s string) {
	t.Helper()
	if got, ok := impl.ParseUint(s); ok || got != 0 {
		t.Errorf("ParseUint(%.40q) = %d, %v; want 0, false", s, got, ok)
	}
}

func checkSplits(t *testing.T, line string, want ...string) {
	t.Helper()
	if got, ok := impl.SplitFields(line); !ok || !slices.Equal(got, want) {
		t.Errorf("SplitFields(%.60q) = %.60q, %v; want %.60q, true", line, got, ok, want)
	}
}

func checkSplitFails(t *testing.T, line string) {
	t.Helper()
	if got, ok := impl.SplitFields(line); ok || got != nil {
		t.Errorf("SplitFields(%.60q) of %d bytes = %.60q, %v; want nil, false", line, len(line), got, ok)
	}
}

func TestLimitsOfText(t *testing.T) {
	if impl.MaxInputLen != 20000 || impl.MaxUint != 1000000000 || impl.MaxLineLen != 600 || impl.MaxFieldsPerLine != 24 {
		t.Error("a limit of chapter 1 differs from the document")
	}
}

func TestEncodeHex(t *testing.T) {
	checkEncodes(t, "az", "617a")
	checkEncodes(t, "", "")
	checkEncodes(t, "\x00", "00")
	checkEncodes(t, "\x0f\xf0", "0ff0")
	checkEncodes(t, "\xff\xab\xcd", "ffabcd")
	checkEncodes(t, "é", "c3a9")
}

func TestEncodeHexLimit(t *testing.T) {
	checkEncodes(t, strings.Repeat("z", 20000), strings.Repeat("7a", 20000))
	if got, ok := impl.EncodeHex(strings.Repeat("z", 20001)); ok || got != "" {
		t.Errorf("EncodeHex of 20001 bytes = %.40q, %v; want \"\", false", got, ok)
	}
}

func TestDecodeHex(t *testing.T) {
	checkDecodes(t, "617a", "az")
	checkDecodes(t, "", "")
	checkDecodes(t, "00", "\x00")
	checkDecodes(t, "0ff0", "\x0f\xf0")
	checkDecodes(t, "0123456789abcdef", "\x01\x23\x45\x67\x89\xab\xcd\xef")
}

func TestDecodeHexLimit(t *testing.T) {
	checkDecodes(t, strings.Repeat("7a", 20000), strings.Repeat("z", 20000))
	checkDecodeFails(t, strings.Repeat("7a", 20000)+"7")
	checkDecodeFails(t, strings.Repeat("7a", 20001))
	checkDecodeFails(t, strings.Repeat("0", 40002))
}

func TestDecodeHexInvalid(t *testing.T) {
	for _, s := range []string{"6", "617", "A0", "0A", "aF", "g0", "0g", " 0", "0 ", "61 7a", "0x", "-1", "+1", "é", "617a7", "617z"} {
		checkDecodeFails(t, s)
	}
}

// Both places of a pair are tried with every byte: only 0-9 and a-f are digits.
func TestDecodeHexEveryByte(t *testing.T) {
	for _, b := range []byte(allBytes()) {
		first, second := string([]byte{b, '0'}), string([]byte{'0', b})
		value := strings.IndexByte("0123456789abcdef", b)
		if value < 0 {
			checkDecodeFails(t, first)
			checkDecodeFails(t, second)
			continue
		}
		checkDecodes(t, first, string([]byte{byte(16 * value)}))
		checkDecodes(t, second, string([]byte{byte(value)}))
	}
}

func TestHexRoundTrip(t *testing.T) {
	for _, s := range []string{"", "a", "tune 1 2", "\x00\x00", "\n\xff", "Klavier ♭", allBytes(), strings.Repeat("\x80", 20000)} {
		text, ok := impl.EncodeHex(s)
		if !ok || len(text) != 2*len(s) || text != strings.ToLower(text) {
			t.Errorf("EncodeHex(%.40q) = %.40q, %v", s, text, ok)
		}
		checkDecodes(t, text, s)
	}
}

func TestFormatInt(t *testing.T) {
	cases := []struct {
		n    int
		want string
	}{
		{0, "0"}, {1, "1"}, {9, "9"}, {10, "10"}, {105, "105"}, {1000000000, "1000000000"},
		{-1, "-1"}, {-5, "-5"}, {-10, "-10"}, {-1200, "-1200"},
		{math.MaxInt, "9223372036854775807"},
		{math.MinInt, "-9223372036854775808"},
		{math.MinInt + 1, "-9223372036854775807"},
	}
	for _, c := range cases {
		if got := impl.FormatInt(c.n); got != c.want {
			t.Errorf("FormatInt(%d) = %q; want %q", c.n, got, c.want)
		}
	}
}

func TestParseUint(t *testing.T) {
	checkParses(t, "0", 0)
	checkParses(t, "1", 1)
	checkParses(t, "9", 9)
	checkParses(t, "10", 10)
	checkParses(t, "440", 440)
	checkParses(t, "999999999", 999999999)
	checkParses(t, "1000000000", 1000000000)
}

func TestParseUintLeadingZeros(t *testing.T) {
	for _, s := range []string{"01", "00", "000", "010", "0440", "01000000000", "0000000001"} {
		checkParseFails(t, s)
	}
}

func TestParseUintTooLarge(t *testing.T) {
	for _, s := range []string{
		"1000000001", "1000000010", "2000000000", "9999999999", "10000000000",
		"9223372036854775807", "9223372036854775808",
		"18446744073709551616", "18446744073709551617", // 0 and 1 if the number wrapped around
		"1" + strings.Repeat("0", 64), strings.Repeat("9", 30000),
	} {
		checkParseFails(t, s)
	}
}

func TestParseUintInvalid(t *testing.T) {
	for _, s := range []string{
		"", " ", "-", "+", "-0", "-1", "+0", "+1", " 1", "1 ", "1 2", "1_000", "1,000", "1.0", "1e3",
		"0x10", "0b1", "a", "1a", "/", ":", "1/", "1:", "1\n", "\x001", "١", "１",
	} {
		checkParseFails(t, s)
	}
}

func TestNumberRoundTrip(t *testing.T) {
	try := func(n int) {
		text := impl.FormatInt(n)
		if text != strconv.Itoa(n) {
			t.Errorf("FormatInt(%d) = %q", n, text)
		}
		if n >= 0 && n <= 1000000000 {
			checkParses(t, text, n)
		} else {
			checkParseFails(t, text)
		}
	}
	for n := -1100; n <= 1100; n++ {
		try(n)
	}
	for power := 1; power <= 1000000000000000000 && power > 0; power *= 10 {
		for d := -1; d <= 1; d++ {
			try(power + d)
			try(-power + d)
		}
	}
}

func TestSplitFields(t *testing.T) {
	checkSplits(t, " tune  1 ", "tune", "1")
	checkSplits(t, "tune", "tune")
	checkSplits(t, "a b c", "a", "b", "c")
	checkSplits(t, "knock 3 -12 01", "knock", "3", "-12", "01")
	checkSplits(t, "   a", "a")
	checkSplits(t, "a   ", "a")
	checkSplits(t, "a     b", "a", "b")
	checkSplits(t, "  same  same  ", "same", "same")
	checkSplits(t, "! ~", "!", "~")
}

func TestSplitFieldsWithoutFields(t *testing.T) {
	checkSplits(t, "")
	checkSplits(t, " ")
	checkSplits(t, "      ")
	checkSplits(t, strings.Repeat(" ", 600))
}

func TestSplitFieldsLineLength(t *testing.T) {
	checkSplits(t, strings.Repeat("x", 600), strings.Repeat("x", 600))
	checkSplits(t, "a"+strings.Repeat(" ", 598)+"b", "a", "b")
	checkSplitFails(t, strings.Repeat("x", 601))
	checkSplitFails(t, strings.Repeat(" ", 601))
	checkSplitFails(t, "a"+strings.Repeat(" ", 600))
}

func TestSplitFieldsCount(t *testing.T) {
	var want []string
	for i := range 24 {
		want = append(want, strconv.Itoa(i))
	}
	full := strings.Join(want, " ")
	checkSplits(t, full, want...)
	checkSplits(t, "  "+strings.Join(want, "   ")+"  ", want...)
	checkSplitFails(t, full+" 24")
	checkSplitFails(t, " "+full+"  24 ")
	checkSplitFails(t, strings.Repeat("x ", 300))
}

// Each byte is tried at the start, inside, at the end and alone: only 32 to 126 are valid.
func TestSplitFieldsEveryByte(t *testing.T) {
	for _, b := range []byte(allBytes()) {
		c := string([]byte{b})
		lines := []string{c, c + "ab", "a" + c + "b", "ab" + c, "a " + c + " b", c + strings.Repeat("x", 599), strings.Repeat("x", 599) + c}
		for _, line := range lines {
			if b < 32 || b > 126 {
				checkSplitFails(t, line)
			} else {
				checkSplits(t, line, strings.FieldsFunc(line, func(r rune) bool { return r == ' ' })...)
			}
		}
	}
}

func TestSplitFieldsInvalidText(t *testing.T) {
	for _, line := range []string{"a\tb", "a\nb", "a b\r", "caf\xe9", "é", "a b c \x7f", "\x1f", "\x80"} {
		checkSplitFails(t, line)
	}
}

// A second call must not change what the first one returned.
func TestSplitFieldsResultsAreSeparate(t *testing.T) {
	first, _ := impl.SplitFields("a b c")
	second, _ := impl.SplitFields("a b c")
	first[0] = "changed"
	_ = append(first[:1], "changed")
	if !slices.Equal(second, []string{"a", "b", "c"}) {
		t.Errorf("a second result was changed: %q", second)
	}
}

func TestClamp(t *testing.T) {
	cases := []struct{ n, low, high, want int }{
		{0, 1, 5, 1}, {-9, 1, 5, 1}, {1, 1, 5, 1}, {2, 1, 5, 2}, {4, 1, 5, 4}, {5, 1, 5, 5}, {6, 1, 5, 5}, {9, 1, 5, 5},
		{-3, -5, -1, -3}, {-7, -5, -1, -5}, {0, -5, -1, -1},
		{3, 4, 4, 4}, {4, 4, 4, 4}, {5, 4, 4, 4},
		{0, 5, 1, 5}, {3, 5, 1, 5}, {9, 5, 1, 5}, {1, 5, 1, 5}, {5, 5, 1, 5},
		{math.MinInt, math.MinInt, math.MaxInt, math.MinInt},
		{math.MaxInt, math.MinInt, math.MaxInt, math.MaxInt},
		{math.MinInt, 0, 1, 0}, {math.MaxInt, 0, 1, 1},
		{0, math.MaxInt, math.MinInt, math.MaxInt},
	}
	for _, c := range cases {
		if got := impl.Clamp(c.n, c.low, c.high); got != c.want {
			t.Errorf("Clamp(%d, %d, %d) = %d; want %d", c.n, c.low, c.high, got, c.want)
		}
	}
}

func TestClampIsInRange(t *testing.T) {
	for low := -4; low <= 4; low++ {
		for high := low; high <= 4; high++ {
			for n := -6; n <= 6; n++ {
				got := impl.Clamp(n, low, high)
				if got < low || got > high || n >= low && n <= high && got != n {
					t.Errorf("Clamp(%d, %d, %d) = %d", n, low, high, got)
				}
			}
		}
	}
}
