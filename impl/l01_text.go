package impl

import "strconv"

const (
	MaxInputLen      = 20000
	MaxUint          = 1000000000
	MaxLineLen       = 600
	MaxFieldsPerLine = 24
)

const hexDigits = "0123456789abcdef"

func EncodeHex(s string) (string, bool) {
	if len(s) > MaxInputLen {
		return "", false
	}
	text := make([]byte, 0, 2*len(s))
	for i := 0; i < len(s); i++ {
		text = append(text, hexDigits[s[i]/16], hexDigits[s[i]%16])
	}
	return string(text), true
}

func DecodeHex(s string) (string, bool) {
	if len(s)%2 != 0 || len(s) > 2*MaxInputLen {
		return "", false
	}
	decoded := make([]byte, 0, len(s)/2)
	for i := 0; i < len(s); i += 2 {
		high, highOk := hexValue(s[i])
		low, lowOk := hexValue(s[i+1])
		if !highOk || !lowOk {
			return "", false
		}
		decoded = append(decoded, high*16+low)
	}
	return string(decoded), true
}

func hexValue(digit byte) (byte, bool) {
	switch {
	case '0' <= digit && digit <= '9':
		return digit - '0', true
	case 'a' <= digit && digit <= 'f':
		return digit - 'a' + 10, true
	}
	return 0, false
}

func FormatInt(n int) string { return strconv.Itoa(n) }

func ParseUint(s string) (int, bool) {
	if s == "" || len(s) > 1 && s[0] == '0' {
		return 0, false
	}
	n := 0
	for i := 0; i < len(s); i++ {
		if s[i] < '0' || s[i] > '9' {
			return 0, false
		}
		n = n*10 + int(s[i]-'0')
		// Checked at every digit, so that n cannot overflow however long s is.
		if n > MaxUint {
			return 0, false
		}
	}
	return n, true
}

func SplitFields(line string) ([]string, bool) {
	if len(line) > MaxLineLen {
		return nil, false
	}
	var fields []string
	start, end := 0, 0
scan:
	for end < len(line) {
		switch c := line[end]; {
		case c < ' ' || c > '~':
			break scan
		case c == ' ':
			fields = appendField(fields, line[start:end])
			start = end + 1
		}
		end++
	}
	if end < len(line) {
		return nil, false
	}
	fields = appendField(fields, line[start:])
	if len(fields) > MaxFieldsPerLine {
		return nil, false
	}
	return fields, true
}

// appendField skips the empty runs that leading, trailing and repeated spaces leave.
func appendField(fields []string, field string) []string {
	if field == "" {
		return fields
	}
	return append(fields, field)
}

func Clamp(n int, low int, high int) int {
	switch {
	case n < low || high < low:
		return low
	case n > high:
		return high
	}
	return n
}
