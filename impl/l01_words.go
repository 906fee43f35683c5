package impl

import (
	"strconv"
	"strings"
)

const (
	MaxText   = 20000
	MaxNumber = 1000000000
	MaxWords  = 600
	MaxParts  = 12
)

const (
	hexDigits      = "0123456789abcdef"
	firstPrintable = 32
	lastPrintable  = 126
)

func Hex(text string) (string, bool) {
	if len(text) > MaxText {
		return "", false
	}
	digits := make([]byte, 0, 2*len(text))
	for i := 0; i < len(text); i++ {
		digits = append(digits, hexDigits[text[i]>>4], hexDigits[text[i]&15])
	}
	return string(digits), true
}

func Unhex(text string) (string, bool) {
	if len(text) > 2*MaxText || len(text)%2 != 0 {
		return "", false
	}
	decoded := make([]byte, 0, len(text)/2)
	for i := 0; i < len(text); i += 2 {
		high := strings.IndexByte(hexDigits, text[i])
		low := strings.IndexByte(hexDigits, text[i+1])
		if high < 0 || low < 0 {
			return "", false
		}
		decoded = append(decoded, byte(16*high+low))
	}
	return string(decoded), true
}

func Decimal(n int) string { return strconv.Itoa(n) }

func ReadDecimal(text string) (int, bool) { return readUpTo(text, MaxNumber) }

func readUpTo(text string, most int) (int, bool) {
	n, err := strconv.Atoi(text)
	if err != nil || n < 0 || n > most {
		return 0, false
	}
	// Atoi also accepts a plus sign, leading zeros and "-0"; only the text that Decimal writes counts.
	if Decimal(n) != text {
		return 0, false
	}
	return n, true
}

func PartsOf(line string) ([]string, bool) {
	if len(line) > MaxWords {
		return nil, false
	}
	parts := []string{}
	start, at := 0, 0
scan:
	for at < len(line) {
		switch b := line[at]; {
		case b < firstPrintable || b > lastPrintable:
			break scan
		case b == ' ':
			parts = withField(parts, line[start:at])
			start = at + 1
		}
		at++
	}
	if at < len(line) {
		return nil, false
	}
	parts = withField(parts, line[start:])
	if len(parts) > MaxParts {
		return nil, false
	}
	return parts, true
}

// Neighbouring spaces enclose an empty run, which is not a field.
func withField(parts []string, field string) []string {
	if field == "" {
		return parts
	}
	return append(parts, field)
}

func Brought(n int, least int, most int) int {
	// The lower limit is applied last, so that it wins if most is less than least.
	return max(least, min(n, most))
}
