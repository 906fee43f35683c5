package tests

import (
	"fmt"
	"math"
	"slices"
	"strings"
	"testing"

	"loop.example/g00968/impl"
)

func allBytes() string {
	list := make([]byte, 256)
	for i := range list {
		list[i] = byte(i)
	}
	return string(list)
}

func wantHex(t *testing.T, text string, want string) {
	t.Helper()
	if got, ok := impl.Hex(text); got != want || !ok {
		t.Errorf("Hex(%q) = %q, %v; want %q, true", text, got, ok, want)
	}
}

func wantUnhex(t *testing.T, text string, want string) {
	t.Helper()
	if got, ok := impl.Unhex(text); got != want || !ok {
		t.Errorf("Unhex(%q) = %q, %v; want %q, true", text, got, ok, want)
	}
}

func wantNoUnhex(t *testing.T, text string) {
	t.Helper()
	if got, ok := impl.Unhex(text); got != "" || ok {
		t.Errorf("Unhex(%.20q), %d bytes, = %.20q, %v; want \"\", false", text, len(text), got, ok)
	}
}

func wantReadDecimal(t *testing.T, text string, want int) {
	t.Helper()
	if got, ok := impl.ReadDecimal(text); got != want || !ok {
		t.Errorf("ReadDecimal(%q) = %d, %v; want %d, true", text, got, ok, want)
	}
}

func wantNoReadDecimal(t *testing.T, text string) {
	t.Helper()
	if got, ok := impl.ReadDecimal(text); got != 0 || ok {
		t.Errorf("ReadDecimal(%.30q) = %d, %v; want 0, false", text, got, ok)
	}
}

func wantParts(t *testing.T, line string, want ...string) {
	t.Helper()
	if got, ok := impl.PartsOf(line); !slices.Equal(got, want) || !ok {
		t.Errorf("PartsOf(%q) = %q, %v; want %q, true", line, got, ok, want)
	}
}

func wantNoParts(t *testing.T, line string) {
	t.Helper()
	if got, ok := impl.PartsOf(line); len(got) != 0 || ok {
		t.Errorf("PartsOf(%q) = %q, %v; want no fields, false", line, got, ok)
	}
}

func TestWordsLimits(t *testing.T) {
	got := []int{impl.MaxText, impl.MaxNumber, impl.MaxWords, impl.MaxParts}
	if want := []int{20000, 1000000000, 600, 12}; !slices.Equal(got, want) {
		t.Errorf("limits are %v; want %v", got, want)
	}
}

func TestHexAndUnhexOfKnownTexts(t *testing.T) {
	for text, digits := range map[string]string{
		"":                     "",
		"az":                   "617a",
		"AZ":                   "415a",
		"0":                    "30",
		"\x00":                 "00",
		"\x00\x00":             "0000",
		"\x0f\xf0":             "0ff0",
		"\xff":                 "ff",
		"\x01\x23\x45\x67\x89": "0123456789",
		"\xab\xcd\xef":         "abcdef",
		"a b\n":                "6120620a",
		"\u00e9":               "c3a9",
	} {
		wantHex(t, text, digits)
		wantUnhex(t, digits, text)
	}
}

func TestUnhexUndoesHexForEachByte(t *testing.T) {
	for i := range 256 {
		text := string([]byte{byte(i)})
		digits := fmt.Sprintf("%02x", i)
		wantHex(t, text, digits)
		wantUnhex(t, digits, text)
	}
	digits, ok := impl.Hex(allBytes())
	if !ok {
		t.Fatal("Hex rejects the 256 bytes")
	}
	wantUnhex(t, digits, allBytes())
}

func TestHexAtItsLimit(t *testing.T) {
	for _, size := range []int{impl.MaxText - 1, impl.MaxText} {
		text := strings.Repeat(allBytes(), size/256+1)[:size]
		digits, ok := impl.Hex(text)
		if want := fmt.Sprintf("%x", text); digits != want || !ok {
			t.Errorf("Hex of %d bytes: %v, %d digits; want true, %d digits", size, ok, len(digits), len(want))
		}
		if back, ok := impl.Unhex(digits); back != text || !ok {
			t.Errorf("Unhex of %d digits: %v, %d bytes; want true, %d bytes", len(digits), ok, len(back), size)
		}
	}
}

func TestHexBeyondItsLimit(t *testing.T) {
	for _, size := range []int{impl.MaxText + 1, impl.MaxText + 2, 3 * impl.MaxText} {
		digits, ok := impl.Hex(strings.Repeat("a", size))
		if digits != "" || ok {
			t.Errorf("Hex of %d bytes: %v, %d digits; want false, none", size, ok, len(digits))
		}
	}
}

func TestUnhexBeyondItsLimit(t *testing.T) {
	wantNoUnhex(t, strings.Repeat("61", impl.MaxText)+"6")
	wantNoUnhex(t, strings.Repeat("61", impl.MaxText+1))
	wantNoUnhex(t, strings.Repeat("61", 3*impl.MaxText))
}

func TestUnhexOfOddLengths(t *testing.T) {
	for _, text := range []string{"0", "6", "f", "617", "61 ", "617a0", strings.Repeat("0", 2*impl.MaxText-1)} {
		wantNoUnhex(t, text)
	}
}

func TestUnhexOfUppercaseDigits(t *testing.T) {
	for _, text := range []string{"6A", "A6", "FF", "fF", "Ff", "617A", "7A61", "0B", "0C", "0D", "0E", "0F"} {
		wantNoUnhex(t, text)
	}
}

func TestUnhexOfOtherBytes(t *testing.T) {
	for i := range 256 {
		b := string([]byte{byte(i)})
		if strings.Contains("0123456789abcdef", b) {
			continue
		}
		wantNoUnhex(t, b+"0")
		wantNoUnhex(t, "0"+b)
		wantNoUnhex(t, "61"+b+"a7a")
		wantNoUnhex(t, "617"+b)
	}
	for _, text := range []string{"0x61", " 61 ", "61 7a", "61\n7", "-1", "+1", "\u00e9", "\uff10"} {
		wantNoUnhex(t, text)
	}
}

func TestHexUndoesUnhex(t *testing.T) {
	for _, text := range []string{"", "00", "0a", "a0", "617a", "deadbeef", "0000ff"} {
		decoded, ok := impl.Unhex(text)
		if !ok {
			t.Errorf("Unhex rejects %q", text)
		}
		wantHex(t, decoded, text)
	}
}

func TestDecimalOfKnownNumbers(t *testing.T) {
	for n, want := range map[int]string{
		0: "0", 1: "1", 5: "5", 9: "9", 10: "10", 11: "11", 99: "99", 100: "100", 101: "101", 1234567890: "1234567890",
		-1: "-1", -5: "-5", -9: "-9", -10: "-10", -100: "-100", -1234567890: "-1234567890",
		impl.MaxNumber:     "1000000000",
		impl.MaxNumber + 1: "1000000001",
		math.MaxInt:        "9223372036854775807",
		math.MaxInt - 1:    "9223372036854775806",
		math.MinInt:        "-9223372036854775808",
		math.MinInt + 1:    "-9223372036854775807",
	} {
		if got := impl.Decimal(n); got != want {
			t.Errorf("Decimal(%d) = %q; want %q", n, got, want)
		}
	}
}

func TestDecimalAroundPowersOfTen(t *testing.T) {
	for power, digits := 1, 1; digits < 19; power, digits = 10*power, digits+1 {
		for _, n := range []int{power - 1, power, power + 1, -power, -power - 1} {
			if got, want := impl.Decimal(n), fmt.Sprintf("%d", n); got != want {
				t.Errorf("Decimal(%d) = %q; want %q", n, got, want)
			}
		}
	}
}

func TestReadDecimalUndoesDecimal(t *testing.T) {
	for n := range 3000 {
		wantReadDecimal(t, impl.Decimal(n), n)
	}
	for power := 10; power <= impl.MaxNumber; power *= 10 {
		wantReadDecimal(t, impl.Decimal(power-1), power-1)
		wantReadDecimal(t, impl.Decimal(power), power)
		wantReadDecimal(t, impl.Decimal(power/2), power/2)
	}
}

func TestReadDecimalOfKnownTexts(t *testing.T) {
	for text, want := range map[string]int{
		"0": 0, "1": 1, "7": 7, "10": 10, "100": 100, "2026": 2026,
		"123456789": 123456789, "999999999": 999999999, "1000000000": impl.MaxNumber,
	} {
		wantReadDecimal(t, text, want)
	}
}

func TestReadDecimalOfLeadingZeros(t *testing.T) {
	for _, text := range []string{"00", "01", "001", "09", "010", "000", "0000000001", "01000000000", strings.Repeat("0", 5000) + "1"} {
		wantNoReadDecimal(t, text)
	}
}

func TestReadDecimalBeyondItsRange(t *testing.T) {
	for _, text := range []string{
		"1000000001", "1000000010", "1100000000", "9999999999", "10000000000",
		"2147483648", "4294967297", "9223372036854775807", "9223372036854775808",
		"18446744073709551615", "18446744073709551616", "18446744073709551617", strings.Repeat("9", 5000),
	} {
		wantNoReadDecimal(t, text)
	}
}

func TestReadDecimalOfSigns(t *testing.T) {
	for _, text := range []string{"-", "+", "-0", "+0", "-1", "+1", "--1", "-1000000000", "-9223372036854775808", "1-", "1+1"} {
		wantNoReadDecimal(t, text)
	}
}

func TestReadDecimalOfOtherTexts(t *testing.T) {
	for _, text := range []string{"", " ", " 1", "1 ", "1 2", "1\n", "\t1", "1_000", "1,000", "1.0", "1.", ".5", "1e3", "0x1", "0b1", "0o7", "a", "1a", "a1", "\x001", "1\x00", "\uff11", "\u0661", "\xff"} {
		wantNoReadDecimal(t, text)
	}
}

func TestPartsOfOrdinaryLines(t *testing.T) {
	wantParts(t, "next", "next")
	wantParts(t, "a", "a")
	wantParts(t, "place web", "place", "web")
	wantParts(t, "weights 2 1 3", "weights", "2", "1", "3")
	wantParts(t, "b a b", "b", "a", "b")
	wantParts(t, "key=value,other=- #!", "key=value,other=-", "#!")
}

func TestPartsOfIgnoresExtraSpaces(t *testing.T) {
	wantParts(t, " next  1 ", "next", "1")
	wantParts(t, "   a", "a")
	wantParts(t, "a   ", "a")
	wantParts(t, "  a     b c  ", "a", "b", "c")
}

func TestPartsOfLinesWithoutFields(t *testing.T) {
	wantParts(t, "")
	wantParts(t, " ")
	wantParts(t, "     ")
	wantParts(t, strings.Repeat(" ", impl.MaxWords))
}

func TestPartsOfEachByte(t *testing.T) {
	wantParts(t, "a b", "a", "b")
	for i := 33; i <= 126; i++ {
		b := string([]byte{byte(i)})
		wantParts(t, b, b)
		wantParts(t, " x"+b+" "+b, "x"+b, b)
	}
	for i := range 256 {
		if i >= 32 && i <= 126 {
			continue
		}
		b := string([]byte{byte(i)})
		wantNoParts(t, b)
		wantNoParts(t, b+"a b")
		wantNoParts(t, "a"+b+"b")
		wantNoParts(t, "a b"+b)
		wantNoParts(t, "a b "+b+" ")
	}
}

func TestPartsOfOtherLines(t *testing.T) {
	for _, line := range []string{"a\tb", "a\nb", "a\n", "\r", "caf\u00e9", "a\u00a0b", "\x7f", "\x1f", "a \xff\xfe"} {
		wantNoParts(t, line)
	}
}

func TestPartsOfLongLines(t *testing.T) {
	word := strings.Repeat("w", impl.MaxWords)
	wantParts(t, word, word)
	wantParts(t, " "+word[2:]+" ", word[2:])
	wantNoParts(t, word+"w")
	wantNoParts(t, word+" ")
	wantNoParts(t, " "+word)
	wantNoParts(t, strings.Repeat(" ", impl.MaxWords+1))
	wantNoParts(t, strings.Repeat("w", 3*impl.MaxWords))
}

func TestPartsOfManyFields(t *testing.T) {
	fields := strings.Split("a b c d e f g h i j k l", " ")
	if len(fields) != impl.MaxParts {
		t.Fatalf("%d fields; want MaxParts", len(fields))
	}
	wantParts(t, "a b c d e f g h i j k l", fields...)
	wantParts(t, "  a b c  d e f g h i j k l  ", fields...)
	wantParts(t, "a b c d e f g h i j k", fields[:impl.MaxParts-1]...)
	wantNoParts(t, "a b c d e f g h i j k l m")
	wantNoParts(t, "a b c d e f g h i j k l  m ")
	wantNoParts(t, strings.Repeat("a ", impl.MaxWords/2))
}

func TestPartsOfAtSeveralLimits(t *testing.T) {
	wide := strings.Repeat("w", 49)
	line := strings.Repeat(wide+" ", impl.MaxParts)
	if len(line) != impl.MaxWords {
		t.Fatalf("%d bytes; want MaxWords", len(line))
	}
	wantParts(t, line, slices.Repeat([]string{wide}, impl.MaxParts)...)
	wantNoParts(t, line[1:]+"w\x1f")
	wantNoParts(t, line[1:]+"w")
}

func TestPartsOfReturnsNewMemory(t *testing.T) {
	line := "a b c"
	first, _ := impl.PartsOf(line)
	first[0] = "changed"
	wantParts(t, line, "a", "b", "c")
}

func TestBroughtOfKnownNumbers(t *testing.T) {
	for _, c := range []struct{ n, least, most, want int }{
		{3, 1, 5, 3},
		{1, 1, 5, 1},
		{5, 1, 5, 5},
		{0, 1, 5, 1},
		{6, 1, 5, 5},
		{9, 1, 5, 5},
		{-9, 1, 5, 1},
		{-3, -5, -1, -3},
		{0, -5, -1, -1},
		{-6, -5, -1, -5},
		{4, 4, 4, 4},
		{3, 4, 4, 4},
		{5, 4, 4, 4},
		{math.MaxInt, 0, 100, 100},
		{math.MinInt, 0, 100, 0},
		{7, math.MinInt, math.MaxInt, 7},
		{math.MinInt, math.MinInt, math.MaxInt, math.MinInt},
		{math.MaxInt, math.MinInt, math.MaxInt, math.MaxInt},
	} {
		if got := impl.Brought(c.n, c.least, c.most); got != c.want {
			t.Errorf("Brought(%d, %d, %d) = %d; want %d", c.n, c.least, c.most, got, c.want)
		}
	}
}

func TestBroughtWithMostLessThanLeast(t *testing.T) {
	for _, n := range []int{math.MinInt, -10, 0, 1, 2, 3, 4, 5, 6, 10, math.MaxInt} {
		if got := impl.Brought(n, 5, 1); got != 5 {
			t.Errorf("Brought(%d, 5, 1) = %d; want 5", n, got)
		}
		if got := impl.Brought(n, -1, -5); got != -1 {
			t.Errorf("Brought(%d, -1, -5) = %d; want -1", n, got)
		}
		if got := impl.Brought(n, math.MaxInt, math.MinInt); got != math.MaxInt {
			t.Errorf("Brought(%d, MaxInt, MinInt) = %d; want MaxInt", n, got)
		}
	}
}

func TestBroughtStaysWithinTheRange(t *testing.T) {
	for least := -4; least <= 4; least++ {
		for most := least; most <= 4; most++ {
			for n := -6; n <= 6; n++ {
				got := impl.Brought(n, least, most)
				if got < least || got > most {
					t.Errorf("Brought(%d, %d, %d) = %d is outside the range", n, least, most, got)
				}
				if n >= least && n <= most && got != n {
					t.Errorf("Brought(%d, %d, %d) = %d changes a number in the range", n, least, most, got)
				}
			}
		}
	}
}
