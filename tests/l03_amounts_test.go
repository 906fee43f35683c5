package tests

import (
	"fmt"
	"math"
	"math/big"
	"slices"
	"strings"
	"testing"

	"loop.example/g00968/impl"
)

type suffixCase struct {
	suffix string
	unit   int
	// most is the number of units in the largest quantity with this suffix, and normal the canonical text of that quantity.
	most   int
	normal string
}

func suffixCases() []suffixCase {
	return []suffixCase{
		{"", 1000, 9223372036854775, "9223372036854775"},
		{"m", 1, 9223372036854775807, "9223372036854775807m"},
		{"k", 1000000, 9223372036854, "9223372036854000"},
		{"M", 1000000000, 9223372036, "9223372036000000"},
		{"G", 1000000000000, 9223372, "9007199218750Ki"},
		{"T", 1000000000000000, 9223, "9006835937500Ki"},
		{"Ki", 1024000, 9007199254740, "9007199254740Ki"},
		{"Mi", 1048576000, 8796093022, "8796093022Mi"},
		{"Gi", 1073741824000, 8589934, "8589934Gi"},
		{"Ti", 1099511627776000, 8388, "8388Ti"},
	}
}

// amountCases maps amounts to their canonical texts.
func amountCases() map[int]string {
	const whole = 1000
	return map[int]string{
		0:     "0",
		1:     "1m",
		500:   "500m",
		999:   "999m",
		1000:  "1",
		1001:  "1001m",
		1024:  "1024m",
		1500:  "1500m",
		2000:  "2",
		10000: "10",

		1000 * whole: "1000",
		1023 * whole: "1023",
		1024 * whole: "1Ki",
		1025 * whole: "1025",
		1536 * whole: "1536",
		2048 * whole: "2Ki",

		1024*whole + 1:  "1024001m",
		1024*whole - 24: "1023976m",
		1048576:         "1048576m",

		1000000 * whole:    "1000000",
		1000000000 * whole: "1000000000",
		2000000000 * whole: "1953125Ki",

		1 << 20 * whole:           "1Mi",
		1<<20*whole + 1024*whole:  "1025Ki",
		3 << 20 * whole:           "3Mi",
		1 << 30 * whole:           "1Gi",
		1<<30*whole + 1<<20*whole: "1025Mi",
		5 << 30 * whole:           "5Gi",
		1 << 40 * whole:           "1Ti",
		1<<40*whole + 1<<30*whole: "1025Gi",
		7 << 40 * whole:           "7Ti",
		1023 << 40 * whole:        "1023Ti",
		1 << 50 * whole:           "1024Ti",
		1<<50*whole + 1<<40*whole: "1025Ti",
		2 << 50 * whole:           "2048Ti",
		8 << 50 * whole:           "8192Ti",
		8388 << 40 * whole:        "8388Ti",
		9223372036854775 * whole:  "9223372036854775",
		math.MaxInt:               "9223372036854775807m",
		math.MaxInt - 1:           "9223372036854775806m",
		math.MaxInt - 806:         "9223372036854775001m",
		9223372036854000 * whole:  "9223372036854000",
	}
}

// edgeAmounts are quantities beside multiples of the units and beside the powers of two.
func edgeAmounts() []int {
	list := []int{}
	for _, n := range edgeInts() {
		if n >= 0 {
			list = append(list, n)
		}
	}
	for _, c := range suffixCases() {
		for _, count := range []int{1, 2, 3, 5, 1000, 1023, 1024, 1025, 8388, c.most - 1, c.most} {
			if count <= c.most {
				list = append(list, count*c.unit-1, count*c.unit, count*c.unit/1000*1000)
			}
		}
	}
	return list
}

func wantUnit(t *testing.T, suffix string, want int) {
	t.Helper()
	if got, ok := impl.UnitOf(suffix); got != want || !ok {
		t.Errorf("UnitOf(%q) = %d, %v; want %d, true", suffix, got, ok, want)
	}
}

func wantSplit(t *testing.T, text string, digits string, rest string) {
	t.Helper()
	if gotDigits, gotRest := impl.SplitAmount(text); gotDigits != digits || gotRest != rest {
		t.Errorf("SplitAmount(%q) = %q, %q; want %q, %q", text, gotDigits, gotRest, digits, rest)
	}
}

func wantAmount(t *testing.T, text string, want int) {
	t.Helper()
	if got, code := impl.ReadAmount(text); got != want || code != 0 {
		t.Errorf("ReadAmount(%q) = %d, %d; want %d, 0", text, got, code, want)
	}
}

// wantNoAmount checks all the functions that read a quantity, because each of them passes the code on or rejects the text.
func wantNoAmount(t *testing.T, text string, want int) {
	t.Helper()
	if got, code := impl.ReadAmount(text); got != 0 || code != want {
		t.Errorf("ReadAmount(%q) = %d, %d; want 0, %d", text, got, code, want)
	}
	if got, code := impl.NormalAmount(text); got != "" || code != want {
		t.Errorf("NormalAmount(%q) = %q, %d; want \"\", %d", text, got, code, want)
	}
	wantNoComparison(t, text, "1")
	wantNoComparison(t, "1", text)
	wantNoComparison(t, text, text)
}

func wantAmountText(t *testing.T, n int, want string) {
	t.Helper()
	if got := impl.AmountText(n); got != want {
		t.Errorf("AmountText(%d) = %q; want %q", n, got, want)
	}
}

func wantNormal(t *testing.T, text string, want string) {
	t.Helper()
	if got, code := impl.NormalAmount(text); got != want || code != 0 {
		t.Errorf("NormalAmount(%q) = %q, %d; want %q, 0", text, got, code, want)
	}
}

func wantComparison(t *testing.T, a string, b string, want int) {
	t.Helper()
	if got, ok := impl.CompareAmounts(a, b); got != want || !ok {
		t.Errorf("CompareAmounts(%q, %q) = %d, %v; want %d, true", a, b, got, ok, want)
	}
	if got, ok := impl.CompareAmounts(b, a); got != -want || !ok {
		t.Errorf("CompareAmounts(%q, %q) = %d, %v; want %d, true", b, a, got, ok, -want)
	}
}

func wantNoComparison(t *testing.T, a string, b string) {
	t.Helper()
	if got, ok := impl.CompareAmounts(a, b); got != 0 || ok {
		t.Errorf("CompareAmounts(%q, %q) = %d, %v; want 0, false", a, b, got, ok)
	}
}

func unknownSuffixes() []string {
	return []string{
		" ", "  ", "K", "g", "t", "mi", "ki", "KI", "kI", "gi", "ti", "TI", "i", "mm", "kk", "km", "kM", "KiKi", "Kii", "iK",
		"P", "Pi", "E", "Ei", "n", "u", "\u00b5", "B", "kB", "KiB", "Kib", " m", "m ", " Ki", "Ki ", "K i", "\nm", "m\n", "m\x00", "\x00",
		".", ".5", ".5m", ".0", ",5", "_0", "e3", "E3", "e+3", "x1", "-", "+", "-m", "m1", "m0", "Ki1", "Mi5", "k1k", "%", "\u00e9", "\uff4d", "\xff",
	}
}

func TestAmountCodes(t *testing.T) {
	if impl.QtForm != 1 || impl.QtRange != 2 {
		t.Errorf("QtForm and QtRange are %d and %d; want 1 and 2", impl.QtForm, impl.QtRange)
	}
}

func TestSuffixesInOrder(t *testing.T) {
	want := []string{"", "m", "k", "M", "G", "T", "Ki", "Mi", "Gi", "Ti"}
	if got := impl.Suffixes(); !slices.Equal(got, want) {
		t.Errorf("Suffixes() = %q; want %q", got, want)
	}
}

func TestSuffixesReturnsNewMemory(t *testing.T) {
	want := []string{"", "m", "k", "M", "G", "T", "Ki", "Mi", "Gi", "Ti"}
	first, second := impl.Suffixes(), impl.Suffixes()
	for i := range first {
		first[i] = "changed"
	}
	_ = append(first[:2], "spare")
	if !slices.Equal(second, want) {
		t.Errorf("after a change of one result the other is %q", second)
	}
	if got := impl.Suffixes(); !slices.Equal(got, want) {
		t.Errorf("after a change of its result, Suffixes() = %q; want %q", got, want)
	}
	for _, c := range suffixCases() {
		wantUnit(t, c.suffix, c.unit)
	}
}

func TestUnitOfEachSuffix(t *testing.T) {
	list := suffixCases()
	for i, suffix := range impl.Suffixes() {
		if i >= len(list) || list[i].suffix != suffix {
			t.Fatalf("no case for suffix %d, %q", i, suffix)
		}
		wantUnit(t, suffix, list[i].unit)
	}
}

func TestUnitOfUnknownSuffixes(t *testing.T) {
	for _, suffix := range append(unknownSuffixes(), "0", "1", "1m", "1Ki", "0m") {
		if got, ok := impl.UnitOf(suffix); got != 0 || ok {
			t.Errorf("UnitOf(%q) = %d, %v; want 0, false", suffix, got, ok)
		}
	}
}

func TestSplitAmountOfOrdinaryTexts(t *testing.T) {
	wantSplit(t, "500m", "500", "m")
	wantSplit(t, "2Gi", "2", "Gi")
	wantSplit(t, "1.5", "1", ".5")
	wantSplit(t, "10 20", "10", " 20")
	wantSplit(t, "007k", "007", "k")
	wantSplit(t, "1m2", "1", "m2")
	wantSplit(t, "0123456789x9876543210", "0123456789", "x9876543210")
}

func TestSplitAmountWithoutDigits(t *testing.T) {
	for _, text := range []string{"", "m", "Ki", " ", " 1", "k1", ".5", "\u0661", "\uff11", "\u00b2", "\xff1", "\x001"} {
		wantSplit(t, text, "", text)
	}
}

func TestSplitAmountOfDigitsAlone(t *testing.T) {
	for _, text := range []string{"0", "7", "00", "42", "0123456789", "9876543210", "9223372036854775808", strings.Repeat("90", 500)} {
		wantSplit(t, text, text, "")
	}
}

func TestSplitAmountWithASign(t *testing.T) {
	for _, text := range []string{"-", "+", "-1", "+1", "-500m", "+2Gi", "-0"} {
		wantSplit(t, text, "", text)
	}
	wantSplit(t, "1-2", "1", "-2")
	wantSplit(t, "1+", "1", "+")
}

func TestSplitAmountAtEachByte(t *testing.T) {
	for i := range 256 {
		b := string([]byte{byte(i)})
		if strings.Contains("0123456789", b) {
			wantSplit(t, b, b, "")
			wantSplit(t, "4"+b+"2m", "4"+b+"2", "m")
		} else {
			wantSplit(t, b, "", b)
			wantSplit(t, "4"+b+"2m", "4", b+"2m")
		}
	}
}

func TestSplitAmountOfLongTexts(t *testing.T) {
	digits, rest := strings.Repeat("1234567890", 300), strings.Repeat("m1", 500)
	wantSplit(t, digits+rest, digits, rest)
}

func TestReadAmountOfOrdinaryTexts(t *testing.T) {
	for text, want := range map[string]int{
		"1": 1000, "42": 42000, "100": 100000, "1000": 1000000,
		"1m": 1, "500m": 500, "1500m": 1500, "1000m": 1000,
		"1k": 1000000, "2k": 2000000, "3M": 3000000000, "4G": 4000000000000, "5T": 5000000000000000,
		"1Ki": 1024000, "2Mi": 2097152000, "2Gi": 2147483648000, "6Ti": 6597069766656000, "2048Ki": 2097152000,
		"10": 10000, "10m": 10, "105k": 105000000, "1024": 1024000, "1024m": 1024,
	} {
		wantAmount(t, text, want)
	}
}

func TestReadAmountOfZeroAndOneUnit(t *testing.T) {
	for _, c := range suffixCases() {
		wantAmount(t, "0"+c.suffix, 0)
		wantAmount(t, "1"+c.suffix, c.unit)
		wantAmount(t, "9"+c.suffix, 9*c.unit)
		wantAmount(t, "20"+c.suffix, 20*c.unit)
	}
}

func TestReadAmountAtTheLargestQuantity(t *testing.T) {
	for _, c := range suffixCases() {
		wantAmount(t, fmt.Sprintf("%d%s", c.most-1, c.suffix), (c.most-1)*c.unit)
		wantAmount(t, fmt.Sprintf("%d%s", c.most, c.suffix), c.most*c.unit)
		wantNormal(t, fmt.Sprintf("%d%s", c.most, c.suffix), c.normal)
	}
}

func TestReadAmountAboveTheLargestQuantity(t *testing.T) {
	for _, c := range suffixCases() {
		wantNoAmount(t, fmt.Sprintf("%d%s", uint64(c.most)+1, c.suffix), impl.QtRange)
		wantNoAmount(t, fmt.Sprintf("%d%s", uint64(c.most)+2, c.suffix), impl.QtRange)
		wantNoAmount(t, fmt.Sprintf("%d0%s", c.most, c.suffix), impl.QtRange)
	}
}

// Without a check, these quantities wrap around to numbers that are not negative.
func TestReadAmountOfQuantitiesThatWouldWrap(t *testing.T) {
	for _, c := range suffixCases() {
		unit, turn := big.NewInt(int64(c.unit)), new(big.Int).Lsh(big.NewInt(1), 64)
		count := turn.Add(turn, unit).Div(turn, unit)
		wantNoAmount(t, count.String()+c.suffix, impl.QtRange)
		wantNoAmount(t, new(big.Int).Lsh(count, 1).String()+c.suffix, impl.QtRange)
	}
}

func TestReadAmountOfDigitsAboveMaxInt(t *testing.T) {
	for _, digits := range []string{"9223372036854775808", "9223372036854775809", "10000000000000000000", "18446744073709551616", "18446744073709551617", "99999999999999999999999999999999999999"} {
		for _, c := range suffixCases() {
			wantNoAmount(t, digits+c.suffix, impl.QtRange)
		}
		for _, suffix := range []string{"K", "x", "mm", ".5", " ", "Pi", "-"} {
			wantNoAmount(t, digits+suffix, impl.QtForm)
		}
		wantNoAmount(t, "0"+digits, impl.QtForm)
	}
}

func TestReadAmountOfFortyBytes(t *testing.T) {
	for _, suffix := range []string{"", "m", "k", "Ki", "Ti"} {
		digits := "1" + strings.Repeat("0", 39-len(suffix))
		wantNoAmount(t, digits+suffix, impl.QtRange)
		wantNoAmount(t, digits+"0"+suffix, impl.QtForm)
		wantNoAmount(t, digits+"00"+suffix, impl.QtForm)
	}
	wantNoAmount(t, strings.Repeat("9", 40), impl.QtRange)
	wantNoAmount(t, strings.Repeat("9", 41), impl.QtForm)
	wantNoAmount(t, strings.Repeat("9", 5000), impl.QtForm)
	wantNoAmount(t, "1"+strings.Repeat("m", 39), impl.QtForm)
	wantNoAmount(t, "1"+strings.Repeat("m", 40), impl.QtForm)
	wantNoAmount(t, "1"+strings.Repeat(" ", 40), impl.QtForm)
}

func TestReadAmountWithoutDigits(t *testing.T) {
	for _, text := range []string{"", " ", "abc", ".5", "-", "+", "-1", "+1", "-0", "-500m", "+2Gi", "--1", " 1", "\t1", "m1", "k2", "x", "\u0661", "\uff11", "\xff1", "\x001"} {
		wantNoAmount(t, text, impl.QtForm)
	}
	for _, suffix := range impl.Suffixes() {
		wantNoAmount(t, suffix, impl.QtForm)
		wantNoAmount(t, "-1"+suffix, impl.QtForm)
	}
}

func TestReadAmountOfSeveralDigitsThatStartWithZero(t *testing.T) {
	for _, c := range suffixCases() {
		for _, digits := range []string{"00", "01", "000", "007", "010", "0000000000000001", "09223372036854775807", "099999999999999999999"} {
			wantNoAmount(t, digits+c.suffix, impl.QtForm)
		}
	}
}

func TestReadAmountOfTheTextZero(t *testing.T) {
	wantAmount(t, "0", 0)
	wantNormal(t, "0", "0")
	wantComparison(t, "0", "0m", 0)
	wantComparison(t, "0", "1m", -1)
}

func TestReadAmountOfUnknownSuffixes(t *testing.T) {
	for _, suffix := range unknownSuffixes() {
		for _, digits := range []string{"0", "1", "15", "9223372036854775807"} {
			wantNoAmount(t, digits+suffix, impl.QtForm)
		}
	}
}

func TestAmountTextOfKnownNumbers(t *testing.T) {
	for n, want := range amountCases() {
		wantAmountText(t, n, want)
		wantAmount(t, want, n)
		wantNormal(t, want, want)
	}
}

func TestAmountTextOfNegativeNumbers(t *testing.T) {
	for _, n := range []int{-1, -5, -999, -1000, -1001, -1024, -1024000, -1048576000, -math.MaxInt, math.MinInt, math.MinInt + 808} {
		wantAmountText(t, n, "")
	}
}

func TestAmountTextOfNumbersThatAreNoMultipleOfThousand(t *testing.T) {
	for n := range 5000 {
		want := fmt.Sprintf("%dm", n)
		if n%1000 == 0 {
			want = fmt.Sprintf("%d", n/1000)
		}
		wantAmountText(t, n, want)
	}
	for shift := 3; shift < 63; shift++ {
		wantAmountText(t, 1<<shift, fmt.Sprintf("%dm", 1<<shift))
	}
}

func TestAmountTextOfMultiplesOf1024(t *testing.T) {
	unit := 1000
	for divisions, suffix := range []string{"", "Ki", "Mi", "Gi", "Ti"} {
		for _, count := range []int{1, 2, 3, 5, 12, 512, 1000, 1023, 1025, 3000, 8388} {
			wantAmountText(t, count*unit, fmt.Sprintf("%d%s", count, suffix))
		}
		if divisions < 4 {
			unit *= 1024
		}
	}
	for _, count := range []int{1024, 2048, 3072, 7168, 8192} {
		wantAmountText(t, count*unit, fmt.Sprintf("%dTi", count))
	}
}

func TestReadAmountUndoesAmountText(t *testing.T) {
	for n := range 5000 {
		wantAmount(t, impl.AmountText(n), n)
		wantAmount(t, impl.AmountText(1000*n), 1000*n)
		wantAmount(t, impl.AmountText(1024000*n), 1024000*n)
	}
	for _, n := range edgeAmounts() {
		wantAmount(t, impl.AmountText(n), n)
	}
}

func TestNormalAmountOfOrdinaryTexts(t *testing.T) {
	for text, want := range map[string]string{
		"2048Ki": "2Mi", "1024": "1Ki", "1024Ki": "1Mi", "1024Mi": "1Gi", "1024Gi": "1Ti", "1024Ti": "1024Ti", "1048576": "1Mi",
		"1000m": "1", "1500m": "1500m", "1024000m": "1Ki", "999m": "999m", "0m": "0", "0Ti": "0", "0k": "0",
		"1k": "1000", "1M": "1000000", "1G": "1000000000", "1T": "976562500Ki", "128k": "125Ki", "2G": "1953125Ki",
		"1Ki": "1Ki", "2Gi": "2Gi", "3Ti": "3Ti", "500m": "500m", "42": "42", "1536Mi": "1536Mi",
	} {
		wantNormal(t, text, want)
	}
}

func TestNormalAmountKeepsCanonicalTexts(t *testing.T) {
	for _, n := range edgeAmounts() {
		wantNormal(t, impl.AmountText(n), impl.AmountText(n))
	}
}

func TestCompareAmountsOfKnownTexts(t *testing.T) {
	for _, c := range []struct {
		a, b string
		want int
	}{
		{"1k", "1000", 0}, {"1000m", "1", 0}, {"1024", "1Ki", 0}, {"1024Mi", "1Gi", 0}, {"5", "5", 0}, {"0Ti", "0m", 0},
		{"1", "2", -1}, {"9", "10", -1}, {"999m", "1", -1}, {"1k", "1Ki", -1}, {"1M", "1Mi", -1}, {"1G", "1Gi", -1}, {"1T", "1Ti", -1},
		{"1m", "1", -1}, {"1", "1k", -1}, {"1k", "1M", -1}, {"1M", "1G", -1}, {"1G", "1T", -1}, {"1Ki", "1Mi", -1}, {"1Mi", "1Gi", -1}, {"1Gi", "1Ti", -1},
		{"0", "9223372036854775807m", -1}, {"9223372036854775806m", "9223372036854775807m", -1}, {"9223372036854775", "9223372036854775807m", -1},
	} {
		wantComparison(t, c.a, c.b, c.want)
	}
}

func TestCompareAmountsOrdersTheLargestQuantities(t *testing.T) {
	for _, a := range suffixCases() {
		for _, b := range suffixCases() {
			want := impl.CompareInt(a.most*a.unit, b.most*b.unit)
			wantComparison(t, fmt.Sprintf("%d%s", a.most, a.suffix), fmt.Sprintf("%d%s", b.most, b.suffix), want)
		}
	}
}

func TestCompareAmountsOfInvalidTexts(t *testing.T) {
	for _, a := range []string{"", "x", "1.5", "-1", "01", "9223372036854776", "9223372036854775808m"} {
		for _, b := range []string{"0", "1", "5Gi", "", "1K", "9223372036854776"} {
			wantNoComparison(t, a, b)
			wantNoComparison(t, b, a)
		}
	}
}
