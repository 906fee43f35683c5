package tests

import (
	"math"
	"slices"
	"strings"
	"testing"

	"loop.example/g00968/impl"
)

const greatestRune = 1114111

type runeCase struct {
	n    int
	text string
}

// runeCases holds the last code point of each length, the first one of the next, the neighbours of the surrogates, and ordinary ones.
func runeCases() []runeCase {
	return []runeCase{
		{0, "\x00"}, {1, "\x01"}, {10, "\n"}, {36, "$"}, {97, "a"}, {126, "~"}, {127, "\x7f"},
		{128, "\xc2\x80"}, {129, "\xc2\x81"}, {163, "\xc2\xa3"}, {233, "\xc3\xa9"}, {255, "\xc3\xbf"}, {256, "\xc4\x80"}, {2046, "\xdf\xbe"}, {2047, "\xdf\xbf"},
		{2048, "\xe0\xa0\x80"}, {2049, "\xe0\xa0\x81"}, {4095, "\xe0\xbf\xbf"}, {4096, "\xe1\x80\x80"}, {8364, "\xe2\x82\xac"}, {53248, "\xed\x80\x80"},
		{55294, "\xed\x9f\xbe"}, {55295, "\xed\x9f\xbf"}, {57344, "\xee\x80\x80"}, {57345, "\xee\x80\x81"}, {65279, "\xef\xbb\xbf"},
		{65532, "\xef\xbf\xbc"}, {65533, "\xef\xbf\xbd"}, {65534, "\xef\xbf\xbe"}, {65535, "\xef\xbf\xbf"},
		{65536, "\xf0\x90\x80\x80"}, {65537, "\xf0\x90\x80\x81"}, {66376, "\xf0\x90\x8d\x88"}, {128512, "\xf0\x9f\x98\x80"}, {262143, "\xf0\xbf\xbf\xbf"},
		{262144, "\xf1\x80\x80\x80"}, {1048575, "\xf3\xbf\xbf\xbf"}, {1048576, "\xf4\x80\x80\x80"}, {1114110, "\xf4\x8f\xbf\xbe"}, {1114111, "\xf4\x8f\xbf\xbf"},
	}
}

// validRune tells, by the words of the document, which numbers are code points.
func validRune(n int) bool { return n >= 0 && n <= 1114111 && !(n >= 55296 && n <= 57343) }

// badRunes are all surrogates, numbers outside the range, and numbers that only look valid in 8, 16 or 32 bits.
func badRunes() []int {
	list := []int{-1, -2, -127, -128, -55296, -65533, -1114111, math.MinInt, math.MinInt + 1, math.MinInt + 97, math.MinInt32, math.MinInt32 + 97, -1<<32 + 97, -1<<16 + 97, -256 + 97}
	list = append(list, 1114112, 1114113, 1114112+97, 2097151, 2097152, 67108863, 67108864, math.MaxInt32, math.MaxInt32+1, math.MaxUint32, 1<<32, 1<<32+97, 1<<32+8364, 1<<40+97, 1<<62, 1<<62+97, math.MaxInt-1, math.MaxInt)
	for n := 55296; n <= 57343; n++ {
		list = append(list, n)
	}
	return list
}

// sizeOfRune is the length of the encoding of a valid code point.
func sizeOfRune(n int) int {
	switch {
	case n <= 127:
		return 1
	case n <= 2047:
		return 2
	case n <= 65535:
		return 3
	}
	return 4
}

// spelled encodes any number in as many bytes as size, from two to six, whether this is its canonical encoding or not.
func spelled(n int, size int) string {
	first := []int{192, 224, 240, 248, 252}[size-2]
	list := make([]byte, size)
	for i := size - 1; i > 0; i-- {
		list[i] = byte(128 + n%64)
		n /= 64
	}
	list[0] = byte(first + n)
	return string(list)
}

// encodedRune is RuneText, by the words of the document.
func encodedRune(n int) string {
	if !validRune(n) {
		return ""
	}
	if n <= 127 {
		return string([]byte{byte(n)})
	}
	return spelled(n, sizeOfRune(n))
}

// decodedRune looks for a code point whose encoding begins at a byte offset; it returns 0 and -1 if there is none.
func decodedRune(text string, at int) (int, int) {
	firsts := []int{0, 192, 224, 240}
	for size := 1; size <= 4 && at >= 0 && at <= len(text)-size; size++ {
		n := int(text[at]) - firsts[size-1]
		for _, b := range []byte(text[at+1 : at+size]) {
			n = 64*n + int(b) - 128
		}
		if encodedRune(n) == text[at:at+size] {
			return n, at + size
		}
	}
	return 0, -1
}

func decodedRunes(text string) ([]int, bool) {
	list := []int{}
	for at := 0; at < len(text); {
		n, after := decodedRune(text, at)
		if after < 0 {
			return nil, false
		}
		list = append(list, n)
		at = after
	}
	return list, true
}

// longEncodings are encodings that are longer than necessary, of two to six bytes.
func longEncodings() []string {
	list := []string{"\xc0\x80", "\xc1\xbf", "\xe0\x80\x80", "\xe0\x9f\xbf", "\xf0\x80\x80\x80", "\xf0\x8f\xbf\xbf", "\xf0\x82\x82\xac", "\xe0\x83\xa9"}
	for n := range 65536 {
		for size := sizeOfRune(n) + 1; size <= 4 && (n < 2200 || n%61 == 0 || n > 65500); size++ {
			list = append(list, spelled(n, size))
		}
	}
	for _, c := range runeCases() {
		list = append(list, spelled(c.n, 5), spelled(c.n, 6))
	}
	return list
}

// surrogateEncodings are what the surrogates would be encoded as, alone and in pairs.
func surrogateEncodings() []string {
	list := []string{"\xed\xa0\x80", "\xed\xaf\xbf", "\xed\xb0\x80", "\xed\xbf\xbf", "\xed\xa0\xbd\xed\xb8\x80", "\xed\xb0\x80\xed\xa0\x80"}
	for n := 55296; n <= 57343; n++ {
		list = append(list, spelled(n, 3), spelled(n, 4))
	}
	return list
}

// hugeEncodings are encodings of numbers beyond the last code point, of four to six bytes.
func hugeEncodings() []string {
	list := []string{"\xf4\x90\x80\x80", "\xf4\x90\x80\x81", "\xf4\xbf\xbf\xbf", "\xf5\x80\x80\x80", "\xf7\xbf\xbf\xbf", "\xf8\x88\x80\x80\x80", "\xfb\xbf\xbf\xbf\xbf", "\xfc\x84\x80\x80\x80\x80", "\xfd\xbf\xbf\xbf\xbf\xbf"}
	for n := 1114112; n <= 2097151; n += 997 {
		list = append(list, spelled(n, 4), spelled(n, 5), spelled(n, 6))
	}
	for n := 2097152; n <= 67108863; n += 99991 {
		list = append(list, spelled(n, 5), spelled(n, 6))
	}
	return append(list, spelled(1<<31-1, 6))
}

// highBytes begin with bytes from 248 on, followed by any number of continuation bytes.
func highBytes() []string {
	list := []string{}
	for first := 248; first <= 255; first++ {
		for count := range 8 {
			for _, next := range []string{"\x80", "\x8f", "\xbf", "a"} {
				list = append(list, string([]byte{byte(first)})+strings.Repeat(next, count))
			}
		}
	}
	return list
}

// loneBytes are continuation bytes without a first byte.
func loneBytes() []string {
	list := []string{"\x80\x80", "\xbf\xbf\xbf", "\x80a", "\xbf\xc3\xa9", "\xbf\xbd"}
	for b := 128; b <= 191; b++ {
		list = append(list, string([]byte{byte(b)}))
	}
	return list
}

// cutEncodings end too early, at the end of the text and before another code point.
func cutEncodings() []string {
	list := []string{}
	for _, c := range runeCases() {
		for cut := 1; cut < len(c.text); cut++ {
			list = append(list, c.text[:cut])
			for _, next := range runeCases() {
				list = append(list, c.text[:cut]+next.text)
			}
		}
	}
	return list
}

// badEncodings are texts at whose beginning there is no encoding of a code point.
func badEncodings() []string {
	return slices.Concat(longEncodings(), surrogateEncodings(), hugeEncodings(), highBytes(), loneBytes(), cutEncodings())
}

// edgeBytes are the bytes at which the kinds of first bytes and the ranges of second bytes begin and end.
func edgeBytes() string {
	return "\x00a\x7f\x80\x8f\x90\x9f\xa0\xbd\xbf\xc0\xc1\xc2\xdf\xe0\xe1\xec\xed\xee\xef\xf0\xf1\xf3\xf4\xf5\xf7\xf8\xff"
}

// runeTexts are texts in which every byte belongs to the encoding of a code point.
func runeTexts() []string {
	all := ""
	list := []string{"", "a", "abc", "caf\xc3\xa9\n", "\xe2\x82\xac 5", "\xef\xbb\xbfname: a", "\xef\xbf\xbd", "\xef\xbf\xbd\xef\xbf\xbd", "a\xef\xbf\xbdb", "\x00\x00", "\xf0\x9f\x98\x80\xf0\x9f\x98\x80"}
	for _, c := range runeCases() {
		all += c.text
		list = append(list, c.text, "a"+c.text, c.text+"a", c.text+c.text, "\xef\xbf\xbd"+c.text+"\xef\xbf\xbd")
		for _, d := range runeCases() {
			list = append(list, c.text+d.text)
		}
	}
	return append(list, all, strings.Repeat(all, 200))
}

func allRunes() []int {
	list := make([]int, 0, 1112064)
	for n := range greatestRune + 1 {
		if validRune(n) {
			list = append(list, n)
		}
	}
	return list
}

func wantRune(t *testing.T, n int, text string) {
	t.Helper()
	if !impl.RuneOk(n) {
		t.Errorf("RuneOk(%d) = false; want true", n)
	}
	if got := impl.RuneText(n); got != text {
		t.Errorf("RuneText(%d) = %q; want %q", n, got, text)
	}
}

func wantNoRune(t *testing.T, n int) {
	t.Helper()
	if impl.RuneOk(n) {
		t.Errorf("RuneOk(%d) = true; want false", n)
	}
	if got := impl.RuneText(n); got != "" {
		t.Errorf("RuneText(%d) = %q; want \"\"", n, got)
	}
}

func wantRuneAt(t *testing.T, text string, at int, want int, wantAfter int) {
	t.Helper()
	if got, after := impl.RuneAt(text, at); got != want || after != wantAfter {
		t.Errorf("RuneAt(%.40q of %d bytes, %d) = %d, %d; want %d, %d", text, len(text), at, got, after, want, wantAfter)
	}
}

func wantNoRuneAt(t *testing.T, text string, at int) {
	t.Helper()
	wantRuneAt(t, text, at, 0, -1)
}

func wantRunes(t *testing.T, text string, want []int) {
	t.Helper()
	if got, ok := impl.RunesOf(text); !slices.Equal(got, want) || !ok {
		t.Errorf("RunesOf(%.40q of %d bytes) = %.20d of %d, %v; want %.20d of %d, true", text, len(text), got, len(got), ok, want, len(want))
	}
	if !impl.Utf8Ok(text) {
		t.Errorf("Utf8Ok(%.40q of %d bytes) = false; want true", text, len(text))
	}
}

func wantNoRunes(t *testing.T, text string) {
	t.Helper()
	if got, ok := impl.RunesOf(text); len(got) != 0 || ok {
		t.Errorf("RunesOf(%.40q of %d bytes) = %.20d, %v; want nil, false", text, len(text), got, ok)
	}
	if impl.Utf8Ok(text) {
		t.Errorf("Utf8Ok(%.40q of %d bytes) = true; want false", text, len(text))
	}
}

func wantRunesText(t *testing.T, list []int, want string) {
	t.Helper()
	if got := impl.RunesText(list); got != want {
		t.Errorf("RunesText(%.20d of %d) = %.40q of %d bytes; want %.40q of %d bytes", list, len(list), got, len(got), want, len(want))
	}
}

// wantRunesAsDocumented compares the functions that read a whole text with the document.
func wantRunesAsDocumented(t *testing.T, text string) {
	t.Helper()
	if list, ok := decodedRunes(text); ok {
		wantRunes(t, text, list)
	} else {
		wantNoRunes(t, text)
	}
}

// wantAsDocumented also compares RuneAt with the document, at each offset of the text.
func wantAsDocumented(t *testing.T, text string) {
	t.Helper()
	for at := -1; at <= len(text)+1; at++ {
		n, after := decodedRune(text, at)
		wantRuneAt(t, text, at, n, after)
	}
	wantRunesAsDocumented(t, text)
}

func TestRuneOkAtTheEdges(t *testing.T) {
	for n, want := range map[int]bool{
		-1: false, 0: true, 127: true, 128: true, 55295: true, 55296: false, 56319: false, 56320: false, 57343: false, 57344: true,
		65533: true, 65534: true, 65535: true, 65536: true, 1114111: true, 1114112: false, math.MinInt: false, math.MaxInt: false,
	} {
		if got := impl.RuneOk(n); got != want {
			t.Errorf("RuneOk(%d) = %v; want %v", n, got, want)
		}
	}
}

func TestRuneTextOfKnownCodePoints(t *testing.T) {
	for _, c := range runeCases() {
		wantRune(t, c.n, c.text)
	}
}

func TestRuneTextOfEachCodePoint(t *testing.T) {
	for _, n := range allRunes() {
		wantRune(t, n, encodedRune(n))
	}
}

func TestRuneTextOfNumbersThatAreNotValid(t *testing.T) {
	for _, n := range badRunes() {
		wantNoRune(t, n)
	}
	for _, n := range edgeInts() {
		if validRune(n) {
			wantRune(t, n, encodedRune(n))
		} else {
			wantNoRune(t, n)
		}
	}
	for n := greatestRune + 1; n < 3*greatestRune; n += 7 {
		wantNoRune(t, n)
	}
	for n := -1; n > -greatestRune; n -= 7 {
		wantNoRune(t, n)
	}
}

// A number whose low 32 bits are a valid code point is not valid itself.
func TestRuneTextOfNumbersThatAreValidInFewerBits(t *testing.T) {
	for _, c := range runeCases() {
		for shift := 21; shift < 63; shift++ {
			wantNoRune(t, c.n+1<<shift)
			wantNoRune(t, c.n-1<<shift)
		}
		wantNoRune(t, c.n+math.MinInt)
	}
}

func TestRuneAtOfEachCodePoint(t *testing.T) {
	for _, n := range allRunes() {
		text := encodedRune(n)
		wantRuneAt(t, text, 0, n, len(text))
		wantRuneAt(t, "\x80"+text+"\x80", 1, n, len(text)+1)
	}
}

func TestRuneAtOfKnownCodePoints(t *testing.T) {
	for _, c := range runeCases() {
		wantRuneAt(t, c.text, 0, c.n, len(c.text))
		for _, before := range []string{"a", "\xc3\xa9", "\xff", "\xe2\x82", "\xef\xbf\xbd", "\xf0\x9f\x98\x80", longest()} {
			for _, behind := range []string{"", "a", "\x80", "\xff", "\xef\xbf\xbd", "\xf0\x9f"} {
				wantRuneAt(t, before+c.text+behind, len(before), c.n, len(before)+len(c.text))
			}
		}
	}
}

func TestRuneAtOfEachCodePointOfAText(t *testing.T) {
	text, at := "", 0
	for _, c := range runeCases() {
		text += c.text
	}
	for _, c := range runeCases() {
		wantRuneAt(t, text, at, c.n, at+len(c.text))
		at += len(c.text)
	}
	wantNoRuneAt(t, text, at)
	wantRuneAt(t, "a\xe2\x82\xacb", 0, 97, 1)
	wantRuneAt(t, "a\xe2\x82\xacb", 1, 8364, 4)
	wantRuneAt(t, "a\xe2\x82\xacb", 4, 98, 5)
}

func TestRuneAtInsideAnEncoding(t *testing.T) {
	wantNoRuneAt(t, "a\xe2\x82\xacb", 2)
	wantNoRuneAt(t, "a\xe2\x82\xacb", 3)
	for _, c := range runeCases() {
		for at := 1; at < len(c.text); at++ {
			wantNoRuneAt(t, c.text, at)
			wantNoRuneAt(t, c.text+"a", at)
			wantNoRuneAt(t, "ab"+c.text+c.text, at+2)
		}
	}
}

func TestRuneAtOffsetsThatDoNotExist(t *testing.T) {
	for _, text := range runeTexts() {
		for _, at := range absentOffsets(text) {
			wantNoRuneAt(t, text, at)
		}
	}
	for _, text := range []string{"\x80", "\xff", "\xe2\x82", longest()} {
		for _, at := range absentOffsets(text) {
			wantNoRuneAt(t, text, at)
		}
	}
	wantNoRuneAt(t, "", 0)
}

func TestRunesOfKnownTexts(t *testing.T) {
	wantRunes(t, "", nil)
	wantRunes(t, "a", []int{97})
	wantRunes(t, "a\xc3\xa9", []int{97, 233})
	wantRunes(t, "caf\xc3\xa9\n", []int{99, 97, 102, 233, 10})
	wantRunes(t, "\xe2\x82\xac5\x00", []int{8364, 53, 0})
	wantRunes(t, "\xf0\x9f\x98\x80\xef\xbf\xbd", []int{128512, 65533})
	wantRunes(t, "\xef\xbb\xbf", []int{65279})
	wantRunes(t, "e\xcc\x81", []int{101, 769})
	wantRunes(t, "\xed\x9f\xbf\xee\x80\x80\xf4\x8f\xbf\xbf", []int{55295, 57344, 1114111})
}

func TestRunesOfAllCodePoints(t *testing.T) {
	list, text := allRunes(), &strings.Builder{}
	for _, n := range list {
		text.WriteString(encodedRune(n))
	}
	wantRunes(t, text.String(), list)
	wantRunesText(t, list, text.String())
	wantNoRunes(t, text.String()+"\x80")
	wantNoRunes(t, text.String()[1:]+"\xf4")
}

func TestRunesOfTexts(t *testing.T) {
	for _, text := range runeTexts() {
		list, ok := decodedRunes(text)
		if !ok {
			t.Fatalf("%.40q is no text of code points", text)
		}
		wantRunes(t, text, list)
		wantRunesText(t, list, text)
	}
}

// The chapter sets no limit to the length of a text, not even MaxText.
func TestRunesOfLongTexts(t *testing.T) {
	for _, size := range []int{impl.MaxText, impl.MaxText + 1, 1 << 20} {
		text := strings.Repeat("\xc3\xa9", size)
		list := slices.Repeat([]int{233}, size)
		wantRunes(t, text, list)
		wantRunesText(t, list, text)
		wantNoRunes(t, text+"\xc3")
		wantNoRunes(t, "\xa9"+text)
	}
}

func TestRunesOfEncodingsThatAreLongerThanNecessary(t *testing.T) {
	for _, text := range longEncodings() {
		wantNoRuneAt(t, text, 0)
		wantNoRunes(t, text)
	}
}

func TestRunesOfEncodedSurrogates(t *testing.T) {
	for _, text := range surrogateEncodings() {
		wantNoRuneAt(t, text, 0)
		wantNoRunes(t, text)
	}
}

func TestRunesBeyondTheLastCodePoint(t *testing.T) {
	for _, text := range hugeEncodings() {
		wantNoRuneAt(t, text, 0)
		wantNoRunes(t, text)
	}
	for n := greatestRune + 1; n < 2097152; n++ {
		wantNoRuneAt(t, spelled(n, 4), 0)
	}
}

func TestRunesOfFirstBytesFrom248On(t *testing.T) {
	for _, text := range highBytes() {
		wantNoRuneAt(t, text, 0)
		wantNoRunes(t, text)
	}
}

func TestRunesOfLoneContinuationBytes(t *testing.T) {
	for _, text := range loneBytes() {
		wantNoRuneAt(t, text, 0)
		wantNoRunes(t, text)
	}
}

func TestRunesOfEncodingsThatEndTooEarly(t *testing.T) {
	for _, text := range cutEncodings() {
		wantNoRuneAt(t, text, 0)
		wantNoRunes(t, text)
	}
	wantRuneAt(t, "\xe2\x82a", 2, 97, 3)
	wantRuneAt(t, "\xf0\x9f\x98\xc3\xa9", 3, 233, 5)
}

func TestRunesOfBytesThatEncodeNothingInsideTexts(t *testing.T) {
	for _, bad := range badEncodings() {
		for _, before := range []string{"a", "\xc3\xa9", "\xef\xbf\xbd"} {
			text := before + bad
			wantRuneAt(t, text, len(before), 0, -1)
			wantNoRunes(t, text)
			wantNoRunes(t, text+"a")
			wantNoRunes(t, bad+"\xef\xbf\xbd"+before)
		}
	}
}

// 65533 is what many decoders return for bytes that encode nothing; its own encoding is a valid one.
func TestRunesOf65533(t *testing.T) {
	const encoded = "\xef\xbf\xbd"
	wantRune(t, 65533, encoded)
	wantRuneAt(t, encoded, 0, 65533, 3)
	wantRuneAt(t, "a"+encoded+"b", 1, 65533, 4)
	wantRunes(t, encoded+"a"+encoded+encoded, []int{65533, 97, 65533, 65533})
	for _, bad := range []string{"\xff", "\x80", "\xc0", "\xef", "\xef\xbf", "\xc0\x80", "\xed\xa0\x80", "\xf4\x90\x80\x80"} {
		wantNoRunes(t, encoded+bad)
		wantNoRunes(t, bad+encoded)
		wantNoRunes(t, encoded+bad+encoded)
		wantRuneAt(t, encoded+bad+encoded, 0, 65533, 3)
		wantNoRuneAt(t, encoded+bad+encoded, 3)
		wantRuneAt(t, encoded+bad+encoded, 3+len(bad), 65533, 6+len(bad))
	}
	wantNoRunes(t, encoded[:2])
	wantNoRunes(t, encoded[1:])
	wantNoRunes(t, encoded+encoded[:2])
	wantNoRunes(t, encoded[1:]+encoded)
}

func TestRunesOfATextWhoseLastByteAloneIsWrong(t *testing.T) {
	for _, text := range runeTexts() {
		for _, last := range []string{"\x80", "\xbf", "\xc0", "\xc3", "\xe2", "\xed", "\xef", "\xf0", "\xf4", "\xf8", "\xff"} {
			wantNoRunes(t, text+last)
		}
	}
	for _, c := range runeCases() {
		if size := len(c.text); size > 1 {
			for _, last := range []string{"a", "\x00", "\x7f", "\xc0", "\xff"} {
				wantNoRunes(t, "abc"+c.text[:size-1]+last)
			}
		}
	}
	wantNoRunes(t, strings.Repeat("a", impl.MaxText)+"\xff")
}

func TestRunesOfATextWhoseFirstByteAloneIsWrong(t *testing.T) {
	for _, text := range runeTexts() {
		for _, first := range []string{"\x80", "\xbf", "\xc0", "\xc3", "\xe2", "\xed", "\xef", "\xf0", "\xf4", "\xf8", "\xff"} {
			wantNoRunes(t, first+text)
		}
	}
}

func TestRunesOfAllShortTexts(t *testing.T) {
	for _, text := range bytesTexts() {
		wantAsDocumented(t, text)
	}
}

func TestRunesOfTextsOfEdgeBytes(t *testing.T) {
	edges := edgeBytes()
	for i := range len(edges) * len(edges) * len(edges) * len(edges) {
		text := []byte{}
		for rest := i; len(text) < 4; rest /= len(edges) {
			text = append(text, edges[rest%len(edges)])
		}
		wantAsDocumented(t, string(text))
		if i%len(edges) == 0 {
			wantAsDocumented(t, string(text[1:]))
		}
	}
}

func TestRunesOfThreeByteTexts(t *testing.T) {
	for first := 0xe0; first <= 0xef; first++ {
		for second := range 256 {
			for third := range 256 {
				text := string([]byte{byte(first), byte(second), byte(third)})
				n, after := decodedRune(text, 0)
				wantRuneAt(t, text, 0, n, after)
				if after == 3 {
					wantRunes(t, text, []int{n})
				} else {
					wantNoRunes(t, text)
				}
			}
		}
	}
}

// Each byte of a text of code points is removed, and each other byte put in its place and before it.
func TestRunesOfDamagedTexts(t *testing.T) {
	text := ""
	for _, c := range runeCases() {
		text += c.text
	}
	for at := range len(text) {
		wantRunesAsDocumented(t, text[:at]+text[at+1:])
		for b := range 256 {
			start := text[:at] + string([]byte{byte(b)})
			wantRunesAsDocumented(t, start+text[at+1:])
			wantRunesAsDocumented(t, start+text[at:])
		}
	}
}

func TestRunesTextOfKnownLists(t *testing.T) {
	wantRunesText(t, nil, "")
	wantRunesText(t, []int{}, "")
	wantRunesText(t, []int{0}, "\x00")
	wantRunesText(t, []int{97, 233}, "a\xc3\xa9")
	wantRunesText(t, []int{8364, 53}, "\xe2\x82\xac5")
	wantRunesText(t, []int{65533, 65533}, "\xef\xbf\xbd\xef\xbf\xbd")
	wantRunesText(t, []int{127, 128, 2047, 2048, 65535, 65536, 1114111}, "\x7f\xc2\x80\xdf\xbf\xe0\xa0\x80\xef\xbf\xbf\xf0\x90\x80\x80\xf4\x8f\xbf\xbf")
}

func TestRunesTextOfInvalidNumbers(t *testing.T) {
	wantRunesText(t, []int{-1}, "")
	wantRunesText(t, []int{55296, 57343, 1114112, math.MaxInt, math.MinInt}, "")
	wantRunesText(t, []int{97, -1, 98, 55296, 233, 1114112, 99}, "ab\xc3\xa9c")
	wantRunesText(t, []int{-1, 97}, "a")
	wantRunesText(t, []int{97, 1 << 32}, "a")
	// Two surrogates are no code point together.
	wantRunesText(t, []int{97, 55357, 56832, 98}, "ab")
	wantRunesText(t, badRunes(), "")
	mixed, text := []int{}, ""
	for i, n := range badRunes() {
		c := runeCases()[i%len(runeCases())]
		mixed = append(mixed, n, c.n)
		text += c.text
	}
	wantRunesText(t, mixed, text)
}

func TestRunesAreDecodedFromTheirEncoding(t *testing.T) {
	for _, c := range runeCases() {
		for _, d := range runeCases() {
			list := []int{c.n, d.n, c.n}
			wantRunes(t, impl.RunesText(list), list)
		}
	}
}

func TestRunesOfSharesNoMemory(t *testing.T) {
	const text = "a\xc3\xa9"
	first, _ := impl.RunesOf(text)
	second, _ := impl.RunesOf(text)
	first[0], first[1] = 1, 2
	_ = append(first, 3)
	if !slices.Equal(second, []int{97, 233}) {
		t.Errorf("the second result is %d after a change of the first; want [97 233]", second)
	}
	wantRunes(t, text, []int{97, 233})
}

func TestRunesTextKeepsItsArgument(t *testing.T) {
	list := []int{97, -1, 233, 55296, 98, 99}
	wantRunesText(t, list[:4], "a\xc3\xa9")
	if !slices.Equal(list, []int{97, -1, 233, 55296, 98, 99}) {
		t.Errorf("RunesText changed the list behind its argument to %d", list)
	}
}
