package tests

import (
	"encoding/binary"
	"math"
	"strings"
	"testing"

	"loop.example/g00968/impl"
)

type varCase struct {
	n    int
	text string
}

// varCases holds small numbers, the largest number of each number of bytes, and the next one.
func varCases() []varCase {
	return []varCase{
		{0, "\x00"}, {1, "\x01"}, {2, "\x02"}, {64, "\x40"}, {126, "\x7e"}, {127, "\x7f"},
		{128, "\x80\x01"}, {129, "\x81\x01"}, {255, "\xff\x01"}, {256, "\x80\x02"}, {300, "\xac\x02"}, {16256, "\x80\x7f"}, {16383, "\xff\x7f"},
		{16384, "\x80\x80\x01"}, {16511, "\xff\x80\x01"}, {2097151, "\xff\xff\x7f"},
		{2097152, "\x80\x80\x80\x01"}, {268435455, "\xff\xff\xff\x7f"},
		{268435456, "\x80\x80\x80\x80\x01"}, {34359738367, "\xff\xff\xff\xff\x7f"},
		{34359738368, "\x80\x80\x80\x80\x80\x01"}, {4398046511103, "\xff\xff\xff\xff\xff\x7f"},
		{4398046511104, "\x80\x80\x80\x80\x80\x80\x01"}, {562949953421311, "\xff\xff\xff\xff\xff\xff\x7f"},
		{562949953421312, "\x80\x80\x80\x80\x80\x80\x80\x01"}, {72057594037927935, "\xff\xff\xff\xff\xff\xff\xff\x7f"},
		{72057594037927936, "\x80\x80\x80\x80\x80\x80\x80\x80\x01"}, {math.MaxInt - 1, "\xfe\xff\xff\xff\xff\xff\xff\xff\x7f"},
		{math.MaxInt, "\xff\xff\xff\xff\xff\xff\xff\xff\x7f"},
	}
}

type fixedCase struct {
	n     int
	width int
	text  string
}

// fixedCases holds, for each width, 0, 1, a number with different bytes, and the largest number.
func fixedCases() []fixedCase {
	list := []fixedCase{
		{0x81, 1, "\x81"}, {513, 2, "\x01\x02"}, {0x030201, 3, "\x01\x02\x03"}, {0xf4030201, 4, "\x01\x02\x03\xf4"},
		{0x0504030201, 5, "\x01\x02\x03\x04\x05"}, {0xf60504030201, 6, "\x01\x02\x03\x04\x05\xf6"},
		{0x07060504030201, 7, "\x01\x02\x03\x04\x05\x06\x07"}, {0x0807060504030201, 8, "\x01\x02\x03\x04\x05\x06\x07\x08"},
		{128, 8, "\x80\x00\x00\x00\x00\x00\x00\x00"}, {math.MaxInt - 1, 8, "\xfe\xff\xff\xff\xff\xff\xff\x7f"},
		{math.MaxInt, 8, "\xff\xff\xff\xff\xff\xff\xff\x7f"},
	}
	for width := 1; width <= 8; width++ {
		zeros := strings.Repeat("\x00", width-1)
		list = append(list, fixedCase{0, width, "\x00" + zeros}, fixedCase{1, width, "\x01" + zeros})
		if width < 8 {
			list = append(list, fixedCase{1<<(8*width) - 1, width, strings.Repeat("\xff", width)})
		}
	}
	return list
}

type shortCase struct {
	s    string
	text string
}

func shortCases() []shortCase {
	list := []shortCase{
		{"", "\x00"}, {"a", "\x01a"}, {"ab", "\x02ab"}, {"\x00", "\x01\x00"}, {"\x80", "\x01\x80"}, {"\x02ab", "\x03\x02ab"},
		{"caf\u00e9\n", "\x06caf\xc3\xa9\n"}, {"\xff\xfe", "\x02\xff\xfe"}, {allBytes(), "\x80\x02" + allBytes()},
	}
	for prefix, size := range map[string]int{"\x7e": 126, "\x7f": 127, "\x80\x01": 128, "\x81\x01": 129, "\xff\x7f": 16383, "\x80\x80\x01": 16384} {
		s := strings.Repeat(allBytes(), size/256+1)[:size]
		list = append(list, shortCase{s, prefix + s})
	}
	return list
}

// absentOffsets are offsets before s, at its end and behind it.
func absentOffsets(s string) []int {
	return []int{-1, -2, -9, -len(s) - 1, math.MinInt, math.MinInt + 1, len(s), len(s) + 1, len(s) + 9, math.MaxInt - 9, math.MaxInt - 1, math.MaxInt}
}

// bytesTexts are all strings of up to two bytes, and all those of up to six bytes of a few kinds.
func bytesTexts() []string {
	list := []string{}
	grow := func(alphabet string, size int) {
		level := []string{""}
		for range size {
			next := []string{}
			for _, text := range level {
				for i := range len(alphabet) {
					next = append(next, text+alphabet[i:i+1])
				}
			}
			list = append(list, next...)
			level = next
		}
	}
	grow(allBytes(), 2)
	grow("\x00\x01\x02\x7f\x80\xff", 6)
	return append(list, "")
}

func wantVarText(t *testing.T, n int, want string) {
	t.Helper()
	if got := impl.VarText(n); got != want {
		t.Errorf("VarText(%d) = %q; want %q", n, got, want)
	}
	if got := impl.VarSize(n); got != len(want) {
		t.Errorf("VarSize(%d) = %d; want %d", n, got, len(want))
	}
}

func wantReadVar(t *testing.T, s string, at int, want int, wantAfter int) {
	t.Helper()
	if got, after := impl.ReadVar(s, at); got != want || after != wantAfter {
		t.Errorf("ReadVar(%.40q, %d) = %d, %d; want %d, %d", s, at, got, after, want, wantAfter)
	}
}

func wantNoReadVar(t *testing.T, s string, at int) {
	t.Helper()
	wantReadVar(t, s, at, 0, -1)
}

func wantFixedText(t *testing.T, n int, width int, want string) {
	t.Helper()
	if got := impl.FixedText(n, width); got != want {
		t.Errorf("FixedText(%d, %d) = %q; want %q", n, width, got, want)
	}
}

func wantReadFixed(t *testing.T, s string, at int, width int, want int) {
	t.Helper()
	if got, ok := impl.ReadFixed(s, at, width); got != want || !ok {
		t.Errorf("ReadFixed(%.40q, %d, %d) = %d, %v; want %d, true", s, at, width, got, ok, want)
	}
}

func wantNoReadFixed(t *testing.T, s string, at int, width int) {
	t.Helper()
	if got, ok := impl.ReadFixed(s, at, width); got != 0 || ok {
		t.Errorf("ReadFixed(%.40q, %d, %d) = %d, %v; want 0, false", s, at, width, got, ok)
	}
}

func wantReadShort(t *testing.T, s string, at int, want string, wantAfter int) {
	t.Helper()
	if got, after := impl.ReadShort(s, at); got != want || after != wantAfter {
		t.Errorf("ReadShort(%.40q, %d) = %.40q, %d; want %.40q, %d", s, at, got, after, want, wantAfter)
	}
}

func wantNoReadShort(t *testing.T, s string, at int) {
	t.Helper()
	wantReadShort(t, s, at, "", -1)
}

func TestVarTextOfKnownNumbers(t *testing.T) {
	for _, c := range varCases() {
		wantVarText(t, c.n, c.text)
	}
}

func TestVarTextOfManyNumbers(t *testing.T) {
	numbers := edgeInts()
	for n := range 40000 {
		numbers = append(numbers, n)
	}
	for _, n := range numbers {
		if n >= 0 {
			wantVarText(t, n, string(binary.AppendUvarint(nil, uint64(n))))
		}
	}
}

func TestVarTextOfNegativeNumbers(t *testing.T) {
	for _, n := range []int{-1, -2, -127, -128, -129, -16384, -math.MaxInt, math.MinInt, math.MinInt + 1} {
		wantVarText(t, n, "")
	}
}

func TestReadVarUndoesVarText(t *testing.T) {
	for _, c := range varCases() {
		wantReadVar(t, c.text, 0, c.n, len(c.text))
	}
	for n := range 40000 {
		wantReadVar(t, impl.VarText(n), 0, n, impl.VarSize(n))
	}
	for _, n := range edgeInts() {
		if n >= 0 {
			wantReadVar(t, impl.VarText(n), 0, n, impl.VarSize(n))
		}
	}
}

func TestReadVarInsideAString(t *testing.T) {
	for _, c := range varCases() {
		for _, before := range []string{"a", "\x00", "\x80", "\xff\xff", "\x80\x80\x80\x80\x80\x80\x80\x80\x80\x80"} {
			for _, behind := range []string{"", "\x00", "\x01", "\x80", "\xff", "abc"} {
				wantReadVar(t, before+c.text+behind, len(before), c.n, len(before)+len(c.text))
			}
		}
	}
	wantReadVar(t, "\xac\x02\x05", 1, 2, 2)
	wantReadVar(t, "\xac\x02\x05", 2, 5, 3)
}

func TestReadVarReadsOneNumberAfterTheOther(t *testing.T) {
	text, at := "", 0
	for _, c := range varCases() {
		text += c.text
	}
	for _, c := range varCases() {
		wantReadVar(t, text, at, c.n, at+len(c.text))
		at += len(c.text)
	}
	wantNoReadVar(t, text, at)
}

func TestReadVarAtOffsetsThatDoNotExist(t *testing.T) {
	for _, s := range []string{"", "\x00", "\x05", "\xac\x02", "\x80", "\x01\x02\x03", "\xff\xff\xff\xff\xff\xff\xff\xff\x7f"} {
		for _, at := range absentOffsets(s) {
			wantNoReadVar(t, s, at)
		}
	}
}

func TestReadVarOfEncodingsThatAreLongerThanNecessary(t *testing.T) {
	wantNoReadVar(t, "\x80\x00", 0)
	wantNoReadVar(t, "\xff\x00", 0)
	wantNoReadVar(t, "\xac\x82\x00", 0)
	wantNoReadVar(t, "\x01\x80\x00\x01", 1)
	for _, c := range varCases() {
		last := len(c.text) - 1
		longer := c.text[:last] + string([]byte{c.text[last] | 128})
		for range 12 {
			wantNoReadVar(t, longer+"\x00", 0)
			wantNoReadVar(t, longer+"\x00\x01", 0)
			wantNoReadVar(t, "a"+longer+"\x00", 1)
			longer += "\x80"
		}
	}
}

func TestReadVarOfNumbersAboveMaxInt(t *testing.T) {
	for _, n := range []uint64{math.MaxInt + 1, math.MaxInt + 2, 1<<63 + 1<<62, math.MaxUint64 - 1, math.MaxUint64} {
		wantNoReadVar(t, string(binary.AppendUvarint(nil, n)), 0)
		wantNoReadVar(t, string(binary.AppendUvarint([]byte("a"), n))+"\x01", 1)
	}
	for size := 9; size <= 30; size++ {
		for _, last := range []string{"\x01", "\x02", "\x03", "\x40", "\x7f"} {
			wantNoReadVar(t, strings.Repeat("\x80", size)+last, 0)
			wantNoReadVar(t, strings.Repeat("\xff", size)+last, 0)
			wantNoReadVar(t, "\x85"+strings.Repeat("\x80", size-1)+last, 0)
		}
	}
}

func TestReadVarWithoutALastByte(t *testing.T) {
	for size := 1; size <= 30; size++ {
		wantNoReadVar(t, strings.Repeat("\x80", size), 0)
		wantNoReadVar(t, strings.Repeat("\xff", size), 0)
		wantNoReadVar(t, "\x01"+strings.Repeat("\x81", size), 1)
	}
	for _, c := range varCases() {
		for cut := range len(c.text) {
			wantNoReadVar(t, c.text[:cut], 0)
		}
	}
}

func TestReadVarOfNoOtherBytes(t *testing.T) {
	for _, s := range bytesTexts() {
		n, size := binary.Uvarint([]byte(s))
		if size > 0 && string(binary.AppendUvarint(nil, n)) == s[:size] {
			wantReadVar(t, s, 0, int(n), size)
		} else {
			wantNoReadVar(t, s, 0)
		}
	}
}

func TestFixedTextOfKnownNumbers(t *testing.T) {
	for _, c := range fixedCases() {
		wantFixedText(t, c.n, c.width, c.text)
	}
}

func TestFixedTextOfManyNumbers(t *testing.T) {
	for _, n := range edgeInts() {
		for width := 1; width <= 8; width++ {
			if n < 0 || width < 8 && n >= 1<<(8*width) {
				wantFixedText(t, n, width, "")
			} else {
				wantFixedText(t, n, width, string(binary.LittleEndian.AppendUint64(nil, uint64(n))[:width]))
			}
		}
	}
}

func TestFixedTextOfNumbersThatDoNotFit(t *testing.T) {
	for width := 1; width < 8; width++ {
		for _, n := range []int{1 << (8 * width), 1<<(8*width) + 1, 1 << (8*width + 1), 1 << 62, math.MaxInt} {
			wantFixedText(t, n, width, "")
		}
		wantFixedText(t, 1<<(8*width), width+1, strings.Repeat("\x00", width)+"\x01")
	}
}

func TestFixedTextOfNegativeNumbers(t *testing.T) {
	for _, n := range []int{-1, -2, -128, -255, -256, -257, -65536, -math.MaxInt, math.MinInt} {
		for width := -1; width <= 9; width++ {
			wantFixedText(t, n, width, "")
		}
	}
}

func TestFixedOfWidthsOutsideTheRange(t *testing.T) {
	for _, width := range []int{0, 9, 10, 16, 64, 1000, math.MaxInt, -1, -2, -8, math.MinInt, math.MinInt + 1} {
		for _, n := range []int{0, 1, 255, 256, math.MaxInt} {
			wantFixedText(t, n, width, "")
		}
		for _, s := range []string{"", "\x00", "\x01\x02", strings.Repeat("\x00", 9), strings.Repeat("\x01", 20)} {
			for at := -1; at <= len(s)+1; at++ {
				wantNoReadFixed(t, s, at, width)
			}
		}
	}
}

func TestReadFixedUndoesFixedText(t *testing.T) {
	for _, c := range fixedCases() {
		wantReadFixed(t, c.text, 0, c.width, c.n)
	}
	for _, n := range edgeInts() {
		for width := 1; width <= 8; width++ {
			if text := impl.FixedText(n, width); text != "" {
				wantReadFixed(t, text, 0, width, n)
			}
		}
	}
}

func TestReadFixedInsideAString(t *testing.T) {
	for _, c := range fixedCases() {
		for _, before := range []string{"a", "\x00\x00", "\xff\xff\xff\xff\xff\xff\xff\xff\xff"} {
			for _, behind := range []string{"", "\x00", "\xff\xff"} {
				wantReadFixed(t, before+c.text+behind, len(before), c.width, c.n)
			}
		}
	}
	wantReadFixed(t, "\x01\x02\x03", 1, 2, 0x0302)
	wantReadFixed(t, "\x01\x02\x03", 2, 1, 3)
}

func TestReadFixedWithFewerBytesThanTheWidth(t *testing.T) {
	for width := 1; width <= 8; width++ {
		s := strings.Repeat("\x01", width)
		for cut := range width {
			wantNoReadFixed(t, s[:cut], 0, width)
			wantNoReadFixed(t, "ab"+s[:cut], 2, width)
		}
		for at := 1; at <= width; at++ {
			wantNoReadFixed(t, s, at, width)
		}
	}
}

func TestReadFixedAtOffsetsThatDoNotExist(t *testing.T) {
	for _, s := range []string{"", "\x00", "\x01\x02", strings.Repeat("\x01", 8), strings.Repeat("\x02", 30)} {
		for _, at := range absentOffsets(s) {
			for width := 1; width <= 8; width++ {
				wantNoReadFixed(t, s, at, width)
			}
		}
	}
}

func TestReadFixedOfNumbersAboveMaxInt(t *testing.T) {
	for _, n := range []uint64{math.MaxInt + 1, math.MaxInt + 2, 1<<63 + 1<<62, math.MaxUint64 - 1, math.MaxUint64} {
		s := string(binary.LittleEndian.AppendUint64(nil, n))
		wantNoReadFixed(t, s, 0, 8)
		wantNoReadFixed(t, "a"+s+"\x00", 1, 8)
		wantReadFixed(t, s, 0, 7, int(n&(1<<56-1)))
	}
	for last := range 256 {
		s := "\x01\x00\x00\x00\x00\x00\x00" + string([]byte{byte(last)})
		if last < 128 {
			wantReadFixed(t, s, 0, 8, last<<56+1)
		} else {
			wantNoReadFixed(t, s, 0, 8)
		}
	}
}

func TestReadFixedOfAllBytes(t *testing.T) {
	for _, s := range bytesTexts() {
		n := binary.LittleEndian.Uint64([]byte((s + "\x00\x00\x00\x00\x00\x00\x00\x00")[:8]))
		for width := 1; width <= 8; width++ {
			if width <= len(s) {
				wantReadFixed(t, s, 0, width, int(n&(1<<(8*width)-1)))
			} else {
				wantNoReadFixed(t, s, 0, width)
			}
		}
	}
}

func TestShortTextOfKnownStrings(t *testing.T) {
	for _, c := range shortCases() {
		if got := impl.ShortText(c.s); got != c.text {
			t.Errorf("ShortText(%.40q) = %.40q, %d bytes; want %.40q, %d bytes", c.s, got, len(got), c.text, len(c.text))
		}
	}
}

// The chapter sets no limit to the strings of ShortText, not even MaxText.
func TestShortTextOfLongStrings(t *testing.T) {
	for _, size := range []int{impl.MaxText, impl.MaxText + 1, 2097151, 2097152} {
		s := strings.Repeat("s", size)
		text := string(binary.AppendUvarint(nil, uint64(size))) + s
		if got := impl.ShortText(s); got != text {
			t.Errorf("ShortText of %d bytes: %d bytes; want %d", size, len(got), len(text))
		}
		if got, after := impl.ReadShort(text, 0); got != s || after != len(text) {
			t.Errorf("ReadShort of %d bytes: %d bytes, %d; want %d bytes, %d", len(text), len(got), after, size, len(text))
		}
	}
}

func TestReadShortUndoesShortText(t *testing.T) {
	for _, c := range shortCases() {
		wantReadShort(t, c.text, 0, c.s, len(c.text))
	}
	for size := range 300 {
		s := strings.Repeat("x", size)
		wantReadShort(t, impl.ShortText(s), 0, s, impl.VarSize(size)+size)
	}
}

func TestReadShortInsideAString(t *testing.T) {
	for _, c := range shortCases() {
		for _, before := range []string{"a", "\x00", "\xff\x80"} {
			for _, behind := range []string{"", "\x00", "a", "\xff\xff"} {
				wantReadShort(t, before+c.text+behind, len(before), c.s, len(before)+len(c.text))
			}
		}
	}
	wantReadShort(t, "\x02abc", 0, "ab", 3)
	wantReadShort(t, "\x00abc", 0, "", 1)
	wantReadShort(t, "\x03\x01ab", 1, "a", 3)
}

func TestReadShortReadsOneStringAfterTheOther(t *testing.T) {
	text, at := "", 0
	for _, c := range shortCases() {
		text += c.text
	}
	for range shortCases() {
		s, after := impl.ReadShort(text, at)
		if after <= at || impl.ShortText(s) != text[at:after] {
			t.Fatalf("ReadShort at %d = %.40q, %d; want the string that begins there", at, s, after)
		}
		at = after
	}
	if at != len(text) {
		t.Errorf("the strings end at %d; want %d", at, len(text))
	}
	wantNoReadShort(t, text, at)
}

func TestReadShortWithALengthBeyondTheRest(t *testing.T) {
	for _, c := range shortCases() {
		for _, cut := range []int{0, len(c.text) / 2, len(c.text) - 1} {
			wantNoReadShort(t, c.text[:cut], 0)
			wantNoReadShort(t, "\x01"+c.text[:cut], 1)
		}
	}
	for _, s := range []string{"\x01", "\x03ab", "\x7fab", "\x80\x01ab", "\x80\x01" + strings.Repeat("a", 127), "\x7f" + strings.Repeat("a", 126)} {
		wantNoReadShort(t, s, 0)
	}
}

// With these lengths, the offset after the string would wrap around.
func TestReadShortWithLengthsNearMaxInt(t *testing.T) {
	for less := range 20 {
		for _, rest := range []string{"", "a", strings.Repeat("a", 30)} {
			text := string(binary.AppendUvarint(nil, uint64(math.MaxInt-less))) + rest
			wantNoReadShort(t, text, 0)
			wantNoReadShort(t, strings.Repeat("b", 30)+text, 30)
		}
	}
}

func TestReadShortWithALengthThatReadVarRejects(t *testing.T) {
	for _, c := range shortCases() {
		last := len(impl.VarText(len(c.s))) - 1
		longer := c.text[:last] + string([]byte{c.text[last] | 128})
		wantNoReadShort(t, longer+"\x00"+c.s, 0)
		wantNoReadShort(t, longer+"\x80\x00"+c.s, 0)
	}
	for _, length := range []string{"\x80", "\xff\xff", "\x82\x00", strings.Repeat("\xff", 9) + "\x01", strings.Repeat("\x80", 9) + "\x02", strings.Repeat("\x80", 10) + "\x01"} {
		wantNoReadShort(t, length, 0)
		wantNoReadShort(t, "ab"+length, 2)
	}
	wantNoReadShort(t, "\x82\x00abcdef", 0)
	wantNoReadShort(t, strings.Repeat("\x80", 9)+"\x02abcdef", 0)
}

func TestReadShortAtOffsetsThatDoNotExist(t *testing.T) {
	for _, s := range []string{"", "\x00", "\x02ab", "\x00\x00\x00", "\x05a"} {
		for _, at := range absentOffsets(s) {
			wantNoReadShort(t, s, at)
		}
	}
}

func TestReadShortOfNoOtherBytes(t *testing.T) {
	for _, s := range bytesTexts() {
		n, size := binary.Uvarint([]byte(s))
		canonical := size > 0 && string(binary.AppendUvarint(nil, n)) == s[:size]
		if canonical && n <= uint64(len(s)-size) {
			after := size + int(n)
			wantReadShort(t, s, 0, s[size:after], after)
		} else {
			wantNoReadShort(t, s, 0)
		}
	}
}
