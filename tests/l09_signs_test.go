package tests

import (
	"encoding/json"
	"fmt"
	"math"
	"math/big"
	"math/rand"
	"regexp"
	"slices"
	"strings"
	"testing"
	"unicode/utf8"
	"unsafe"

	"loop.example/g00968/impl"
)

// The following functions say what the document says.

func quotedByWords(s string) string {
	list, ok := decodedRunes(s)
	if !ok {
		return ""
	}
	short := map[int]string{34: `\"`, 92: `\\`, 8: `\b`, 12: `\f`, 10: `\n`, 13: `\r`, 9: `\t`}
	text := &strings.Builder{}
	for _, n := range list {
		switch {
		case short[n] != "":
			text.WriteString(short[n])
		case n < 32:
			fmt.Fprintf(text, `\u00%02x`, n)
		default:
			text.WriteString(encodedRune(n))
		}
	}
	return `"` + text.String() + `"`
}

var (
	letterForm = regexp.MustCompile(`^\\["\\/bfnrt]`)
	pairForm   = regexp.MustCompile(`^\\u([dD][89abAB][0-9a-fA-F]{2})\\u([dD][c-fC-F][0-9a-fA-F]{2})`)
	numberForm = regexp.MustCompile(`^\\u([0-9a-fA-F]{4})`)
	wholeForm  = regexp.MustCompile(`^-?(0|[1-9][0-9]*)`)
	followForm = regexp.MustCompile(`^[0-9.eE]`)
)

func hexNumber(digits string) int {
	n, _ := new(big.Int).SetString(digits, 16)
	return int(n.Int64())
}

// escapeByWords returns the code point of an escape sequence and its length, or 0 and 0.
func escapeByWords(text string) (int, int) {
	if letterForm.MatchString(text) {
		meanings := map[byte]int{'"': 34, '\\': 92, '/': 47, 'b': 8, 'f': 12, 'n': 10, 'r': 13, 't': 9}
		return meanings[text[1]], 2
	}
	if m := pairForm.FindStringSubmatch(text); m != nil {
		return 65536 + 1024*(hexNumber(m[1])-55296) + hexNumber(m[2]) - 56320, 12
	}
	if m := numberForm.FindStringSubmatch(text); m != nil && validRune(hexNumber(m[1])) {
		return hexNumber(m[1]), 6
	}
	return 0, 0
}

func readQuotedByWords(text string, at int) (string, int) {
	if at < 0 || at >= len(text) || text[at] != 34 {
		return "", -1
	}
	s := ""
	for at++; ; {
		n, after := decodedRune(text, at)
		if after < 0 || n < 32 {
			return "", -1
		}
		if n == 34 {
			return s, after
		}
		if n == 92 {
			escaped, size := escapeByWords(text[at:])
			if size == 0 {
				return "", -1
			}
			n, after = escaped, at+size
		}
		s, at = s+encodedRune(n), after
	}
}

func readWholeByWords(text string, at int) (int, int) {
	if at < 0 || at >= len(text) {
		return 0, -1
	}
	digits := wholeForm.FindString(text[at:])
	after := at + len(digits)
	if digits == "" || followForm.MatchString(text[after:]) {
		return 0, -1
	}
	n, _ := new(big.Int).SetString(digits, 10)
	if !n.IsInt64() {
		return 0, -1
	}
	return int(n.Int64()), after
}

func signByWords(text string, at int) (impl.Sign, int) {
	if at < 0 || at >= len(text) {
		return impl.Sign{}, -1
	}
	for i, word := range []string{"{", "}", "[", "]", ":", ",", "", "", "true", "false", "null"} {
		if word != "" && strings.HasPrefix(text[at:], word) {
			return impl.Sign{Kind: i + 1, At: at}, at + len(word)
		}
	}
	if s, after := readQuotedByWords(text, at); after >= 0 {
		return impl.Sign{Kind: 7, Text: s, At: at}, after
	}
	if n, after := readWholeByWords(text, at); after >= 0 {
		return impl.Sign{Kind: 8, Num: n, At: at}, after
	}
	return impl.Sign{}, -1
}

// encodingByWords returns the faults that a text of tokens and a text of lines have in common.
func encodingByWords(text string) impl.Fault {
	if len(text) > 20000 {
		return impl.Fault{Code: 1}
	}
	for at := 0; at < len(text); {
		_, after := decodedRune(text, at)
		if after < 0 {
			return impl.Fault{Code: 2, At: at}
		}
		at = after
	}
	return impl.Fault{}
}

func signsByWords(text string) ([]impl.Sign, impl.Fault) {
	if fault := encodingByWords(text); fault.Code != 0 {
		return nil, fault
	}
	list := []impl.Sign{}
	for at := 0; at < len(text); {
		if b := text[at]; b == 32 || b == 9 || b == 10 || b == 13 {
			at++
			continue
		}
		sign, after := signByWords(text, at)
		if after < 0 {
			return nil, impl.Fault{Code: 3, At: at}
		}
		list = append(list, sign)
		at = after
	}
	return list, impl.Fault{}
}

func wantQuoted(t *testing.T, s string, want string) {
	t.Helper()
	if got := impl.Quoted(s); got != want {
		t.Errorf("Quoted(%.40q of %d bytes) = %.60q of %d bytes; want %.60q of %d bytes", s, len(s), got, len(got), want, len(want))
	}
}

func wantReadQuoted(t *testing.T, text string, at int, want string, wantAfter int) {
	t.Helper()
	if got, after := impl.ReadQuoted(text, at); got != want || after != wantAfter {
		t.Errorf("ReadQuoted(%.60q of %d bytes, %d) = %.40q of %d bytes, %d; want %.40q of %d bytes, %d", text, len(text), at, got, len(got), after, want, len(want), wantAfter)
	}
}

func wantNoReadQuoted(t *testing.T, text string, at int) {
	t.Helper()
	wantReadQuoted(t, text, at, "", -1)
}

// wantInside checks what ReadQuoted makes of a text between quotes, alone and with other bytes before and behind.
func wantInside(t *testing.T, inside string, want string) {
	t.Helper()
	whole := `"` + inside + `"`
	wantReadQuoted(t, whole, 0, want, len(whole))
	wantReadQuoted(t, `a"`+whole+`"a`, 2, want, len(whole)+2)
	wantReadQuoted(t, `"a`+inside+`\n`+inside+`"`, 0, "a"+want+"\n"+want, 2*len(inside)+5)
}

// wantNotInside checks that a text is refused between quotes, whatever stands before and behind it.
func wantNotInside(t *testing.T, inside string) {
	t.Helper()
	for _, before := range []string{"", "a", `\n`, "\xc3\xa9", `\u0041`, `\\`} {
		for _, behind := range []string{"", "a", "0", "\xc3\xa9", `\n`} {
			wantNoReadQuoted(t, `"`+before+inside+behind+`"`, 0)
			wantNoReadQuoted(t, `[]"`+before+inside+behind+`", "a"`, 2)
		}
	}
}

func wantWhole(t *testing.T, text string, at int, want int, wantAfter int) {
	t.Helper()
	if got, after := impl.ReadWhole(text, at); got != want || after != wantAfter {
		t.Errorf("ReadWhole(%.60q of %d bytes, %d) = %d, %d; want %d, %d", text, len(text), at, got, after, want, wantAfter)
	}
}

func wantNoWhole(t *testing.T, text string, at int) {
	t.Helper()
	wantWhole(t, text, at, 0, -1)
}

func wantSign(t *testing.T, text string, at int, want impl.Sign, wantAfter int) {
	t.Helper()
	if got, after := impl.SignAt(text, at); got != want || after != wantAfter {
		t.Errorf("SignAt(%.60q of %d bytes, %d) = %.60v, %d; want %.60v, %d", text, len(text), at, got, after, want, wantAfter)
	}
}

func wantNoSign(t *testing.T, text string, at int) {
	t.Helper()
	wantSign(t, text, at, impl.Sign{}, -1)
}

func wantSigns(t *testing.T, text string, want ...impl.Sign) {
	t.Helper()
	if got, fault := impl.SignsOf(text); !slices.Equal(got, want) || fault != (impl.Fault{}) {
		t.Errorf("SignsOf(%.60q of %d bytes) = %.5v of %d, %v; want %.5v of %d, no fault", text, len(text), got, len(got), fault, want, len(want))
	}
}

func wantNoSigns(t *testing.T, text string, code int, at int) {
	t.Helper()
	if got, fault := impl.SignsOf(text); len(got) != 0 || fault != (impl.Fault{Code: code, At: at}) {
		t.Errorf("SignsOf(%.60q of %d bytes) = %.5v of %d, %v; want nil and the fault %d at %d", text, len(text), got, len(got), fault, code, at)
	}
}

// wantSignsAsDocumented compares SignsOf with the document.
func wantSignsAsDocumented(t *testing.T, text string) {
	t.Helper()
	if list, fault := signsByWords(text); fault.Code == 0 {
		wantSigns(t, text, list...)
	} else {
		wantNoSigns(t, text, fault.Code, fault.At)
	}
}

// wantTokensAsDocumented also compares the functions for one token with the document, at each offset of the text.
func wantTokensAsDocumented(t *testing.T, text string) {
	t.Helper()
	for at := -1; at <= len(text)+1; at++ {
		s, afterText := readQuotedByWords(text, at)
		wantReadQuoted(t, text, at, s, afterText)
		n, afterNum := readWholeByWords(text, at)
		wantWhole(t, text, at, n, afterNum)
		sign, afterSign := signByWords(text, at)
		wantSign(t, text, at, sign, afterSign)
	}
	wantSignsAsDocumented(t, text)
}

// textsOf are all texts of up to count pieces.
func textsOf(count int, pieces ...string) []string {
	list, level := []string{""}, []string{""}
	for range count {
		next := []string{}
		for _, text := range level {
			for _, piece := range pieces {
				next = append(next, text+piece)
			}
		}
		list, level = append(list, next...), next
	}
	return list
}

// quotableStrings are valid UTF-8.
func quotableStrings() []string {
	list := append(runeTexts(), goodStrings()...)
	list = append(list, `"`, `\`, `/`, `""`, `\\`, `\"`, `"\`, `\u0041`, `\n`, `a"b\c/d`, "\b\f\n\r\t", "line\nline\r\n\ttab", "\x00\x01\x1f\x7f", `{"a": [1, true]}`)
	ascii := allBytes()[:128]
	list = append(list, ascii, ascii+ascii, strings.Repeat(`"\`, 9), strings.Repeat(ascii, 200))
	for i := range len(ascii) {
		list = append(list, ascii[i:i+1], "a"+ascii[i:i+1], ascii[i:i+1]+"0", "\xc3\xa9"+ascii[i:i+1]+"\xf0\x9f\x98\x80")
	}
	return list
}

// unquotableStrings are a part of all texts that are not valid UTF-8.
func unquotableStrings() []string {
	list := []string{"\xff", "\x80", "\xc3", "\xed\xa0\x80", "\xc0\x80", "\xf4\x90\x80\x80", "\xf8", "\xe2\x82"}
	for i, s := range badEncodings() {
		if i%131 == 0 {
			list = append(list, s)
		}
	}
	return list
}

func TestSignsConstants(t *testing.T) {
	kinds := []int{impl.JtOpen, impl.JtClose, impl.JtBegin, impl.JtEnd, impl.JtColon, impl.JtComma, impl.JtText, impl.JtNum, impl.JtTrue, impl.JtFalse, impl.JtNull}
	codes := []int{impl.FtLong, impl.FtUtf8, impl.FtSign, impl.FtForm, impl.FtTwice, impl.FtDeep, impl.FtMany, impl.FtWide}
	if !slices.Equal(kinds, []int{1, 2, 3, 4, 5, 6, 7, 8, 9, 10, 11}) || !slices.Equal(codes, []int{1, 2, 3, 4, 5, 6, 7, 8}) {
		t.Errorf("the constants are %v and %v", kinds, codes)
	}
}

func TestQuotedOfKnownStrings(t *testing.T) {
	wantQuoted(t, "", `""`)
	wantQuoted(t, "a", `"a"`)
	wantQuoted(t, "a\n", `"a\n"`)
	wantQuoted(t, `"`, `"\""`)
	wantQuoted(t, `\`, `"\\"`)
	wantQuoted(t, "/", `"/"`)
	wantQuoted(t, "\x7f", "\"\x7f\"")
	wantQuoted(t, `"\"`, `"\"\\\""`)
	wantQuoted(t, `\n`, `"\\n"`)
	wantQuoted(t, "\b\f\n\r\t", `"\b\f\n\r\t"`)
	wantQuoted(t, "\x0b1", `"\u000b1"`)
	wantQuoted(t, "caf\xc3\xa9 \xe2\x82\xac5 \xf0\x9f\x98\x80", "\"caf\xc3\xa9 \xe2\x82\xac5 \xf0\x9f\x98\x80\"")
	wantQuoted(t, "<a&b>\xe2\x80\xa8\xc2\x85\xef\xbb\xbf\xef\xbf\xbd", "\"<a&b>\xe2\x80\xa8\xc2\x85\xef\xbb\xbf\xef\xbf\xbd\"")
}

func TestQuotedOfEachByteBelow32(t *testing.T) {
	codes := []string{"\\u0000", "\\u0001", "\\u0002", "\\u0003", "\\u0004", "\\u0005", "\\u0006", "\\u0007", "\\b", "\\t", "\\n", "\\u000b", "\\f", "\\r", "\\u000e", "\\u000f",
		"\\u0010", "\\u0011", "\\u0012", "\\u0013", "\\u0014", "\\u0015", "\\u0016", "\\u0017", "\\u0018", "\\u0019", "\\u001a", "\\u001b", "\\u001c", "\\u001d", "\\u001e", "\\u001f"}
	for i, code := range codes {
		s := allBytes()[i : i+1]
		wantQuoted(t, s, `"`+code+`"`)
		wantQuoted(t, "a"+s+"b"+s, `"a`+code+"b"+code+`"`)
		wantInside(t, code, s)
	}
}

func TestQuotedOfEachOtherSingleByte(t *testing.T) {
	for i := 32; i < 128; i++ {
		if s := allBytes()[i : i+1]; s != `"` && s != `\` {
			wantQuoted(t, s, `"`+s+`"`)
			wantQuoted(t, s+s+"\n", `"`+s+s+`\n"`)
			wantInside(t, s, s)
		}
	}
}

func TestQuotedOfCodePointsOfEachLength(t *testing.T) {
	for _, c := range runeCases() {
		wantQuoted(t, c.text, quotedByWords(c.text))
		if c.n >= 127 {
			wantQuoted(t, c.text, `"`+c.text+`"`)
			wantInside(t, c.text, c.text)
		}
	}
	all := impl.RunesText(allRunes())
	wantQuoted(t, all, quotedByWords(all))
}

func TestQuotedOfInvalidUtf8(t *testing.T) {
	for _, s := range unquotableStrings() {
		wantQuoted(t, s, "")
		wantQuoted(t, "a"+s, "")
		wantQuoted(t, "\n"+s+"\n", "")
		wantQuoted(t, "\xc3\xa9"+s, "")
		if !utf8.ValidString(s + "a") {
			wantQuoted(t, s+"a", "")
		}
	}
	for b := 128; b < 256; b++ {
		s := allBytes()[b : b+1]
		for _, text := range []string{s, s + "a", "a" + s, "a" + s + "b", strings.Repeat("a", 500) + s} {
			wantQuoted(t, text, "")
		}
	}
}

func TestQuotedSetsNoLimit(t *testing.T) {
	for _, size := range []int{impl.MaxString, impl.MaxString + 1, impl.MaxText, impl.MaxText + 1, 100000} {
		long := strings.Repeat("a", size)
		wantQuoted(t, long, `"`+long+`"`)
		wantReadQuoted(t, `"`+long+`"`, 0, long, size+2)
		lines, codes := strings.Repeat("\n", size), strings.Repeat(`\n`, size)
		wantQuoted(t, lines, `"`+codes+`"`)
		wantReadQuoted(t, `"`+codes+`"`, 0, lines, 2*size+2)
		wantNoReadQuoted(t, `"`+codes, 0)
	}
}

func TestStringsAreDecodedFromTheirQuotedForm(t *testing.T) {
	for _, s := range quotableStrings() {
		quoted := quotedByWords(s)
		wantQuoted(t, s, quoted)
		wantReadQuoted(t, quoted, 0, s, len(quoted))
		wantSign(t, quoted, 0, impl.Sign{Kind: impl.JtText, Text: s}, len(quoted))
		var other string
		if err := json.Unmarshal([]byte(quoted), &other); err != nil || other != s {
			t.Errorf("encoding/json reads Quoted(%.40q) as %.40q, %v", s, other, err)
		}
	}
}

func TestReadQuotedOffsetBehindTheClosingQuote(t *testing.T) {
	for _, s := range []string{"", "a", "\n", `"`, `\`, "\xc3\xa9", "\xf0\x9f\x98\x80", "\x00", "name"} {
		quoted := quotedByWords(s)
		for _, before := range []string{"", `"`, `""`, `\`, "a", "\xff", "\xe2\x82", `{"k":`, `\u`} {
			for _, behind := range []string{"", `"`, `""`, `\`, `\"`, "a", "\n", "\x00", "\xff", "\x80", "\xc3", `u0041`, `: 1}`, `\udc00`} {
				wantReadQuoted(t, before+quoted+behind, len(before), s, len(before)+len(quoted))
			}
		}
		for b := range 256 {
			wantReadQuoted(t, quoted+allBytes()[b:b+1], 0, s, len(quoted))
		}
	}
}

func TestReadQuotedOfEachEscapeSequence(t *testing.T) {
	known := map[byte]string{'"': `"`, '\\': `\`, '/': "/", 'b': "\x08", 'f': "\x0c", 'n': "\x0a", 'r': "\x0d", 't': "\x09"}
	for b := range 256 {
		code := `\` + allBytes()[b:b+1]
		if want, ok := known[byte(b)]; ok {
			wantInside(t, code, want)
			wantInside(t, code+code, want+want)
		} else {
			wantNotInside(t, code)
		}
	}
	wantInside(t, `\"\\\/\b\f\n\r\t\u0041`, "\"\\/\b\f\n\r\tA")
	wantInside(t, `\\n`, `\n`)
	wantInside(t, `\\u0041`, `\u0041`)
	wantInside(t, `\\\\`, `\\`)
	wantNotInside(t, "\\\xc3\xa9")
	wantNotInside(t, `\U0041`)
	wantNotInside(t, `\x41`)
	wantNotInside(t, `\N`)
	wantNotInside(t, `\101`)
	wantNotInside(t, `\'`)
}

func TestReadQuotedOfEachNumber(t *testing.T) {
	for n := range 65536 {
		digits := fmt.Sprintf("%04x", n)
		mixed := digits[:1] + strings.ToUpper(digits[1:2]) + digits[2:3] + strings.ToUpper(digits[3:])
		for _, d := range []string{digits, strings.ToUpper(digits), mixed} {
			if code := `"\u` + d + `"`; validRune(n) {
				wantReadQuoted(t, code, 0, encodedRune(n), 8)
			} else {
				wantNoReadQuoted(t, code, 0)
			}
		}
	}
}

func TestReadQuotedOfKnownNumbers(t *testing.T) {
	for code, want := range map[string]string{
		`\u0000`: "\x00", `\u0001`: "\x01", `\u001f`: "\x1f", `\u0020`: " ", `\u0022`: `"`, `\u002F`: "/", `\u005c`: `\`, `\u005C`: `\`, `\u0041`: "A", `\u007f`: "\x7f", `\u007F`: "\x7f",
		`\u0080`: "\xc2\x80", `\u00e9`: "\xc3\xa9", `\u00E9`: "\xc3\xa9", `\u07ff`: "\xdf\xbf", `\u07FF`: "\xdf\xbf", `\u0800`: "\xe0\xa0\x80", `\u20ac`: "\xe2\x82\xac", `\u20Ac`: "\xe2\x82\xac", `\uabcd`: "\xea\xaf\x8d", `\uABCD`: "\xea\xaf\x8d", `\uaBcD`: "\xea\xaf\x8d",
		`\ud7ff`: "\xed\x9f\xbf", `\uD7FF`: "\xed\x9f\xbf", `\ue000`: "\xee\x80\x80", `\uE000`: "\xee\x80\x80", `\ufffd`: "\xef\xbf\xbd", `\ufeff`: "\xef\xbb\xbf", `\uffff`: "\xef\xbf\xbf", `\uFFFF`: "\xef\xbf\xbf",
		`\ud800\udc00`: "\xf0\x90\x80\x80", `\uD800\uDC00`: "\xf0\x90\x80\x80", `\ud83d\ude00`: "\xf0\x9f\x98\x80", `\uD83D\uDE00`: "\xf0\x9f\x98\x80", `\uD83d\uDe00`: "\xf0\x9f\x98\x80",
		`\ud800\udfff`: "\xf0\x90\x8f\xbf", `\udbff\udc00`: "\xf4\x8f\xb0\x80", `\udbff\udfff`: "\xf4\x8f\xbf\xbf", `\ud801\udc00`: "\xf0\x90\x90\x80", `\uDBFE\uDFFE`: "\xf4\x8f\xaf\xbe",
	} {
		wantInside(t, code, want)
		wantInside(t, code+"0", want+"0")
		wantInside(t, "u"+code+"dc00", "u"+want+"dc00")
		wantInside(t, code+code, want+want)
	}
}

// Four digits are required, each of which is a hexadecimal one.
func TestReadQuotedOfIncompleteNumbers(t *testing.T) {
	for _, code := range []string{`\u`, `\u0`, `\u00`, `\u004`, `\ud83d\u`, `\ud83d\ud`, `\ud83d\ude`, `\ud83d\ude0`} {
		wantNoReadQuoted(t, `"`+code, 0)
		wantNoReadQuoted(t, `"`+code+`"`, 0)
		wantNoReadQuoted(t, `"`+code+` a"`, 0)
		wantNoReadQuoted(t, `"`+code+`g"`, 0)
		wantNoReadQuoted(t, `"`+code+`"0000"`, 0)
	}
	for _, code := range []string{`\u+041`, `\u-041`, `\u 041`, `\u041 `, `\u0x41`, `\u0X41`, `\u0_41`, `\u00_1`, `\u4_1_`, `\u{41}`, `\u{0041}`, `\uu0041`, "\\u\xef\xbc\x90041", "\\u\xef\xbc\x901", `\u0o41`, `\u.041`, `\uh041`, `\u004G`} {
		wantNotInside(t, code)
	}
	for place := range 4 {
		for b := range 256 {
			digits := []byte("0041")
			digits[place] = byte(b)
			isDigit := strings.Contains("0123456789abcdefABCDEF", string(rune(b)))
			first, second := `"\u`+string(digits)+`"`, `"\ud83d\u`+string(digits)+`"`
			if isDigit {
				wantReadQuoted(t, first, 0, encodedRune(hexNumber(string(digits))), 8)
			} else {
				wantNoReadQuoted(t, first, 0)
			}
			wantNoReadQuoted(t, second, 0)
		}
	}
}

func TestReadQuotedOfSurrogatePairs(t *testing.T) {
	edges := func(from int, to int) []int {
		return []int{from, from + 1, from + 2, from + 63, from + 64, from + 255, from + 256, from + 511, from + 512, to - 1, to}
	}
	wantPair := func(x int, y int) {
		n := 65536 + 1024*(x-55296) + (y - 56320)
		for _, form := range []string{`"\u%04x\u%04x"`, `"\u%04X\u%04X"`, `"\u%04x\u%04X"`, `"\u%04X\u%04x"`} {
			wantReadQuoted(t, fmt.Sprintf(form, x, y), 0, encodedRune(n), 14)
		}
	}
	for _, x := range edges(55296, 56319) {
		for y := 56320; y <= 57343; y++ {
			wantPair(x, y)
		}
	}
	for _, y := range edges(56320, 57343) {
		for x := 55296; x <= 56319; x++ {
			wantPair(x, y)
		}
	}
}

func TestReadQuotedOfHalvesOfPairs(t *testing.T) {
	for _, first := range []string{`\ud800`, `\uD800`, `\ud83d`, `\udbff`, `\uDBFF`} {
		for _, next := range []string{"", "a", " ", "0", "/", "\xc3\xa9", "\xf0\x9f\x98\x80", "\xed\xb8\x80", `\n`, `\\`, `\"`, `\/`, `\b`, `\t`, `\`, `\u`, `\ud`, `\udc0`, `\udc0g`, `\u0041`, `\u0000`, `\uffff`, `\ud7ff`,
			`\ud800`, `\ud83d`, `\udbff`, `\uDBFF`, `\ue000`, `\uE000`, `\ufffd`, `a\udc00`, ` \udc00`, `\n\udc00`, `\ud800\ud800\udc00`, `\\udc00`, `\Udc00`, `udc00`, `dc00`, `/udc00`, `\ddc00`, `\\dc00`} {
			wantNoReadQuoted(t, `"`+first+next+`"`, 0)
			wantNoReadQuoted(t, `"`+first+next, 0)
			wantNoReadQuoted(t, `"a\n`+first+next+`z"`, 0)
		}
		wantNotInside(t, first)
	}
	for _, second := range []string{`\udc00`, `\uDC00`, `\ude00`, `\udfff`, `\uDFFF`} {
		wantNotInside(t, second)
		for _, next := range []string{"a", `\n`, `\u0041`, `\ud800`, `\udbff`, `\ud800\udc00`, `\udc00`, `\udfff`} {
			wantNotInside(t, second+next)
		}
		for _, before := range []string{"a", `\n`, `\\`, `\u0041`, `\ud7ff`, `\ue000`, `\ud83d\ude00`, `\ud800a`, `\udbff\n`, `\ud800\u0041`} {
			wantNotInside(t, before+second)
		}
	}
}

func TestReadQuotedOfBytesBelow32(t *testing.T) {
	for b := range 32 {
		wantNotInside(t, allBytes()[b:b+1])
		wantNotInside(t, `\`+allBytes()[b:b+1])
		wantNotInside(t, `\ud83d`+allBytes()[b:b+1]+`\ude00`)
	}
}

func TestReadQuotedOfInvalidUtf8(t *testing.T) {
	for _, s := range unquotableStrings() {
		for _, text := range []string{`"` + s + `"`, `"` + s, `"a` + s + `"`, `"\n` + s + `"`, `"` + s + `a"`, `"\u0041` + s + `b"`} {
			wantNoReadQuoted(t, text, 0)
			wantNoReadQuoted(t, "a"+text, 1)
		}
		wantReadQuoted(t, s+`"a"`+s, len(s), "a", len(s)+3)
	}
	for b := 128; b < 256; b++ {
		wantNotInside(t, allBytes()[b:b+1])
		wantNotInside(t, `\`+allBytes()[b:b+1])
	}
}

func TestReadQuotedWithoutClosingQuote(t *testing.T) {
	for _, text := range []string{`"`, `"a`, `"\`, `"\"`, `"a\"`, `"\\\"`, `"\\\\\"`, `"\n`, `"\/`, `"\u`, `"\u0041`, `"\ud83d`, `"\ud83d\`, `"\ud83d\u`, `"\ud83d\ude00`, "\"\xc3\xa9", `" `, `"'`, `"\u0022`} {
		wantNoReadQuoted(t, text, 0)
		wantNoReadQuoted(t, "[ "+text, 2)
		wantNoReadQuoted(t, `"a"`+text, 3)
	}
	wantReadQuoted(t, `"\\"`, 0, `\`, 4)
	wantReadQuoted(t, `"\\\\"`, 0, `\\`, 6)
	wantReadQuoted(t, `"\\\""`, 0, `\"`, 6)
	wantReadQuoted(t, `"a\\" b"`, 0, `a\`, 5)
	wantReadQuoted(t, `"\u0022"`, 0, `"`, 8)
}

func TestReadQuotedAtOtherOffsets(t *testing.T) {
	const text = `a"bc"d"`
	wantReadQuoted(t, text, 1, "bc", 5)
	wantReadQuoted(t, text, 4, "d", 7)
	for _, at := range []int{0, 2, 3, 5, 6} {
		wantNoReadQuoted(t, text, at)
	}
	for b := range 256 {
		if b != '"' {
			wantNoReadQuoted(t, allBytes()[b:b+1]+`"a"`, 0)
			wantNoReadQuoted(t, `""`+allBytes()[b:b+1]+`"`, 2)
		}
	}
	for _, text := range []string{"", `"`, `""`, `"a"`, `"a" "b"`, "a", "\xff", longest()} {
		for _, at := range absentOffsets(text) {
			wantNoReadQuoted(t, text, at)
		}
	}
	wantReadQuoted(t, `"a\"b"`, 3, "b", 6)
	wantReadQuoted(t, `""`, 0, "", 2)
	wantNoReadQuoted(t, `""`, 1)
}

func TestReadQuotedAsDocumented(t *testing.T) {
	texts := textsOf(5, `"`, `\`, "u", "d", "8", "0", "n", "\xc3")
	texts = append(texts, textsOf(4, `\u`, `\ud83d`, `\uDE00`, `\ud`, "dc00", "0041", `\`, `"`, `\"`, `\n`, "\xc3\xa9", "a", "\x1f")...)
	for _, text := range texts {
		for _, quoted := range []string{`"` + text + `"`, text} {
			s, after := readQuotedByWords(quoted, 0)
			wantReadQuoted(t, quoted, 0, s, after)
			var other string
			if after >= 0 && (json.Unmarshal([]byte(quoted[:after]), &other) != nil || other != s) {
				t.Errorf("encoding/json reads %q as %q; want %q", quoted, other, s)
			}
		}
	}
}

func TestReadWholeOfKnownNumbers(t *testing.T) {
	for text, want := range map[string]int{
		"0": 0, "-0": 0, "1": 1, "-1": -1, "9": 9, "10": 10, "-10": -10, "100": 100, "42": 42, "-12": -12, "1000000000000000000": 1e18, "4294967296": 1 << 32, "-2147483649": -1<<31 - 1,
		"9223372036854775806": math.MaxInt - 1, "9223372036854775807": math.MaxInt, "-9223372036854775807": -math.MaxInt, "-9223372036854775808": -math.MaxInt - 1, "9007199254740993": 1<<53 + 1,
	} {
		wantWhole(t, text, 0, want, len(text))
		wantWhole(t, "ab"+text, 2, want, len(text)+2)
		wantWhole(t, text+",", 0, want, len(text))
		wantSign(t, text, 0, impl.Sign{Kind: impl.JtNum, Num: want}, len(text))
		wantSigns(t, text, impl.Sign{Kind: impl.JtNum, Num: want})
	}
	for _, n := range edgeInts() {
		text := fmt.Sprint(n)
		wantWhole(t, "1 "+text+" 1", 2, n, len(text)+2)
	}
}

func TestReadWholeBeyondTheRange(t *testing.T) {
	list := []string{"9223372036854775808", "-9223372036854775809", "9223372036854775809", "-9223372036854775810", "9223372036854775817", "10000000000000000000", "18446744073709551615", "18446744073709551616", "18446744073709551617", "-18446744073709551617",
		"27670116110564327425", "-27670116110564327423", "99999999999999999999", "100000000000000000000", "-100000000000000000000", "36893488147419103233", "340282366920938463463374607431768211457"}
	for _, zeros := range []int{19, 20, 64, 65, 127, 128, 1000, 19999} {
		list = append(list, "1"+strings.Repeat("0", zeros), "-1"+strings.Repeat("0", zeros), strings.Repeat("9", zeros+1))
	}
	for _, text := range list {
		wantNoWhole(t, text, 0)
		wantNoWhole(t, text+",", 0)
		wantNoWhole(t, "a"+text, 1)
		wantNoSign(t, text, 0)
		wantNoSigns(t, "["+text[:min(len(text), 19999)], impl.FtSign, 1)
	}
}

func TestReadWholeOfLeadingZeros(t *testing.T) {
	for _, text := range []string{"00", "01", "-00", "-01", "007", "-007", "010", "0000000000", "00000000000000000001", "01x", "09", strings.Repeat("0", 20000)} {
		wantNoWhole(t, text, 0)
		wantNoWhole(t, text+" ", 0)
		wantNoSign(t, text, 0)
	}
	wantWhole(t, "01", 1, 1, 2)
	wantNoWhole(t, "100", 1)
	wantWhole(t, "100", 2, 0, 3)
}

func TestReadWholeOfAMinusSign(t *testing.T) {
	wantNoWhole(t, "-", 0)
	wantNoWhole(t, "1-", 1)
	for b := range 256 {
		next := allBytes()[b : b+1]
		for _, behind := range []string{"", "1", "-1"} {
			if b < '0' || b > '9' {
				wantNoWhole(t, "-"+next+behind, 0)
				wantNoSign(t, "-"+next+behind, 0)
			}
		}
	}
	for _, text := range []string{"--1", "+1", "-+1", "- 1", "-a", "-.1", "-e1", "\xe2\x88\x921"} {
		wantNoWhole(t, text, 0)
	}
	wantWhole(t, "--1", 1, -1, 3)
}

func TestReadWholeFollowedByAnotherByte(t *testing.T) {
	for _, digits := range []string{"0", "-0", "7", "-12", "9223372036854775807", "-9223372036854775808"} {
		n, _ := readWholeByWords(digits, 0)
		for b := range 256 {
			for _, behind := range []string{"", "0", "1", "x", ".", "\xa9"} {
				text := digits + allBytes()[b:b+1] + behind
				want, after := readWholeByWords(text, 0)
				wantWhole(t, text, 0, want, after)
				switch {
				case strings.Contains(".eE", string(rune(b))):
					wantNoWhole(t, text, 0)
				case b < '0' || b > '9':
					wantWhole(t, text, 0, n, len(digits))
				}
			}
		}
	}
	for _, text := range []string{"1.5", "1.", "0.0", "-0.5", "1e3", "1E3", "1e", "0E", "-1e-1", "12.", "12e+1"} {
		wantNoWhole(t, text, 0)
		wantNoSign(t, text, 0)
		wantNoSigns(t, "["+text+"]", impl.FtSign, 1)
	}
	wantWhole(t, "12a", 0, 12, 2)
	wantWhole(t, "12-3", 0, 12, 2)
	wantWhole(t, "0x10", 0, 0, 1)
	wantWhole(t, "1_000", 0, 1, 1)
	wantWhole(t, "1,5", 0, 1, 1)
	wantWhole(t, "12 e", 0, 12, 2)
}

func TestReadWholeAtOtherOffsets(t *testing.T) {
	const text = "a12-30]"
	wantWhole(t, text, 1, 12, 3)
	wantWhole(t, text, 2, 2, 3)
	wantWhole(t, text, 3, -30, 6)
	wantWhole(t, text, 5, 0, 6)
	wantNoWhole(t, text, 0)
	wantNoWhole(t, text, 6)
	for b := range 256 {
		if first := allBytes()[b : b+1]; !strings.Contains("-0123456789", first) {
			wantNoWhole(t, first, 0)
			wantNoWhole(t, first+"1", 0)
			wantNoWhole(t, first+"-1", 0)
		}
	}
	for _, text := range []string{"", "0", "1", "-1", "12,", "a", strings.Repeat("1", 20000)} {
		for _, at := range absentOffsets(text) {
			wantNoWhole(t, text, at)
		}
	}
}

func TestSignAtOfEachKind(t *testing.T) {
	for text, want := range map[string]impl.Sign{
		"{": {Kind: 1}, "}": {Kind: 2}, "[": {Kind: 3}, "]": {Kind: 4}, ":": {Kind: 5}, ",": {Kind: 6}, `""`: {Kind: 7}, `"a"`: {Kind: 7, Text: "a"}, `"\u0041\n"`: {Kind: 7, Text: "A\n"}, `"true"`: {Kind: 7, Text: "true"}, `"12"`: {Kind: 7, Text: "12"},
		"0": {Kind: 8}, "-0": {Kind: 8}, "7": {Kind: 8, Num: 7}, "-12": {Kind: 8, Num: -12}, "true": {Kind: 9}, "false": {Kind: 10}, "null": {Kind: 11},
	} {
		for _, before := range []string{"", " ", "{", "[1,", `"a"`, "\xff", "tru", "longer text before "} {
			for _, behind := range []string{"", " ", "\n", "]", "}", ",", ":", `"`, "\xff", "x", "-"} {
				want.At = len(before)
				wantSign(t, before+text+behind, len(before), want, len(before)+len(text))
			}
		}
	}
	for i := range 10 {
		digit := fmt.Sprint(i)
		wantSign(t, digit, 0, impl.Sign{Kind: impl.JtNum, Num: i}, 1)
		wantSign(t, "-"+digit, 0, impl.Sign{Kind: impl.JtNum, Num: -i}, 2)
	}
}

func TestSignAtOfWordsThatAreCutOrInAnotherCase(t *testing.T) {
	for _, word := range []string{"true", "false", "null"} {
		for cut := range len(word) {
			wantNoSign(t, word[:cut], 0)
			for _, behind := range []string{" ", ",", "\"", "x", "\x00", word[cut:cut+1] + "\x00"} {
				text := word[:cut] + behind
				sign, after := signByWords(text, 0)
				wantSign(t, text, 0, sign, after)
			}
			upper := word[:cut] + strings.ToUpper(word[cut:cut+1]) + word[cut+1:]
			wantNoSign(t, upper, 0)
			if cut > 0 {
				wantNoSign(t, word, cut)
				wantNoSign(t, word[:cut]+" "+word[cut:], 0)
			}
			for b := range 256 {
				if byte(b) != word[cut] {
					text := word[:cut] + allBytes()[b:b+1] + word[cut+1:]
					sign, after := signByWords(text, 0)
					wantSign(t, text, 0, sign, after)
				}
			}
		}
		wantNoSign(t, strings.ToUpper(word), 0)
	}
	for _, text := range []string{"nil", "none", "yes", "no", "on", "~", "undefined", "NaN", "Infinity", "tr ue", "nul", "truE"} {
		wantNoSign(t, text, 0)
		wantNoSigns(t, "["+text+"]", impl.FtSign, 1)
	}
}

// A word is a token whatever follows it; the chapter does not say that it must end there.
func TestSignAtOfWordsFollowedByOtherBytes(t *testing.T) {
	for i, word := range []string{"true", "false", "null"} {
		for b := range 256 {
			wantSign(t, word+allBytes()[b:b+1], 0, impl.Sign{Kind: 9 + i}, len(word))
		}
	}
	wantSigns(t, "truefalsenull", impl.Sign{Kind: 9}, impl.Sign{Kind: 10, At: 4}, impl.Sign{Kind: 11, At: 9})
	wantSigns(t, "null12", impl.Sign{Kind: 11}, impl.Sign{Kind: 8, Num: 12, At: 4})
	wantSigns(t, "12true", impl.Sign{Kind: 8, Num: 12}, impl.Sign{Kind: 9, At: 2})
	wantSigns(t, `false"a"`, impl.Sign{Kind: 10}, impl.Sign{Kind: 7, Text: "a", At: 5})
	wantNoSigns(t, "truex", impl.FtSign, 4)
	wantNoSigns(t, "nulls", impl.FtSign, 4)
	wantNoSigns(t, "falsey", impl.FtSign, 5)
	wantNoSigns(t, "true_", impl.FtSign, 4)
}

func TestSignAtOfOtherBytes(t *testing.T) {
	for b := range 256 {
		first := allBytes()[b : b+1]
		if strings.Contains("{}[]:,0123456789", first) {
			continue
		}
		wantNoSign(t, first, 0)
		wantNoSign(t, first+" ", 0)
		wantNoSign(t, "[]"+first, 2)
		if !strings.Contains(`-"`, first) {
			wantNoSign(t, first+"1", 0)
			wantNoSign(t, first+`"a"`, 0)
			wantNoSign(t, first+"true", 0)
		}
	}
	for _, text := range []string{"\xc3\xa9", "\xef\xbb\xbf1", "\xc2\xa0", "\xe2\x80\x9ca\xe2\x80\x9d", "'a'", "//", "/* */", "#", "(1)", "=", ";", "&a", "`a`"} {
		wantNoSign(t, text, 0)
	}
}

func TestSignAtOfInvalidTextsAndNumbers(t *testing.T) {
	for _, text := range []string{`"`, `"a`, `"\"`, `"\x"`, `"\u12"`, `"\ud800"`, `"\udc00"`, "\"\n\"", "\"\xff\"", "01", "-", "-a", "-01", "1.5", "1e5", "9223372036854775808"} {
		wantNoSign(t, text, 0)
		wantNoSign(t, "  "+text, 2)
		if utf8.ValidString(text) {
			wantNoSigns(t, "[1, "+text, impl.FtSign, 4)
		} else {
			wantNoSigns(t, "[1, "+text, impl.FtUtf8, 5)
		}
	}
}

func TestSignAtOffsetsThatDoNotExist(t *testing.T) {
	for _, text := range []string{"", "1", "{", `""`, "true", "[1, 2]", "\xff", strings.Repeat("[", 20001)} {
		for _, at := range absentOffsets(text) {
			wantNoSign(t, text, at)
		}
	}
}

func TestSignsOfKnownTexts(t *testing.T) {
	wantSigns(t, `{"a": [1, true]}`, impl.Sign{Kind: 1}, impl.Sign{Kind: 7, Text: "a", At: 1}, impl.Sign{Kind: 5, At: 4}, impl.Sign{Kind: 3, At: 6}, impl.Sign{Kind: 8, Num: 1, At: 7},
		impl.Sign{Kind: 6, At: 8}, impl.Sign{Kind: 9, At: 10}, impl.Sign{Kind: 4, At: 14}, impl.Sign{Kind: 2, At: 15})
	wantSigns(t, " {\n\t\"n\\u00e9\"\r\n:-7 ,\"\xc3\xa9\":null,false\n}\n", impl.Sign{Kind: 1, At: 1}, impl.Sign{Kind: 7, Text: "n\xc3\xa9", At: 4}, impl.Sign{Kind: 5, At: 15}, impl.Sign{Kind: 8, Num: -7, At: 16}, impl.Sign{Kind: 6, At: 19},
		impl.Sign{Kind: 7, Text: "\xc3\xa9", At: 20}, impl.Sign{Kind: 5, At: 24}, impl.Sign{Kind: 11, At: 25}, impl.Sign{Kind: 6, At: 29}, impl.Sign{Kind: 10, At: 30}, impl.Sign{Kind: 2, At: 36})
	wantSigns(t, `""""`, impl.Sign{Kind: 7}, impl.Sign{Kind: 7, At: 2})
	wantSigns(t, "1-2", impl.Sign{Kind: 8, Num: 1}, impl.Sign{Kind: 8, Num: -2, At: 1})
	wantSigns(t, `"a"1"b"`, impl.Sign{Kind: 7, Text: "a"}, impl.Sign{Kind: 8, Num: 1, At: 3}, impl.Sign{Kind: 7, Text: "b", At: 4})
	// Tokens need not form a value.
	wantSigns(t, "}],:[{", impl.Sign{Kind: 2}, impl.Sign{Kind: 4, At: 1}, impl.Sign{Kind: 6, At: 2}, impl.Sign{Kind: 5, At: 3}, impl.Sign{Kind: 3, At: 4}, impl.Sign{Kind: 1, At: 5})
	// The limits of trees do not concern tokens.
	long := strings.Repeat("a", impl.MaxString+1)
	wantSigns(t, `"`+long+`"`, impl.Sign{Kind: 7, Text: long})
}

func TestSignsOfTextsWithoutTokens(t *testing.T) {
	for _, text := range textsOf(4, " ", "\t", "\n", "\r") {
		wantSigns(t, text)
	}
	wantSigns(t, "")
	wantSigns(t, strings.Repeat(" \t\n\r", 5000))
	wantNoSigns(t, strings.Repeat(" \t\n\r", 5000)+" ", impl.FtLong, 0)
}

// tokenTexts are texts of single tokens, with what they mean.
func tokenTexts() map[string]impl.Sign {
	return map[string]impl.Sign{"{": {Kind: 1}, "}": {Kind: 2}, "[": {Kind: 3}, "]": {Kind: 4}, ":": {Kind: 5}, ",": {Kind: 6}, `"a b"`: {Kind: 7, Text: "a b"}, `"\t"`: {Kind: 7, Text: "\t"}, "0": {Kind: 8}, "-15": {Kind: 8, Num: -15}, "true": {Kind: 9}, "false": {Kind: 10}, "null": {Kind: 11}}
}

func TestSignsOfWhiteSpaceAroundTokens(t *testing.T) {
	for first, a := range tokenTexts() {
		for second, b := range tokenTexts() {
			for _, blank := range []string{" ", "\t", "\n", "\r", "\r\n", "  \t\t\n\n\r\r "} {
				a.At, b.At = len(blank), len(first)+2*len(blank)
				wantSigns(t, blank+first+blank+second+blank, a, b)
			}
		}
	}
}

func TestSignsOfBytesThatAreNoWhiteSpace(t *testing.T) {
	others := []string{"\xc2\xa0", "\xc2\x85", "\xe2\x80\xa8", "\xe2\x80\x83", "\xe3\x80\x80", "\xef\xbb\xbf", "\xef\xbf\xbd", "\xf0\x9f\x98\x80"}
	for b := range 128 {
		if other := allBytes()[b : b+1]; !strings.Contains(" \t\n\r{}[]:,0123456789\"-", other) {
			others = append(others, other)
		}
	}
	for _, other := range others {
		wantNoSigns(t, other, impl.FtSign, 0)
		wantNoSigns(t, other+"[", impl.FtSign, 0)
		wantNoSigns(t, " "+other+" [", impl.FtSign, 1)
		wantNoSigns(t, "["+other+"]", impl.FtSign, 1)
		wantNoSigns(t, "[\n"+other+"\n]", impl.FtSign, 2)
		wantNoSigns(t, "[]"+other, impl.FtSign, 2)
		wantNoSigns(t, "[] "+other, impl.FtSign, 3)
	}
}

// White space splits words and numbers, and belongs to strings.
func TestSignsOfWhiteSpaceInsideTokens(t *testing.T) {
	wantNoSigns(t, "tr ue", impl.FtSign, 0)
	wantNoSigns(t, "- 1", impl.FtSign, 0)
	wantSigns(t, "1 2", impl.Sign{Kind: 8, Num: 1}, impl.Sign{Kind: 8, Num: 2, At: 2})
	wantSigns(t, "0 1", impl.Sign{Kind: 8}, impl.Sign{Kind: 8, Num: 1, At: 2})
	wantSigns(t, `" a  b "`, impl.Sign{Kind: 7, Text: " a  b "})
	wantNoSigns(t, "\"a\tb\"", impl.FtSign, 0)
	wantNoSigns(t, "\"a\nb\"", impl.FtSign, 0)
}

func TestSignsOfLongTexts(t *testing.T) {
	marks, fault := impl.SignsOf(strings.Repeat("[", 20000))
	if len(marks) != 20000 || fault != (impl.Fault{}) || marks[19999] != (impl.Sign{Kind: 3, At: 19999}) {
		t.Errorf("SignsOf 20000 marks = %d tokens, %v", len(marks), fault)
	}
	wantNoSigns(t, strings.Repeat("[", 20001), impl.FtLong, 0)
	for _, text := range []string{strings.Repeat("a", 19998), strings.Repeat("\xc3\xa9", 9999), strings.Repeat("\xf0\x9f\x98\x80", 4999) + "ab"} {
		quoted := `"` + text + `"`
		wantSigns(t, quoted, impl.Sign{Kind: 7, Text: text})
		wantNoSigns(t, quoted+" ", impl.FtLong, 0)
		wantNoSigns(t, " "+quoted, impl.FtLong, 0)
	}
	for _, size := range []int{20001, 20002, 40000, 100000} {
		wantNoSigns(t, strings.Repeat(" ", size), impl.FtLong, 0)
		wantNoSigns(t, strings.Repeat("\xc3\xa9", size), impl.FtLong, 0)
	}
	wantSigns(t, strings.Repeat(" ", 19999)+"1", impl.Sign{Kind: 8, Num: 1, At: 19999})
	wantSigns(t, "1"+strings.Repeat("\n", 19999), impl.Sign{Kind: 8, Num: 1})
}

func TestSignsOfTextsWithSeveralFaults(t *testing.T) {
	wantNoSigns(t, "x\xff"+strings.Repeat("[", 19999), impl.FtLong, 0)
	wantNoSigns(t, strings.Repeat("[", 20000)+"\xff", impl.FtLong, 0)
	wantNoSigns(t, strings.Repeat("x", 20001), impl.FtLong, 0)
	wantNoSigns(t, strings.Repeat("\xff", 20001), impl.FtLong, 0)
	wantNoSigns(t, strings.Repeat("\xff", 20000), impl.FtUtf8, 0)
	wantNoSigns(t, strings.Repeat("x", 19999)+"\xff", impl.FtUtf8, 19999)
	wantNoSigns(t, strings.Repeat("x", 20000), impl.FtSign, 0)
	wantNoSigns(t, "x\xff", impl.FtUtf8, 1)
	wantNoSigns(t, "x \xc3\xa9 \x80 \xff", impl.FtUtf8, 5)
	wantNoSigns(t, `[tru, "a`+"\xc3", impl.FtUtf8, 8)
	wantNoSigns(t, `["a`+"\xff"+`b", 01`, impl.FtUtf8, 3)
	wantNoSigns(t, "\"\n\xed\xa0\x80\"", impl.FtUtf8, 2)
	wantNoSigns(t, "01 1.5 x", impl.FtSign, 0)
	wantNoSigns(t, "1 1.5 x", impl.FtSign, 2)
	wantNoSigns(t, "[1, \"a\\x\", \"b", impl.FtSign, 4)
}

func TestSignsOfInvalidUtf8(t *testing.T) {
	for _, s := range unquotableStrings() {
		_, fault := signsByWords(s)
		wantNoSigns(t, s, impl.FtUtf8, fault.At)
		wantNoSigns(t, "[1, "+s, impl.FtUtf8, fault.At+4)
		wantNoSigns(t, "\"\xc3\xa9"+s, impl.FtUtf8, fault.At+3)
		wantSignsAsDocumented(t, s+"\"")
		wantSignsAsDocumented(t, "[\""+s+"\" x]")
	}
	wantNoSigns(t, "\xe2\x82", impl.FtUtf8, 0)
	wantNoSigns(t, "[\xe2\x82]", impl.FtUtf8, 1)
	wantNoSigns(t, "[]\xe2", impl.FtUtf8, 2)
	wantNoSigns(t, "\"\xe2\x82\xac\xe2\x82\"", impl.FtUtf8, 4)
}

func TestSignsOfFaultyTokens(t *testing.T) {
	for text, at := range map[string]int{
		"x": 0, "[x]": 1, "[1 01]": 3, `"a`: 0, `"a" "b`: 4, "[1, tru]": 4, " \t\n\r x": 5, "1.5": 0, "[1.5]": 1, "-": 0, "[-]": 1, "[1,-,2]": 3, "\xc3\xa9": 0, `"\u12"`: 0, `"a\"`: 0, `["a", "\ud800"]`: 6, `["a", "\udc00"]`: 6,
		`{"a": 'b'}`: 6, "[1] // c": 4, "[1]#": 3, "[1;2]": 2, "[9223372036854775808]": 1, "[-9223372036854775809]": 1, "12 -": 3, "true tru": 5, "+1": 0, "[1e3]": 1, ".5": 0, "[1, 2, True]": 7, "\x00": 0, "[\x00]": 1, "[]\x00": 2, `""a`: 2, "\\": 0, `{"a\/": \n}`: 8,
	} {
		wantNoSigns(t, text, impl.FtSign, at)
	}
}

func TestTokensAsDocumented(t *testing.T) {
	for _, text := range textsOf(4, `"`, `\`, "u", "1", "-", "0", ".", "e", "{", " ", "\xc3") {
		wantTokensAsDocumented(t, text)
	}
}

func TestRandomTokensAsDocumented(t *testing.T) {
	r := rand.New(rand.NewSource(99))
	pieces := []string{"{", "}", "[", "]", ":", ",", " ", "\t", "\n", "\r", "\r\n", "true", "false", "null", "0", "-1", "42", `"a"`, `""`, `"\n\u0041"`, `"\ud83d\ude00"`, "\"\xc3\xa9\"", "9223372036854775807", "-9223372036854775808"}
	faulty := []string{"tru", "-", "01", "1.5", `"`, `\`, "x", "\xc3\xa9", "\xff", "\xe2\x82", "\x00", `"\x"`, `"\ud83d"`, "9223372036854775808", "\x0b"}
	accepted := 0
	for range 20000 {
		text := ""
		for range r.Intn(12) {
			text += pieces[r.Intn(len(pieces))]
		}
		if r.Intn(2) == 0 {
			at := r.Intn(len(text) + 1)
			text = text[:at] + faulty[r.Intn(len(faulty))] + text[at:]
		}
		wantSignsAsDocumented(t, text)
		if _, fault := signsByWords(text); fault.Code == 0 {
			accepted++
		}
	}
	if accepted < 4000 || accepted > 16000 {
		t.Errorf("%d of 20000 random texts have no fault", accepted)
	}
}

// White space between tokens changes their offsets and nothing else.
func TestWhiteSpaceBetweenTokensHasNoEffect(t *testing.T) {
	r := rand.New(rand.NewSource(9))
	texts := []string{}
	for text := range tokenTexts() {
		texts = append(texts, text)
	}
	slices.Sort(texts)
	for range 5000 {
		tight, loose := "", strings.Repeat(" ", r.Intn(3))
		want, wantLoose := []impl.Sign{}, []impl.Sign{}
		for range r.Intn(20) {
			text := texts[r.Intn(len(texts))]
			// Digits that follow digits belong to the same number.
			if text == "0" && strings.TrimRight(tight, "0123456789") != tight {
				text = "["
			}
			sign := tokenTexts()[text]
			sign.At = len(tight)
			want = append(want, sign)
			sign.At = len(loose)
			wantLoose = append(wantLoose, sign)
			tight += text
			loose += text
			for range r.Intn(4) {
				loose += []string{" ", "\t", "\n", "\r"}[r.Intn(4)]
			}
		}
		wantSigns(t, tight, want...)
		wantSigns(t, loose, wantLoose...)
	}
}

func TestSignsOfSharesNoMemory(t *testing.T) {
	const text = `["a", "b", 3]`
	first, _ := impl.SignsOf(text)
	second, _ := impl.SignsOf(text)
	want, _ := signsByWords(text)
	if overlap(spanOf(first), spanOf(second)) {
		t.Error("two results of SignsOf share memory")
	}
	for i := range first {
		first[i] = impl.Sign{Kind: 99, Text: "changed", Num: 99, At: 99}
	}
	_ = append(first, impl.Sign{Kind: 98})
	if !slices.Equal(second, want) {
		t.Errorf("the second result is %v after a change of the first; want %v", second, want)
	}
	wantSigns(t, text, want...)
}

// The bytes of the arguments lie in a slice here, so that a change would be seen.
func TestTokensKeepTheirArguments(t *testing.T) {
	for _, text := range []string{`["a\n", -12, true]`, "a\nb\"c\\", `"\ud83d\ude00"`, "\xff\xc3", "12", "null ", ""} {
		kept := append([]byte(text), "spare"...)
		arg := unsafe.String(unsafe.SliceData(kept), len(text))
		impl.Quoted(arg)
		impl.SignsOf(arg)
		for at := -1; at <= len(arg)+1; at++ {
			impl.ReadQuoted(arg, at)
			impl.ReadWhole(arg, at)
			impl.SignAt(arg, at)
		}
		if string(kept) != text+"spare" {
			t.Errorf("the argument %q was changed to %q", text+"spare", kept)
		}
	}
}
