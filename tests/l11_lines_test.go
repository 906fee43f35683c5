package tests

import (
	"fmt"
	"math/rand"
	"regexp"
	"slices"
	"strings"
	"sync"
	"testing"
	"testing/synctest"
	"unsafe"

	"loop.example/g00968/impl"
)

// The following functions say what the document says.

// scannedLine returns the offset at which the comment of a line begins, or the length of the line, and whether a quoted string is open there.
func scannedLine(line string) (int, bool) {
	inside, skipped := false, false
	for i, b := range []byte(line) {
		begins := i == 0 || line[i-1] == 32
		switch {
		case skipped:
			skipped = false
		case inside:
			skipped = b == 92
			inside = b != 34
		case begins && b == 35:
			return i, false
		case begins && b == 34:
			inside = true
		}
	}
	return len(line), inside
}

func bareByWords(line string) string {
	end, _ := scannedLine(line)
	for end > 0 && line[end-1] == 32 {
		end--
	}
	return line[:end]
}

var (
	spacesAhead = regexp.MustCompile(`^\x20*`)
	hyphenAhead = regexp.MustCompile(`^-\x20+`)
)

func indentByWords(line string) int {
	return len(spacesAhead.FindString(line))
}

func linesByWords(text string) ([]impl.Line, impl.Fault) {
	if fault := encodingByWords(text); fault.Code != 0 {
		return nil, fault
	}
	lines := []string{""}
	for i := range len(text) {
		if text[i] == 10 {
			lines = append(lines, "")
		} else if text[i] < 32 {
			return nil, impl.Fault{Code: 3, At: len(lines)}
		} else {
			lines[len(lines)-1] += text[i : i+1]
		}
	}
	list := []impl.Line{}
	for i, line := range lines {
		if bare := bareByWords(line); bare != "" {
			indent := indentByWords(bare)
			list = append(list, impl.Line{Indent: indent, Text: bare[indent:], At: i + 1})
		}
	}
	return list, impl.Fault{}
}

func keyByWords(text string) (string, string, bool) {
	ends := func(at int) bool {
		return at < len(text) && text[at] == 58 && (at+1 == len(text) || text[at+1] == 32)
	}
	key, at := "", 0
	if strings.HasPrefix(text, `"`) {
		key, at = readQuotedByWords(text, 0)
		if at < 0 || !ends(at) {
			return "", "", false
		}
	} else {
		for at < len(text) && !ends(at) {
			at++
		}
		key = text[:at]
		if at == len(text) || !plainByWords(key) {
			return "", "", false
		}
	}
	rest := text[at+1:]
	return key, rest[indentByWords(rest):], true
}

func itemByWords(text string) (string, int, bool) {
	if text == "-" {
		return "", 0, true
	}
	mark := hyphenAhead.FindString(text)
	if mark == "" {
		return "", 0, false
	}
	return text[len(mark):], len(mark), true
}

// plainByWords looks at code points, where the program looks at bytes.
func plainByWords(text string) bool {
	list, ok := decodedRunes(text)
	if !ok || len(text) < 1 || len(text) > 400 {
		return false
	}
	digits := 0
	for i, n := range list {
		if n < 32 || n == 34 || n == 35 || n == 92 || n == 58 && (i+1 == len(list) || list[i+1] == 32) {
			return false
		}
		if n >= 48 && n <= 57 {
			digits++
		}
	}
	noFirst := []int{45, 63, 58, 44, 91, 93, 123, 125, 38, 42, 33, 124, 62, 39, 37, 64, 96}
	if slices.Contains(noFirst, list[0]) || list[0] == 32 || list[len(list)-1] == 32 || digits == len(list) {
		return false
	}
	return text != "null" && text != "~" && text != "true" && text != "false"
}

func wantBare(t *testing.T, line string, want string) {
	t.Helper()
	if got := impl.BareLine(line); got != want {
		t.Errorf("BareLine(%.60q of %d bytes) = %.60q of %d bytes; want %.60q of %d bytes", line, len(line), got, len(got), want, len(want))
	}
}

func wantSameBare(t *testing.T, lines ...string) {
	t.Helper()
	for _, line := range lines {
		wantBare(t, line, line)
	}
}

func wantIndent(t *testing.T, line string, want int) {
	t.Helper()
	if got := impl.IndentOf(line); got != want {
		t.Errorf("IndentOf(%.60q of %d bytes) = %d; want %d", line, len(line), got, want)
	}
}

func wantLines(t *testing.T, text string, want ...impl.Line) {
	t.Helper()
	if got, fault := impl.LinesIn(text); !slices.Equal(got, want) || fault != (impl.Fault{}) {
		t.Errorf("LinesIn(%.60q of %d bytes) = %.5v of %d, %v; want %.5v of %d, no fault", text, len(text), got, len(got), fault, want, len(want))
	}
}

func wantNoLines(t *testing.T, text string, code int, at int) {
	t.Helper()
	if got, fault := impl.LinesIn(text); len(got) != 0 || fault != (impl.Fault{Code: code, At: at}) {
		t.Errorf("LinesIn(%.60q of %d bytes) = %.5v of %d, %v; want nil and the fault %d at %d", text, len(text), got, len(got), fault, code, at)
	}
}

func wantLinesAsDocumented(t *testing.T, text string) {
	t.Helper()
	if list, fault := linesByWords(text); fault.Code == 0 {
		wantLines(t, text, list...)
	} else {
		wantNoLines(t, text, fault.Code, fault.At)
	}
}

func wantKey(t *testing.T, text string, key string, rest string) {
	t.Helper()
	if gotKey, gotRest, ok := impl.KeyOf(text); gotKey != key || gotRest != rest || !ok {
		t.Errorf("KeyOf(%.60q of %d bytes) = %.60q, %.60q, %v; want %.60q, %.60q, true", text, len(text), gotKey, gotRest, ok, key, rest)
	}
}

func wantNoKey(t *testing.T, texts ...string) {
	t.Helper()
	for _, text := range texts {
		if key, rest, ok := impl.KeyOf(text); key != "" || rest != "" || ok {
			t.Errorf("KeyOf(%.60q of %d bytes) = %.60q, %.60q, %v; want \"\", \"\", false", text, len(text), key, rest, ok)
		}
	}
}

func wantItem(t *testing.T, text string, item string, size int) {
	t.Helper()
	if gotItem, gotSize, ok := impl.ItemOf(text); gotItem != item || gotSize != size || !ok {
		t.Errorf("ItemOf(%.60q of %d bytes) = %.60q, %d, %v; want %.60q, %d, true", text, len(text), gotItem, gotSize, ok, item, size)
	}
}

func wantNoItem(t *testing.T, texts ...string) {
	t.Helper()
	for _, text := range texts {
		if item, size, ok := impl.ItemOf(text); item != "" || size != 0 || ok {
			t.Errorf("ItemOf(%.60q of %d bytes) = %.60q, %d, %v; want \"\", 0, false", text, len(text), item, size, ok)
		}
	}
}

func wantPlain(t *testing.T, want bool, texts ...string) {
	t.Helper()
	for _, text := range texts {
		if got := impl.PlainOk(text); got != want {
			t.Errorf("PlainOk(%.60q of %d bytes) = %v; want %v", text, len(text), got, want)
		}
	}
}

// wantLineAsDocumented compares the functions for a single line with the document.
func wantLineAsDocumented(t *testing.T, line string) {
	t.Helper()
	wantBare(t, line, bareByWords(line))
	wantIndent(t, line, indentByWords(line))
	if key, rest, ok := keyByWords(line); ok {
		wantKey(t, line, key, rest)
	} else {
		wantNoKey(t, line)
	}
	if item, size, ok := itemByWords(line); ok {
		wantItem(t, line, item, size)
	} else {
		wantNoItem(t, line)
	}
	wantPlain(t, plainByWords(line), line)
}

// controlBytes are the bytes below 32 other than the newline.
func controlBytes() []string {
	list := []string{}
	for b := range 32 {
		if b != 10 {
			list = append(list, allBytes()[b:b+1])
		}
	}
	return list
}

// otherSpaces are white space, or look like it, but are not the space.
func otherSpaces() []string {
	return []string{"\t", "\n", "\r", "\v", "\f", "\x00", "\x7f", "\xc2\x85", "\xc2\xa0", "\xe2\x80\x83", "\xe2\x80\xa8", "\xe3\x80\x80", "\xef\xbb\xbf"}
}

func TestBareLineWithoutComment(t *testing.T) {
	for line, want := range map[string]string{
		"": "", " ": "", "  ": "", "          ": "", "a": "a", "a ": "a", "a   ": "a", " a": " a", "  a  ": "  a", "a b": "a b", "a  b ": "a  b", "a: b  ": "a: b", "- ": "-", "a: ": "a:", "\xc3\xa9 ": "\xc3\xa9", "  \xf0\x9f\x98\x80  ": "  \xf0\x9f\x98\x80", "a\xff ": "a\xff", "'a' ": "'a'",
	} {
		wantBare(t, line, want)
	}
	for b := range 256 {
		if last := allBytes()[b : b+1]; last != " " {
			wantBare(t, "a"+last, "a"+last)
			wantBare(t, "a"+last+"  ", "a"+last)
			wantBare(t, " a "+last+" b ", map[bool]string{false: " a " + last + " b", true: " a"}[last == "#"])
		}
	}
}

func TestBareLineOfCommentsAtTheBeginning(t *testing.T) {
	for _, line := range []string{"#", "# ", "#a", "# a", "##", "# #", "#\"a\"", "# \"a", "#\t", "#\xff", "#\n", " #", "    #", " # a", "  #a  ", " ##"} {
		wantBare(t, line, "")
	}
}

func TestBareLineOfCommentsBehindOtherText(t *testing.T) {
	for line, want := range map[string]string{
		"a #": "a", "a # b": "a", "a #b": "a", "a   # b ": "a", "  a # b": "  a", "a b # c # d": "a b", "a #b #c": "a", "a#b # c": "a#b", "a# # b": "a#", "a## #": "a##", "a: # b": "a:", "a: b # c: d": "a: b", "- # a": "-", "-# a # b": "-# a", "a # \"b": "a", "a # \"b\" # c": "a", "a ##": "a", "a # \xff": "a", "a # b\nc": "a", "\xc3\xa9 # b": "\xc3\xa9", "'a # b'": "'a",
	} {
		wantBare(t, line, want)
	}
	wantSameBare(t, "a#", "a#b", "a# b", "a#b#c", "a##", "a:#b", "-#a", "a\t# b", "'#'", "'# a'", "\\# a", "(#", "\xc3\xa9#", "\xc3\xa9# a", "\xff# a")
}

// A comment begins behind a space and behind no other byte.
func TestBareLineOfEachByteAheadOfAHash(t *testing.T) {
	for b := range 256 {
		line := "a" + allBytes()[b:b+1] + "# b"
		wantBare(t, line, map[bool]string{true: "a", false: line}[b == 32])
		if line = line[1:]; b == 32 || b == 35 {
			wantBare(t, line, "")
		} else {
			wantBare(t, line, line)
		}
	}
}

func TestBareLineOfHashesInsideQuotedStrings(t *testing.T) {
	wantSameBare(t, `"#"`, `"# a"`, `"a # b"`, `"a #"`, `" #"`, `" # "`, `"#" "#"`, `  "a # b"`, `a "b # c"`, `a: "b # c"`, `- "# b"`, `"a # b": "c # d"`, `"a # b": c`, `"a" "b # c" "d # e"`, `"'" "# a"`)
	for line, want := range map[string]string{
		`"a # b" # c`: `"a # b"`, `"#" #`: `"#"`, `a: "b # c"  # d`: `a: "b # c"`, `"a # b": "c # d" # e`: `"a # b": "c # d"`, `"a # b"  `: `"a # b"`, `"#"# #`: `"#"#`, `"#"a # b`: `"#"a`,
	} {
		wantBare(t, line, want)
	}
}

func TestBareLineOfHashesBehindQuotedStrings(t *testing.T) {
	for line, want := range map[string]string{
		`"a" # b`: `"a"`, `"a" #`: `"a"`, `"a"   # b`: `"a"`, `"a " # b`: `"a "`, `" " # b`: `" "`, `"" # b`: `""`, `"a"b # c`: `"a"b`, `"a": b # c`: `"a": b`, `"a", # b`: `"a",`, `"a"# b # c`: `"a"# b`, `a "b" # c`: `a "b"`, `"a" "b" # c`: `"a" "b"`, `"a" "b" "c" # d`: `"a" "b" "c"`,
	} {
		wantBare(t, line, want)
	}
	wantSameBare(t, `"a"#`, `"a"# b`, `"a"#b`, `""#`, `""# a`, `" "#`, `" "# a`, `a "b"# c`, `"a" "b"# c`, `"a"b# c`, `"a":# c`)
}

// A quoted string begins behind a space and behind no other byte.
func TestBareLineOfEachByteAheadOfAQuote(t *testing.T) {
	for b := range 256 {
		line := "a" + allBytes()[b:b+1] + `"b # c" # d`
		wantBare(t, line, map[bool]string{true: `a "b # c"`, false: line[:4]}[b == 32])
		switch line = line[1:]; b {
		case 32:
			wantBare(t, line, ` "b # c"`)
		case 34:
			wantBare(t, line, `""b`)
		case 35:
			wantBare(t, line, "")
		default:
			wantBare(t, line, line[:3])
		}
	}
	for line, want := range map[string]string{
		`a"b # c"`: `a"b`, `a" # b`: `a"`, `a"" # b`: `a""`, `"a""b # c"`: `"a""b`, `""" # a"`: `"""`, `"a " b" # c`: `"a " b"`, `"a"b" # c"`: `"a"b"`, `'"a # b"'`: `'"a`, `-"a # b"`: `-"a`, `a:"b # c"`: `a:"b`,
	} {
		wantBare(t, line, want)
	}
}

func TestBareLineOfQuotedStringsThatAreNotClosed(t *testing.T) {
	wantSameBare(t, `"`, `"#`, `" #`, `"a # b`, `"a # b' # c`, `a "b # c`, `"a" "b # c`, `  "a # b`, `"" "# a`, `"" "" "#`)
	for line, want := range map[string]string{`" `: `"`, `"   `: `"`, `"a # b  `: `"a # b`, `a "b # `: `a "b #`, `"a" "  `: `"a" "`} {
		wantBare(t, line, want)
	}
}

func TestBareLineOfBackslashesInsideQuotedStrings(t *testing.T) {
	wantSameBare(t, `"\" # a"`, `"\" # a`, `"a\" # b"`, `"\\\" # a"`, `"\\ # a"`, `"\\" "# a"`, `"\# a"`, `"\ # a"`, `"\a # b"`, `"a\`, `"\`, `"a # b\`, `"\\`, `"\\\`, `"\\" "\" # a"`, `"\"\" # a"`, `"a \" # b"`)
	for line, want := range map[string]string{
		`"\\" # a`: `"\\"`, `"a\\" # b`: `"a\\"`, `"\\\\" # a`: `"\\\\"`, `"\"" # a`: `"\""`, `"\\\"" # a`: `"\\\""`, `"\" # a" # b`: `"\" # a"`, `"\n" # a`: `"\n"`, `"\\"\" # a"`: `"\\"\"`, `"a\ `: `"a\`, `"a\  `: `"a\`, `"\\ `: `"\\`, `"\" `: `"\"`, `"\\" "\\" # a`: `"\\" "\\"`,
	} {
		wantBare(t, line, want)
	}
}

func TestBareLineOfBackslashesElsewhere(t *testing.T) {
	for line, want := range map[string]string{
		`\" # a"`: `\"`, `\ "# a" # b`: `\ "# a"`, `a \"b # c"`: `a \"b`, `\ # a`: `\`, `\\ # a`: `\\`, `a\ # b`: `a\`, `"a"\ # b`: `"a"\`, `"a" \" # b`: `"a" \"`, `\`: `\`, `\ `: `\`,
	} {
		wantBare(t, line, want)
	}
}

func TestBareLineOfOtherWhiteSpace(t *testing.T) {
	for _, s := range otherSpaces() {
		wantSameBare(t, s, "a"+s, "a "+s, s+"# a", "a"+s+"# b", "a"+s+"#", s+s)
		for line, want := range map[string]string{s + " ": s, "a" + s + "  ": "a" + s, s + `"a # b"`: s + `"a`, "a" + s + " # b": "a" + s, `"a"` + s + "# b # c": `"a"` + s + "# b", "a # b" + s: "a", ` "` + s + "# a": ` "` + s + "# a"} {
			wantBare(t, line, want)
		}
	}
}

func TestBareLineSetsNoLimit(t *testing.T) {
	for _, size := range []int{impl.MaxString + 1, impl.MaxText, impl.MaxText + 1, 100000} {
		for _, piece := range []string{"a", `\`, "\xff", "a#", "\t"} {
			long := strings.Repeat(piece, size)
			wantSameBare(t, long, `"`+long)
			wantBare(t, long+" # b", long)
			wantBare(t, long+strings.Repeat(" ", size), long)
			wantBare(t, long+" #"+long, long)
		}
		wantBare(t, strings.Repeat(" ", size), "")
		wantBare(t, strings.Repeat("#", size), "")
		wantBare(t, strings.Repeat(`" #" `, size), strings.Repeat(`" #" `, size-1)+`" #"`)
	}
}

func TestIndentOfKnownLines(t *testing.T) {
	for line, want := range map[string]int{
		"": 0, " ": 1, "  ": 2, "a": 0, " a": 1, "  a": 2, "    a b": 4, "a  ": 0, "  a  b": 2, " #": 1, "# ": 0, "  - a": 2, "   \"a\"": 3, " \t": 1, "\t": 0, "\t ": 0, "\ta": 0, "  \t a": 2, " \xc2\xa0 a": 1, " \xff": 1, " \n ": 1,
	} {
		wantIndent(t, line, want)
	}
	for b := range 256 {
		for count := range 5 {
			if first := allBytes()[b : b+1]; b != 32 {
				wantIndent(t, strings.Repeat(" ", count)+first, count)
				wantIndent(t, strings.Repeat(" ", count)+first+"  a", count)
			}
		}
	}
	for _, s := range otherSpaces() {
		wantIndent(t, s+" a", 0)
		wantIndent(t, "  "+s+" a", 2)
	}
	for _, size := range []int{399, 400, 401, 20000, 20001, 100000} {
		wantIndent(t, strings.Repeat(" ", size), size)
		wantIndent(t, strings.Repeat(" ", size)+"a ", size)
	}
}

func TestLinesInTextsWithoutLines(t *testing.T) {
	for _, text := range textsOf(5, "\n", " ", "#") {
		if !strings.Contains(text, "##") {
			wantLines(t, text)
		}
	}
	wantLines(t, "")
	wantLines(t, "# a\n  # \"b\n\n   \n#")
	for _, size := range []int{1, 2, 399, 400, 401, 19999, 20000} {
		wantLines(t, strings.Repeat("\n", size))
		wantLines(t, strings.Repeat(" ", size))
		wantLines(t, strings.Repeat("#", size))
	}
}

func TestLinesInKnownTexts(t *testing.T) {
	wantLines(t, "a", impl.Line{Text: "a", At: 1})
	wantLines(t, "a\n", impl.Line{Text: "a", At: 1})
	wantLines(t, "a\nb", impl.Line{Text: "a", At: 1}, impl.Line{Text: "b", At: 2})
	wantLines(t, "a\nb\n", impl.Line{Text: "a", At: 1}, impl.Line{Text: "b", At: 2})
	wantLines(t, "\na", impl.Line{Text: "a", At: 2})
	wantLines(t, "a\n\n\nb\n\n", impl.Line{Text: "a", At: 1}, impl.Line{Text: "b", At: 4})
	wantLines(t, "# a\n\n  b: 1 # c\n", impl.Line{Indent: 2, Text: "b: 1", At: 3})
	wantLines(t, "a:\n  - b\n   \n    # c\n  - d: e \n    f: \"# g\" # h\n# i\nj: k", impl.Line{Text: "a:", At: 1}, impl.Line{Indent: 2, Text: "- b", At: 2}, impl.Line{Indent: 2, Text: "- d: e", At: 5},
		impl.Line{Indent: 4, Text: `f: "# g"`, At: 6}, impl.Line{Text: "j: k", At: 8})
	wantLines(t, "   a\n b\n  c", impl.Line{Indent: 3, Text: "a", At: 1}, impl.Line{Indent: 1, Text: "b", At: 2}, impl.Line{Indent: 2, Text: "c", At: 3})
	wantLines(t, "a  b   \n  c  d", impl.Line{Text: "a  b", At: 1}, impl.Line{Indent: 2, Text: "c  d", At: 2})
	wantLines(t, "caf\xc3\xa9 # \xe2\x82\xac\n \xf0\x9f\x98\x80", impl.Line{Text: "caf\xc3\xa9", At: 1}, impl.Line{Indent: 1, Text: "\xf0\x9f\x98\x80", At: 2})
	wantLines(t, "-\n- \n-  a", impl.Line{Text: "-", At: 1}, impl.Line{Text: "-", At: 2}, impl.Line{Text: "-  a", At: 3})
	wantLines(t, "a\na\na", impl.Line{Text: "a", At: 1}, impl.Line{Text: "a", At: 2}, impl.Line{Text: "a", At: 3})
}

// Each line is looked at alone: neither a quoted string nor a backslash nor a comment goes on in the next one.
func TestLinesInTextsWithOpenStrings(t *testing.T) {
	wantLines(t, "\"a\n# b\"\n c # d", impl.Line{Text: `"a`, At: 1}, impl.Line{Indent: 1, Text: "c", At: 3})
	wantLines(t, "\"a\\\n# b\nc", impl.Line{Text: `"a\`, At: 1}, impl.Line{Text: "c", At: 3})
	wantLines(t, "a \"\n\" # b", impl.Line{Text: `a "`, At: 1}, impl.Line{Text: `" # b`, At: 2})
	wantLines(t, "# a\nb # c\n \"d # e\" # f", impl.Line{Text: "b", At: 2}, impl.Line{Indent: 1, Text: `"d # e"`, At: 3})
	wantLines(t, "a\n#b\n# \"\nc", impl.Line{Text: "a", At: 1}, impl.Line{Text: "c", At: 4})
}

type linesCase struct {
	text string
	want []impl.Line
}

// lineKinds are lines with what BareLine and IndentOf make of them; a Line without Text is left out.
func lineKinds() map[string]impl.Line {
	return map[string]impl.Line{"": {}, "   ": {}, "# a": {}, "  #": {}, "a": {Text: "a"}, "  b  ": {Indent: 2, Text: "b"}, " c # d": {Indent: 1, Text: "c"}, `"e # f"`: {Text: `"e # f"`}, "    - g:": {Indent: 4, Text: "- g:"}}
}

func TestLinesInTextsOfEachKindOfLines(t *testing.T) {
	level := []linesCase{{}}
	for n := range 4 {
		next := []linesCase{}
		for _, before := range level {
			for line, kind := range lineKinds() {
				want := slices.Clone(before.want)
				if kind.Text != "" {
					kind.At = n + 1
					want = append(want, kind)
				}
				text := before.text + line
				wantLines(t, text, want...)
				wantLines(t, text+"\n", want...)
				next = append(next, linesCase{text + "\n", want})
			}
		}
		level = next
	}
}

func TestLinesInTextsWithEachIndent(t *testing.T) {
	text, want := "", []impl.Line{}
	for indent := range 150 {
		text += strings.Repeat(" ", indent) + "a\n"
		want = append(want, impl.Line{Indent: indent, Text: "a", At: indent + 1})
	}
	wantLines(t, text, want...)
	for _, indent := range []int{399, 400, 401, 10000, 19999} {
		wantLines(t, strings.Repeat(" ", indent)+"a", impl.Line{Indent: indent, Text: "a", At: 1})
	}
}

func TestLinesInLongTexts(t *testing.T) {
	many := []impl.Line{}
	for i := range 10000 {
		many = append(many, impl.Line{Text: "a", At: i + 1})
	}
	wantLines(t, strings.Repeat("a\n", 10000), many...)
	wantLines(t, strings.Repeat("a\n", 9999)+"a", many...)
	wantNoLines(t, strings.Repeat("a\n", 10000)+"a", impl.FtLong, 0)
	wantNoLines(t, strings.Repeat("a\n", 10000)+"\n", impl.FtLong, 0)
	for _, text := range []string{strings.Repeat("a", 20000), strings.Repeat("\xc3\xa9", 10000), strings.Repeat("\xf0\x9f\x98\x80", 5000), `"` + strings.Repeat("# ", 9999) + "#"} {
		wantLines(t, text, impl.Line{Text: text, At: 1})
		for _, more := range []string{"a", " ", "\n", "#"} {
			wantNoLines(t, text+more, impl.FtLong, 0)
			wantNoLines(t, more+text, impl.FtLong, 0)
		}
	}
	wantLines(t, strings.Repeat("\n", 19999)+"a", impl.Line{Text: "a", At: 20000})
	wantLines(t, "a"+strings.Repeat(" ", 19999), impl.Line{Text: "a", At: 1})
	wantLines(t, "a #"+strings.Repeat("b", 19997), impl.Line{Text: "a", At: 1})
	for _, size := range []int{20001, 20002, 40000, 100000} {
		for _, piece := range []string{" ", "\n", "#", "a", "\xc3\xa9"} {
			wantNoLines(t, strings.Repeat(piece, size), impl.FtLong, 0)
		}
	}
}

func TestLinesInInvalidUtf8(t *testing.T) {
	for _, s := range unquotableStrings() {
		at := encodingByWords(s).At
		for _, before := range []string{"", "a", "a\n", "\n\n", "\xc3\xa9: ", "# ", "a: b # ", `"a`, "- \"\\\"", strings.Repeat("a\n", 9000)} {
			wantNoLines(t, before+s, impl.FtUtf8, len(before)+at)
			for _, behind := range []string{"\n", "\na", " # b", "\"", "\n\n\n"} {
				wantNoLines(t, before+s+behind, impl.FtUtf8, len(before)+encodingByWords(s+behind).At)
			}
		}
	}
	wantNoLines(t, "\xff", impl.FtUtf8, 0)
	wantNoLines(t, "a\xff\nb", impl.FtUtf8, 1)
	wantNoLines(t, "a\nb\n\xe2\x82", impl.FtUtf8, 4)
	wantNoLines(t, "\xe2\x82\n\xac", impl.FtUtf8, 0)
	wantNoLines(t, "a\xc3\xa9\xff b \xff", impl.FtUtf8, 3)
	wantNoLines(t, strings.Repeat("a", 19999)+"\xff", impl.FtUtf8, 19999)
	wantNoLines(t, "\xff"+strings.Repeat("\n", 19999), impl.FtUtf8, 0)
}

func TestLinesInTextsWithEachByteBelow32(t *testing.T) {
	for _, b := range controlBytes() {
		for _, line := range []string{b, "a" + b, b + "a", "a" + b + "b", "  " + b, b + "  ", "# " + b, "#" + b + "a", "a # b" + b, `"` + b + `"`, `"a` + b, `"a" ` + b, `"\` + b + `"`, "- " + b, "a: " + b, b + b} {
			wantNoLines(t, line, impl.FtSign, 1)
			wantNoLines(t, line+"\n", impl.FtSign, 1)
			wantNoLines(t, line+"\nc\nd", impl.FtSign, 1)
			wantNoLines(t, "c\n"+line+"\nd\n", impl.FtSign, 2)
			wantNoLines(t, "\n# c\n  \n"+line+"\nd\n", impl.FtSign, 4)
			wantNoLines(t, "c\nd\n"+line, impl.FtSign, 3)
			wantNoLines(t, "\n\n\n\n"+line+"\n", impl.FtSign, 5)
		}
		wantNoLines(t, strings.Repeat("\n", 19999)+b, impl.FtSign, 20000)
		wantNoLines(t, b+strings.Repeat("\n", 19999), impl.FtSign, 1)
	}
	wantNoLines(t, "a\r\nb\r\n", impl.FtSign, 1)
	wantNoLines(t, "a\n\tb", impl.FtSign, 2)
}

// The bytes from 32 on are accepted, as are code points that are line ends or white space elsewhere.
func TestLinesInTextsWithOtherBytes(t *testing.T) {
	for b := 32; b < 128; b++ {
		text := "a" + allBytes()[b:b+1] + "b"
		wantLines(t, text, impl.Line{Text: text, At: 1})
		wantLines(t, "a # "+text+"\n"+text, impl.Line{Text: "a", At: 1}, impl.Line{Text: text, At: 2})
	}
	for _, s := range []string{"\x7f", "\xc2\x80", "\xc2\x85", "\xc2\xa0", "\xe2\x80\x83", "\xe2\x80\xa8", "\xe2\x80\xa9", "\xe3\x80\x80", "\xef\xbb\xbf", "\xef\xbf\xbd", "\xf4\x8f\xbf\xbf"} {
		wantLines(t, s, impl.Line{Text: s, At: 1})
		wantLines(t, "  "+s+" a "+s+"  \n"+s, impl.Line{Indent: 2, Text: s + " a " + s, At: 1}, impl.Line{Text: s, At: 2})
		wantLines(t, s+"# a", impl.Line{Text: s + "# a", At: 1})
	}
}

func TestLinesInTextsWithSeveralFaults(t *testing.T) {
	wantNoLines(t, "\t\xff"+strings.Repeat("a", 19999), impl.FtLong, 0)
	wantNoLines(t, "\xff"+strings.Repeat("a", 20000), impl.FtLong, 0)
	wantNoLines(t, strings.Repeat("a", 20000)+"\xff", impl.FtLong, 0)
	wantNoLines(t, strings.Repeat("\t", 20001), impl.FtLong, 0)
	wantNoLines(t, strings.Repeat("\xff", 20001), impl.FtLong, 0)
	wantNoLines(t, strings.Repeat("\xff", 20000), impl.FtUtf8, 0)
	wantNoLines(t, strings.Repeat("\t", 19999)+"\xff", impl.FtUtf8, 19999)
	wantNoLines(t, strings.Repeat("\t", 20000), impl.FtSign, 1)
	wantNoLines(t, "\t\xff", impl.FtUtf8, 1)
	wantNoLines(t, "\xff\t", impl.FtUtf8, 0)
	wantNoLines(t, "a\t\nb\n\xc3\xa9\xff\n\x80", impl.FtUtf8, 7)
	wantNoLines(t, "a\xe2\x82\n\x00", impl.FtUtf8, 1)
	wantNoLines(t, "# \t\n\xc3", impl.FtUtf8, 4)
	for _, a := range controlBytes() {
		for _, b := range controlBytes() {
			wantNoLines(t, "a\n"+a+"\n"+b, impl.FtSign, 2)
			wantNoLines(t, a+"\n\n"+b, impl.FtSign, 1)
			wantNoLines(t, "\n\n"+a+b+"\n", impl.FtSign, 3)
		}
	}
}

func TestKeyOfPlainKeys(t *testing.T) {
	for text, want := range map[string][2]string{
		"a: b": {"a", "b"}, "a:": {"a", ""}, "a: ": {"a", ""}, "a:    ": {"a", ""}, "a:  b": {"a", "b"}, "a:     b  c ": {"a", "b  c "}, "a b: c": {"a b", "c"}, "a  b: c": {"a  b", "c"}, "500m: 1": {"500m", "1"}, "a: \tb": {"a", "\tb"}, "a-b/c.d: e": {"a-b/c.d", "e"},
		"a: # b": {"a", "# b"}, "a: \"b: c\"": {"a", `"b: c"`}, "a: \xff": {"a", "\xff"}, "a: \x00\n": {"a", "\x00\n"}, "a: - b": {"a", "- b"}, "caf\xc3\xa9: 1": {"caf\xc3\xa9", "1"}, "a': b": {"a'", "b"}, "a[]{}&*!|>%@`: b": {"a[]{}&*!|>%@`", "b"}, "Null: x": {"Null", "x"}, "~a: x": {"~a", "x"}, "1a: x": {"1a", "x"},
	} {
		wantKey(t, text, want[0], want[1])
	}
}

func TestKeyOfSeveralColons(t *testing.T) {
	for text, want := range map[string][2]string{
		"a: b: c": {"a", "b: c"}, "a: b:": {"a", "b:"}, "a: :": {"a", ":"}, "a: : b": {"a", ": b"}, "a:b: c": {"a:b", "c"}, "a:b:": {"a:b", ""}, "a:b:c:d: e:f: g": {"a:b:c:d", "e:f: g"}, "a::b: c": {"a::b", "c"}, "a:b: ": {"a:b", ""}, "a: b:c": {"a", "b:c"}, "a:  :b": {"a", ":b"}, "a :b: c": {"a :b", "c"},
	} {
		wantKey(t, text, want[0], want[1])
	}
	// The first colon that may end a key counts, also where the text ahead of it cannot be a key.
	wantNoKey(t, "a::", "a:: b", "a::: b", "a:::", ":: a", "::", ": a: b", "a : b: c")
}

// A colon ends a key at the end of the text and ahead of a space only.
func TestKeyOfEachByteBehindTheColon(t *testing.T) {
	for b := range 256 {
		behind := allBytes()[b : b+1]
		if b == 32 {
			wantKey(t, "a:"+behind, "a", "")
			wantKey(t, "a:"+behind+"b", "a", "b")
			wantKey(t, `"a":`+behind, "a", "")
			wantKey(t, `"a":`+behind+"b", "a", "b")
		} else {
			wantNoKey(t, "a:"+behind, "a:"+behind+"b", `"a":`+behind, `"a":`+behind+"b", `"a":`+behind+" b", `"a":`+behind+": b", `"a":`+behind+":")
		}
		wantKey(t, "a: "+behind+"b", "a", map[bool]string{true: "b", false: behind + "b"}[b == 32])
	}
	for _, s := range otherSpaces() {
		wantNoKey(t, "a:"+s+"b", `"a":`+s+"b")
	}
}

func TestKeyOfQuotedKeys(t *testing.T) {
	for text, want := range map[string][2]string{
		`"a": b`: {"a", "b"}, `"a":`: {"a", ""}, `"a": `: {"a", ""}, `"a":    b c `: {"a", "b c "}, `"": a`: {"", "a"}, `"":`: {"", ""}, `"a: b": c`: {"a: b", "c"}, `"a:": b`: {"a:", "b"}, `":": b`: {":", "b"}, `": ": ": "`: {": ", `": "`}, `"a": b: c`: {"a", "b: c"}, `"a": b:`: {"a", "b:"},
		`"12": a`: {"12", "a"}, `"null": a`: {"null", "a"}, `"# a": b`: {"# a", "b"}, `"- a": b`: {"- a", "b"}, `" a ": b`: {" a ", "b"}, `"a\"b": c`: {`a"b`, "c"}, `"a\": b": c`: {`a": b`, "c"}, `"\\": a`: {`\`, "a"}, `"\u0041\n": a`: {"A\n", "a"}, `"\ud83d\ude00": a`: {"\xf0\x9f\x98\x80", "a"}, "\"caf\xc3\xa9\": a": {"caf\xc3\xa9", "a"},
		`"a": "b"`: {"a", `"b"`}, `"a": # b`: {"a", "# b"}, "\"a\": \xff": {"a", "\xff"}, `"a": \x`: {"a", `\x`}, `"a": "`: {"a", `"`}, "\"a\": \tb": {"a", "\tb"},
	} {
		wantKey(t, text, want[0], want[1])
	}
}

func TestKeyOfQuotedKeysWithoutColon(t *testing.T) {
	wantNoKey(t, `"a"`, `""`, `"a" : b`, `"a"  :`, `"a" b: c`, `"a"b: c`, `"a"": b`, `"a""b": c`, `"a"b:`, `"a: b"`, `"a:"`, `"a: "`, `"a" `, `"a"#: b`, `"a"-: b`, `"a"\: b`, `"a"::`, `"a":: b`, `"a"::b`, `"a":"b"`, `"a":b: c`, `"a":b:`, `"a":1`, `"a"x:y: z`)
	for b := range 256 {
		if b != 58 {
			between := allBytes()[b : b+1]
			wantNoKey(t, `"a"`+between, `"a"`+between+": b", `"a"`+between+":", `"a"`+between+"b")
		}
	}
}

func TestKeyOfFaultyQuotedKeys(t *testing.T) {
	wantNoKey(t, `"`, `"a`, `"a: b`, `"a:`, `":`, `": `, `"a\": b`, `"a\`, `"a\":`, `"\x": a`, `"\": a`, `"\u12": a`, `"\u00zz": a`, `"\ud800": a`, `"\udc00": a`, `"\ud83d\u0041": a`, `"\a": b`, `"\'": b`, "\"\xff\": a", "\"\xe2\x82\": a", "\"\xed\xa0\x80\": a")
	for b := range 256 {
		inside := allBytes()[b : b+1]
		if b < 32 || b >= 128 {
			wantNoKey(t, `"`+inside+`": a`, `"a`+inside+`":`)
		}
		if !strings.Contains(`"\/bfnrtu`, inside) {
			wantNoKey(t, `"\`+inside+`": a`, `"a\`+inside+`b":`)
		}
	}
	for _, s := range unquotableStrings() {
		wantNoKey(t, `"`+s+`": a`)
	}
}

func TestKeyOfKeysThatAreNotPlain(t *testing.T) {
	wantNoKey(t, ":", ": ", ": a", ":  a", " : a", ":a: b", ":a:", " a: b", "  : b", "a : b", "a :", "a  : b", "- a: b", "-: b", "-a: b", "- \"a\": b", "? a: b", "?: b", "[a]: b", "{a: b", "{a: b}", "&a: b", "*a: b", "!a: b", "|: b", ">: b", "'a': b", "%a: b", "@a: b", "`a: b", ",a: b", "]: b", "}: b",
		"a\"b: c", "a\": b", "a\"b\": c", " \"a\": b", "a#b: c", "# a: b", "#: b", "a #: b", "a\\b: c", "a\\: b", "\\: b", "null: a", "~: a", "true: a", "false: a", "null:", "12: a", "0: a", "007:", "a\tb: c", "\ta: b", "a\nb: c", "a\x00: b", "\xff: a", "a\xe2\x82: b", "\xc3:")
	for _, s := range unquotableStrings() {
		wantNoKey(t, s+": a", "a"+s+":")
	}
}

func TestKeyOfTextsWithoutColon(t *testing.T) {
	wantNoKey(t, "", " ", "   ", "a", "a b", "a b c", "12", "null", "-", "- a", "#", "'", "\xc3\xa9", "\xff", "\n", "a\n", "[]", "{}", `\`, strings.Repeat("a", 400), "a\xef\xbc\x9a b", "a; b", "a= b", "a:b", ":b", "a:b:c", "a ::b")
}

func TestKeyOfLongKeys(t *testing.T) {
	for _, piece := range []string{"a", "\xc3\xa9", "\xf0\x9f\x98\x80"} {
		longest := strings.Repeat(piece, 400/len(piece))
		wantKey(t, longest+": b", longest, "b")
		wantKey(t, longest+":", longest, "")
		wantNoKey(t, longest+"a: b", longest+"a:", "a"+longest+":")
		// A quoted key need not be short.
		wantKey(t, `"`+longest+`a": b`, longest+"a", "b")
	}
	for _, size := range []int{401, 20000, 20001, 100000} {
		long := strings.Repeat("a", size)
		wantNoKey(t, long+": b", long, long+":b")
		wantKey(t, `"`+long+`": `+long, long, long)
		wantKey(t, "a: "+long, "a", long)
		wantKey(t, "a:"+strings.Repeat(" ", size)+"b", "a", "b")
		wantKey(t, "a:"+strings.Repeat(" ", size), "a", "")
	}
}

func TestItemOfElements(t *testing.T) {
	wantItem(t, "-", "", 0)
	for text, want := range map[string]string{
		"- ": "", "-  ": "", "-     ": "", "- a": "a", "-  a": "a", "-     a b ": "a b ", "- -": "-", "- - a": "- a", "-   - - a": "- - a", "- a: b": "a: b", "- # a": "# a", "- \"a\"": `"a"`, "- \ta": "\ta", "- \xff": "\xff", "- \n": "\n", "- \xc2\xa0 a": "\xc2\xa0 a", "- -a": "-a", "- 1": "1", "- -1": "-1", "- null": "null", "-  :": ":",
	} {
		wantItem(t, text, want, len(text)-len(want))
	}
	for b := range 256 {
		if item := allBytes()[b : b+1]; b != 32 {
			wantItem(t, "- "+item, item, 2)
			wantItem(t, "-   "+item+" ", item+" ", 4)
		}
	}
	for _, size := range []int{400, 401, 20000, 20001, 100000} {
		wantItem(t, "-"+strings.Repeat(" ", size), "", size+1)
		wantItem(t, "-"+strings.Repeat(" ", size)+"a", "a", size+1)
		wantItem(t, "- "+strings.Repeat("a", size), strings.Repeat("a", size), 2)
	}
}

func TestItemOfOtherTexts(t *testing.T) {
	wantNoItem(t, "", " ", "  ", "a", "a - b", " -", " - a", "  -", "--", "--  a", "-- a", "---", "-a", "-a b", "-1", "-: a", "-:", "-#", "-\"a\"", "-\t", "-\ta", "-\n", "-\n a", "-\x00", "-\xc2\xa0a", "-\xff", "a-", "a- b", "\"- a\"", "'-'", "#- a", "\t- a", "\xe2\x80\x93 a", "\xe2\x88\x92 a", "* a", "+ a", "[- a]", "\xff- a")
	for b := range 256 {
		other := allBytes()[b : b+1]
		if b != 32 {
			wantNoItem(t, "-"+other, "-"+other+" ", "-"+other+" a")
		}
		if b != 45 {
			wantNoItem(t, other, other+" ", other+" a", other+"- a", other+"-")
		}
	}
}

func TestPlainOkOfKnownTexts(t *testing.T) {
	wantPlain(t, true, "a", "abc", "a b", "a  b", "500m", "1.5", "2Gi", "a-b", "a/b", "caf\xc3\xa9", "\xe2\x82\xac", "\xf0\x9f\x98\x80", "\xef\xbf\xbd", "\x7f", "a\x7f", "(a)", "a=b", "+1", "=", ";", "_", ".", "/", "$", "^", "<", "a, b", "a - b", "a? b", "http://x/y", "a:b", "a::b", "a :b")
	wantPlain(t, false, "", " ", "  ", "12", "null", "- a", "-", ":", "\"a\"", "\"", "'a'", "#", "# a", "a # b", "\\", "[]", "{}", "a: b", "a:", " a", "a ", "\t", "a\n", "\xff", "a\xe2\x82")
}

func TestPlainOkOfLongTexts(t *testing.T) {
	for _, piece := range []string{"a", "\xc3\xa9", "\xf0\x9f\x98\x80", "1a", "a  b", "a:bc"} {
		shorter := strings.Repeat(piece, 400/len(piece)-1)
		longest := shorter + piece
		wantPlain(t, true, shorter, longest, shorter+strings.Repeat("z", len(piece)))
		wantPlain(t, false, longest+"a", "a"+longest, longest+"\xc3\xa9", longest+longest, shorter+" ", shorter+":", " "+shorter)
	}
	for _, size := range []int{401, 402, 800, 20000, 20001, 100000} {
		wantPlain(t, false, strings.Repeat("a", size), strings.Repeat("\xc3\xa9", size))
	}
	wantPlain(t, true, strings.Repeat("a", 399))
	wantPlain(t, true, "a"+strings.Repeat(" ", 398)+"b")
	wantPlain(t, false, strings.Repeat("1", 400), strings.Repeat(" ", 400), strings.Repeat("\xff", 400), strings.Repeat("a", 399)+"\xff")
}

func TestPlainOkOfInvalidUtf8(t *testing.T) {
	for _, s := range unquotableStrings() {
		wantPlain(t, false, s, "a"+s, "\xc3\xa9"+s, "a "+s, s+"\xff")
	}
	for b := 128; b < 256; b++ {
		s := allBytes()[b : b+1]
		wantPlain(t, false, s, "a"+s, s+"a", "a"+s+"b")
	}
	for _, c := range runeCases() {
		wantPlain(t, plainByWords(c.text), c.text)
		if c.n >= 127 {
			wantPlain(t, true, c.text, c.text+c.text, "a"+c.text, c.text+"a")
		}
	}
}

// Each byte up to 127 stands first, alone, in the middle and last.
func TestPlainOkOfEachByte(t *testing.T) {
	const nowhere = "\"#\\"
	const notFirst = "-?:,[]{}&*!|>'%@`"
	for b := range 128 {
		s := allBytes()[b : b+1]
		anywhere := b >= 32 && !strings.Contains(nowhere, s)
		first := anywhere && b != 32 && !strings.Contains(notFirst, s)
		wantPlain(t, first, s+"a", s+s+"a", s+" a")
		wantPlain(t, first && (b < 48 || b > 57) && s != "~", s)
		wantPlain(t, anywhere, "a"+s+"b", "a"+s+s+"b", "a "+s+"b", "1"+s+"b")
		wantPlain(t, anywhere && s != ":", "a"+s+" b")
		wantPlain(t, anywhere && s != ":" && b != 32, "a"+s, "a "+s, "a"+s+s)
		if first {
			wantPlain(t, s == "~" || b < 48 || b > 57, s+s)
		}
	}
}

func TestPlainOkOfSpaces(t *testing.T) {
	wantPlain(t, true, "a b", "a  b", "a   b c", "a b c d")
	wantPlain(t, false, " a", "  a", "a ", "a  ", " a ", "a b ", " a b", " ", "     ", " \xc3\xa9", "\xc3\xa9 ", " 1", "1 ", "null ", " null")
	for _, s := range otherSpaces() {
		// Only those below 32 are excluded, and not as white space.
		wantPlain(t, s[0] >= 32, s, s+"a", "a"+s, "a"+s+"b", s+s)
	}
}

func TestPlainOkOfColons(t *testing.T) {
	wantPlain(t, true, "a:b", "a:b:c", "a::b", "a :b", "a:'", "a:\xc2\xa0b", "a:\xc3\xa9", "1:2", "a:1", "a:-")
	wantPlain(t, false, "a:", "a::", "a: b", "a:  b", "a:b:", "a:b: c", "a: b:c", "a :", "a : b", "a:: b", "1:", "1: 2", ":", ":a", "::", ":a:", ": a", " :", "\xc3\xa9:", "\xc3\xa9: a", "a:b c: d")
}

func TestPlainOkOfOtherValues(t *testing.T) {
	wantPlain(t, false, "null", "~", "true", "false")
	for _, word := range []string{"null", "true", "false", "~"} {
		for _, more := range []string{"a", "1", " a", "-", word, " " + word, "\xc3\xa9", "'", ":a", "~"} {
			wantPlain(t, true, word+more)
		}
		wantPlain(t, true, "a"+word, "x "+word, "1"+word, "."+word, "~"+word)
	}
	for _, word := range []string{"null", "true", "false"} {
		for i := range len(word) {
			wantPlain(t, true, word[:i]+strings.ToUpper(word[i:i+1])+word[i+1:])
			if i > 0 {
				wantPlain(t, true, word[:i], word[i:])
			}
		}
		wantPlain(t, true, strings.ToUpper(word))
	}
	wantPlain(t, true, "yes", "no", "on", "off", "nil", "none", "NaN", "truefalse", "nulltrue")
}

func TestPlainOkOfDigits(t *testing.T) {
	for n := range 1200 {
		digits := fmt.Sprint(n)
		wantPlain(t, false, digits, "0"+digits, "00"+digits, "-"+digits)
		wantPlain(t, true, digits+"a", "a"+digits, digits+"."+digits, digits+" "+digits, "+"+digits, digits+"-", digits+":"+digits, digits+"_"+digits, digits+"e5", "0x"+digits, digits+"\xc3\xa9")
	}
	wantPlain(t, false, "9223372036854775807", "9223372036854775808", strings.Repeat("9", 40), strings.Repeat("0", 400), "0123456789")
	// The digits of other scripts are no decimal digits here.
	wantPlain(t, true, "\xd9\xa3", "\xef\xbc\x91\xef\xbc\x92", "\xc2\xb2", "1\xd9\xa3", "\xe0\xa5\xa7")
}

func TestLinesAsDocumented(t *testing.T) {
	for _, line := range textsOf(6, `"`, "#", `\`, " ", "a", ":") {
		wantLineAsDocumented(t, line)
	}
	for _, line := range textsOf(4, `"`, "#", " ", ":", "-", "1", "\t", "n", "\xc3", "\xa9", "'", "~") {
		wantLineAsDocumented(t, line)
	}
	for _, text := range textsOf(6, `"`, "#", " ", "a", "\n") {
		wantLinesAsDocumented(t, text)
	}
}

func linePieces() []string {
	return []string{" ", "  ", "#", " # ", `"`, `"a"`, `"a # b"`, `"\""`, `\`, `\"`, `\\`, ":", ": ", "-", "- ", "a", "name", "null", "true", "~", "12", "500m", "\xc3\xa9", "\xf0\x9f\x98\x80", "'", "[]", "{}", `"\u0041"`}
}

func randomLine(r *rand.Rand) string {
	line := []string{"", "", "a: ", `"a b": `, "- ", "# "}[r.Intn(6)]
	for range r.Intn(8) {
		line += linePieces()[r.Intn(len(linePieces()))]
	}
	return line
}

func TestRandomLinesAsDocumented(t *testing.T) {
	r := rand.New(rand.NewSource(110))
	faulty := []string{"\t", "\r", "\x00", "\x1f", "\xff", "\xe2\x82", "\xc3"}
	accepted, keys := 0, 0
	for range 20000 {
		lines := []string{}
		for range r.Intn(6) {
			line := randomLine(r)
			wantLineAsDocumented(t, line)
			if _, _, ok := keyByWords(line); ok {
				keys++
			}
			lines = append(lines, line)
		}
		text := strings.Join(lines, "\n")
		if r.Intn(2) == 0 {
			for range 1 + r.Intn(2) {
				at := r.Intn(len(text) + 1)
				text = text[:at] + faulty[r.Intn(len(faulty))] + text[at:]
			}
		}
		wantLinesAsDocumented(t, text)
		if _, fault := linesByWords(text); fault.Code == 0 {
			accepted++
		}
	}
	if accepted < 5000 || accepted > 15000 || keys < 5000 {
		t.Errorf("%d of 20000 random texts have no fault, and %d lines a key", accepted, keys)
	}
}

// closedLines have no quoted string that is still open at their end, and no comment.
func closedLines() []string {
	list := []string{}
	r := rand.New(rand.NewSource(11))
	for _, line := range append(textsOf(5, `"`, "#", `\`, " ", "a"), "", "a", "  a: b", "- a", `"a # b"`, `  "a\" # b": "c"`, "a#b", `a "b"`, "\xc3\xa9") {
		if end, open := scannedLine(line); end == len(line) && !open {
			list = append(list, line)
		}
	}
	for range 3000 {
		line := randomLine(r)
		if end, open := scannedLine(line); end == len(line) && !open {
			list = append(list, line)
		}
	}
	return list
}

func TestCommentsAndTrailingSpacesDoNotChangeALine(t *testing.T) {
	lines := closedLines()
	if len(lines) < 2000 {
		t.Fatalf("only %d lines", len(lines))
	}
	for i, line := range lines {
		bare := strings.TrimRight(line, " ")
		wantBare(t, line, bare)
		wantBare(t, bare, bare)
		for _, more := range []string{" ", "    ", " #", " # a", "   #a  ", ` # "a" # b`, ` # "a`, ` # \`, " ##", " # \xc3\xa9"} {
			wantBare(t, line+more, bare)
		}
		other := lines[(i+7)%len(lines)]
		want, _ := linesByWords(bare + "\n" + other)
		wantLines(t, line+"  # a\n"+other+" # b", want...)
		wantLines(t, line+"    \n"+other+" ", want...)
	}
	// In a quoted string that is not closed, a comment cannot begin.
	for _, line := range []string{`"a`, `a: "`, `"a" "b`, `"a\"`, `"\`} {
		wantSameBare(t, line+" # a", line+" #")
		wantBare(t, line+"  ", line)
	}
}

// BareLine leaves nothing that it would remove.
func TestBareLineOfItsResult(t *testing.T) {
	r := rand.New(rand.NewSource(111))
	for range 20000 {
		line := randomLine(r)
		bare := impl.BareLine(line)
		wantBare(t, bare, bare)
		if !strings.HasPrefix(line, bare) || strings.HasSuffix(bare, " ") {
			t.Errorf("BareLine(%q) = %q", line, bare)
		}
	}
}

func TestLinesInSharesNoMemory(t *testing.T) {
	for _, text := range []string{"a: b\n- c\n  d # e\n", "a", strings.Repeat("a\n", 10000)} {
		first, _ := impl.LinesIn(text)
		second, _ := impl.LinesIn(text)
		want, _ := linesByWords(text)
		if overlap(spanOf(first), spanOf(second)) {
			t.Errorf("two results of LinesIn(%.40q) share memory", text)
		}
		for i := range first {
			first[i] = impl.Line{Indent: 99, Text: "changed", At: 99}
		}
		for len(first) < cap(first) {
			first = append(first, impl.Line{Indent: 98})
		}
		if !slices.Equal(second, want) {
			t.Errorf("a change of one result of LinesIn(%.40q) changed the other one to %.5v", text, second)
		}
		wantLines(t, text, want...)
	}
}

// The bytes of the arguments lie in a slice here, so that a change would be seen.
func TestLineFunctionsKeepTheirArguments(t *testing.T) {
	for _, text := range []string{"", "  a: \"b # c\" # d  ", "- a", "-", `"a\"b": c`, "a\n  b # c\n\n- d\n", "\xff", "a\tb", "null", "12", `"a`} {
		kept := append([]byte(text), "spare"...)
		arg := unsafe.String(unsafe.SliceData(kept), len(text))
		impl.BareLine(arg)
		impl.IndentOf(arg)
		impl.LinesIn(arg)
		impl.KeyOf(arg)
		impl.ItemOf(arg)
		impl.PlainOk(arg)
		if string(kept) != text+"spare" {
			t.Errorf("the argument %q was changed to %q", text+"spare", kept)
		}
	}
}

// A goroutine that waits forever makes synctest.Test panic.
func TestLinesInLeavesNoGoroutine(t *testing.T) {
	for _, text := range []string{"", "a", "# a", "a\nb\n", strings.Repeat("a\n", 10000), "a\n\tb\nc", "a\n\xff\nb", strings.Repeat("a\n", 10001)} {
		synctest.Test(t, func(t *testing.T) { wantLinesAsDocumented(t, text) })
	}
}

func TestLinesInSeveralTextsAtOnce(t *testing.T) {
	calls := sync.WaitGroup{}
	for i := range 8 {
		text := strings.Repeat(fmt.Sprintf("  a%d: b # c\n", i), 200+i)
		want, _ := linesByWords(text)
		calls.Go(func() {
			for range 20 {
				wantLines(t, text, want...)
			}
		})
	}
	calls.Wait()
}
