package tests

import (
	"fmt"
	"math"
	"math/rand"
	"runtime/debug"
	"slices"
	"strings"
	"testing"
	"unsafe"

	"loop.example/g00968/impl"
)

// The following functions say what the document says.

func keyTextByWords(key string) string {
	if plainByWords(key) {
		return key
	}
	return quotedByWords(key)
}

func scalarTextByWords(tree impl.Tree) (string, bool) {
	if len(tree.Kids) > 0 || !validTree(tree) {
		return "", false
	}
	return []string{"null", fmt.Sprint(tree.Flag), fmt.Sprint(tree.Num), keyTextByWords(tree.Text), "[]", "{}"}[tree.Kind-1], true
}

func scalarByWords(text string) (impl.Tree, bool) {
	words := map[string]impl.Tree{"[]": listOf(), "{}": mapOf(""), "null": nullOf(), "~": nullOf(), "true": flagOf(true), "false": flagOf(false)}
	if tree, ok := words[text]; ok {
		return tree, true
	}
	if s, after := readQuotedByWords(text, 0); after == len(text) && len(s) <= 400 {
		return textOf(s), true
	}
	if n, after := readWholeByWords(text, 0); after == len(text) {
		return intOf(n), true
	}
	if plainByWords(text) {
		return textOf(text), true
	}
	return impl.Tree{}, false
}

func inlineByWords(line string) (impl.Tree, bool) {
	bare := bareByWords(line)
	return scalarByWords(bare[indentByWords(bare):])
}

func wantScalarText(t *testing.T, tree impl.Tree, want string) {
	t.Helper()
	if got, ok := impl.ScalarText(tree); got != want || !ok {
		t.Errorf("ScalarText(%s) = %.60q of %d bytes, %v; want %.60q of %d bytes, true", brief(tree), got, len(got), ok, want, len(want))
	}
}

func wantNoScalarText(t *testing.T, trees ...impl.Tree) {
	t.Helper()
	for _, tree := range trees {
		if got, ok := impl.ScalarText(tree); got != "" || ok {
			t.Errorf("ScalarText(%s) = %.60q of %d bytes, %v; want \"\", false", brief(tree), got, len(got), ok)
		}
	}
}

func wantInline(t *testing.T, line string, want impl.Tree) {
	t.Helper()
	if got, ok := impl.Inline(line); !equalTrees(got, want) || !ok {
		t.Errorf("Inline(%.60q of %d bytes) = %s, %v; want %s, true", line, len(line), brief(got), ok, brief(want))
	}
}

func wantNoInline(t *testing.T, lines ...string) {
	t.Helper()
	for _, line := range lines {
		if got, ok := impl.Inline(line); !equalTrees(got, impl.Tree{}) || ok {
			t.Errorf("Inline(%.60q of %d bytes) = %s, %v; want the zero Tree, false", line, len(line), brief(got), ok)
		}
	}
}

// wantScalar also checks what follows: text is a line, and the canonical text of its value means the same.
func wantScalar(t *testing.T, text string, want impl.Tree) {
	t.Helper()
	got, ok := impl.ReadScalar(text)
	if !equalTrees(got, want) || !ok || !impl.TreeOk(got) {
		t.Errorf("ReadScalar(%.60q of %d bytes) = %s, %v; want %s, true", text, len(text), brief(got), ok, brief(want))
	}
	for _, line := range []string{text, "  " + text, text + "   ", " " + text + " # \"a", text + " #"} {
		wantInline(t, line, want)
	}
	canonical, _ := scalarTextByWords(want)
	wantScalarText(t, got, canonical)
	if !impl.ScalarSame(text, text) || !impl.ScalarSame(text, canonical) || !impl.ScalarSame(canonical, text) {
		t.Errorf("ScalarSame is false for %.60q and itself or %.60q", text, canonical)
	}
}

func wantNoScalar(t *testing.T, texts ...string) {
	t.Helper()
	for _, text := range texts {
		if got, ok := impl.ReadScalar(text); !equalTrees(got, impl.Tree{}) || ok {
			t.Errorf("ReadScalar(%.60q of %d bytes) = %s, %v; want the zero Tree, false", text, len(text), brief(got), ok)
		}
		if impl.ScalarSame(text, text) || impl.ScalarSame(text, "null") || impl.ScalarSame("null", text) {
			t.Errorf("ScalarSame is true for %.60q of %d bytes, which is no value", text, len(text))
		}
	}
}

func wantScalarAsDocumented(t *testing.T, text string) {
	t.Helper()
	if tree, ok := scalarByWords(text); ok {
		wantScalar(t, text, tree)
	} else {
		wantNoScalar(t, text)
	}
}

func wantInlineAsDocumented(t *testing.T, line string) {
	t.Helper()
	if tree, ok := inlineByWords(line); ok {
		wantInline(t, line, tree)
	} else {
		wantNoInline(t, line)
	}
}

func wantKeyText(t *testing.T, key string, want string) {
	t.Helper()
	if got := impl.KeyText(key); got != want {
		t.Errorf("KeyText(%.60q of %d bytes) = %.60q of %d bytes; want %.60q of %d bytes", key, len(key), got, len(got), want, len(want))
	}
}

func wantScalarSame(t *testing.T, a string, b string, want bool) {
	t.Helper()
	if impl.ScalarSame(a, b) != want || impl.ScalarSame(b, a) != want {
		t.Errorf("ScalarSame(%.60q, %.60q) = %v, swapped %v; want %v", a, b, impl.ScalarSame(a, b), impl.ScalarSame(b, a), want)
	}
}

// plainStrings need no quotes.
func plainStrings() []string {
	return []string{"a", "A", "abc", "a b", "a  b", "x1", "500m", "2Gi", "1.5", "0.5", "1e5", "1E5", "+1", "0x10", "1_000", "1,000", "1 2", "5-", "1-2", "1:2", ".5", "5.", "null1", "nullnull", "Null", "NULL", "nul", "~~", "~a", "a~", "True", "TRUE", "tru", "truex", "true false", "False", "falsey", "yes", "no", "on", "off",
		"a:b", "a::b", "a :b", "http://x/y", "a-b", "a - b", "a, b", "a]", "a}", "a[0]", "a&b", "a*", "a!", "a|b", "a>b", "it's", "a%", "a@b", "a`b", "a?", "=", ";", "(a)", "$", "^", "_", "/", ".", "<", "+", "\x7f", "caf\xc3\xa9", "\xe2\x82\xac5", "\xf0\x9f\x98\x80", "\xef\xbf\xbd", "\xc2\xa0", "\xc2\x85", "\xd9\xa3", "\xef\xbc\x91", "\xef\xbb\xbf1",
		strings.Repeat("a", 399), strings.Repeat("a", 400), strings.Repeat("1", 399) + "a", "a" + strings.Repeat(" ", 398) + "b", strings.Repeat("\xc3\xa9", 200), strings.Repeat("\xf0\x9f\x98\x80", 100)}
}

// otherStrings need quotes; each is given with its quoted form.
func otherStrings() map[string]string {
	list := map[string]string{"": `""`, " ": `" "`, "   ": `"   "`, " a": `" a"`, "a ": `"a "`, "\"": `"\""`, "\"a\"": `"\"a\""`, "a\"b": `"a\"b"`, "a\"": `"a\""`, "#": `"#"`, "# a": `"# a"`, "a # b": `"a # b"`, "a#b": `"a#b"`, "a#": `"a#"`, "\\": `"\\"`, "a\\b": `"a\\b"`, "\\n": `"\\n"`,
		"\n": `"\n"`, "a\n": `"a\n"`, "a\tb": `"a\tb"`, "\r": `"\r"`, "\b\f": `"\b\f"`, "\x00": `"\u0000"`, "a\x1fb": `"a\u001fb"`, "\x0b": `"\u000b"`, "a: b": `"a: b"`, "a:": `"a:"`, ":": `":"`, ":a": `":a"`, "a:b:": `"a:b:"`, "a :": `"a :"`, "a: ": `"a: "`,
		"-": `"-"`, "- a": `"- a"`, "-a": `"-a"`, "-1": `"-1"`, "-1.5": `"-1.5"`, "-500m": `"-500m"`, "?": `"?"`, "? a": `"? a"`, ",": `","`, "[": `"["`, "]": `"]"`, "{": `"{"`, "}": `"}"`, "[]": `"[]"`, "{}": `"{}"`, "[a]": `"[a]"`, "{a": `"{a"`, "&a": `"&a"`, "*a": `"*a"`, "!a": `"!a"`, "|": `"|"`, ">": `">"`, "'": `"'"`, "'a'": `"'a'"`, "%a": `"%a"`, "@a": `"@a"`, "`a`": "\"`a`\"",
		"null": `"null"`, "~": `"~"`, "true": `"true"`, "false": `"false"`, "0": `"0"`, "1": `"1"`, "12": `"12"`, "00": `"00"`, "007": `"007"`, "9223372036854775807": `"9223372036854775807"`, "9223372036854775808": `"9223372036854775808"`, "-caf\xc3\xa9": "\"-caf\xc3\xa9\""}
	for _, s := range []string{strings.Repeat("1", 400), strings.Repeat(" ", 400), strings.Repeat("#", 400), "-" + strings.Repeat("a", 399), strings.Repeat("a", 399) + ":"} {
		list[s] = `"` + s + `"`
	}
	list[strings.Repeat("\x01", 400)] = `"` + strings.Repeat(`\u0001`, 400) + `"`
	return list
}

func TestScalarTextOfEachKind(t *testing.T) {
	wantScalarText(t, nullOf(), "null")
	wantScalarText(t, flagOf(true), "true")
	wantScalarText(t, flagOf(false), "false")
	wantScalarText(t, intOf(0), "0")
	wantScalarText(t, intOf(7), "7")
	wantScalarText(t, intOf(-7), "-7")
	wantScalarText(t, intOf(math.MaxInt), "9223372036854775807")
	wantScalarText(t, intOf(math.MinInt), "-9223372036854775808")
	wantScalarText(t, textOf("a b"), "a b")
	wantScalarText(t, textOf("12"), `"12"`)
	wantScalarText(t, listOf(), "[]")
	wantScalarText(t, mapOf(""), "{}")
	for _, tree := range leafTrees() {
		want, _ := scalarTextByWords(tree)
		wantScalarText(t, tree, want)
		// Slices without elements are the same as none.
		wantScalarText(t, roomy(tree), want)
	}
}

func TestScalarTextOfIntegers(t *testing.T) {
	for n := -1200; n <= 1200; n++ {
		wantScalarText(t, intOf(n), fmt.Sprint(n))
	}
	for _, n := range edgeInts() {
		wantScalarText(t, intOf(n), fmt.Sprint(n))
		wantScalarText(t, intOf(-n), fmt.Sprint(-n))
	}
}

func TestScalarTextOfStrings(t *testing.T) {
	for _, s := range plainStrings() {
		wantScalarText(t, textOf(s), s)
	}
	for s, quoted := range otherStrings() {
		wantScalarText(t, textOf(s), quoted)
	}
	for _, s := range quotableStrings() {
		if len(s) <= 400 {
			wantScalarText(t, textOf(s), keyTextByWords(s))
		} else {
			wantNoScalarText(t, textOf(s))
		}
	}
}

func TestScalarTextOfTreesWithKids(t *testing.T) {
	for _, tree := range goodTrees() {
		if len(tree.Kids) > 0 {
			wantNoScalarText(t, tree)
		}
	}
	for _, kid := range leafTrees() {
		wantNoScalarText(t, listOf(kid), mapOf("a", kid), listOf(kid, kid), mapOf("a b", kid, kid))
		for kind := -1; kind <= 8; kind++ {
			wantNoScalarText(t, impl.Tree{Kind: kind, Kids: []impl.Tree{kid}})
		}
	}
	wantNoScalarText(t, listOf(impl.Tree{}), mapOf("a", impl.Tree{}), wideList(300), wideMap(300), inLists(8, listOf()))
}

func TestScalarTextOfTreesThatAreNotValid(t *testing.T) {
	wantNoScalarText(t, impl.Tree{}, impl.Tree{Text: "a"}, impl.Tree{Kind: 7}, impl.Tree{Kind: -1}, mapOf("a"), mapOf("a b"), impl.Tree{Kind: 6, Keys: []string{""}})
	wantNoScalarText(t, badTrees()...)
	for _, s := range append(badStrings(), unquotableStrings()...) {
		wantNoScalarText(t, textOf(s), textOf("a"+s), textOf(s+"\xff"))
	}
	fields := 0
	for _, tree := range leafTrees() {
		for i := range 5 {
			if u, ok := withUnused(tree, i); ok {
				wantNoScalarText(t, u)
				fields++
			}
		}
		for _, kind := range []int{0, -1, 7, 1<<32 + tree.Kind, 256 + tree.Kind} {
			u := tree
			u.Kind = kind
			wantNoScalarText(t, u)
		}
		for _, u := range oneFieldChanged(tree) {
			if want, ok := scalarTextByWords(u); ok {
				wantScalarText(t, u, want)
			} else {
				wantNoScalarText(t, u)
			}
		}
	}
	if fields < 4*len(leafTrees()) {
		t.Errorf("only %d unused fields are checked", fields)
	}
}

// A tree may contain itself, or be far deeper than the stack.
func TestScalarTextOfTreesWithoutEnd(t *testing.T) {
	defer debug.SetMaxStack(debug.SetMaxStack(1 << 23))
	loop := listOf(nullOf())
	loop.Kids[0] = loop
	keys := mapOf("a", nullOf())
	keys.Kids[0] = keys
	wantNoScalarText(t, loop, keys)
	for _, tree := range []impl.Tree{inLists(300000, nullOf()), inMaps(300000, nullOf())} {
		if text, ok := impl.ScalarText(tree); text != "" || ok {
			t.Errorf("ScalarText of a deep tree = %.60q, %v; want \"\", false", text, ok)
		}
	}
}

func TestReadScalarOfEmptyListsAndMaps(t *testing.T) {
	wantScalar(t, "[]", listOf())
	wantScalar(t, "{}", mapOf(""))
	for _, text := range []string{"[]", "{}"} {
		wantNoScalar(t, text[:1], text[1:], text+text, text+text[1:], text[:1]+text, text[:1]+" "+text[1:], " "+text, text+" ", text+"\n", text+"a", text+",", text+"#", text+" # a", text+": a", text[:1]+"1"+text[1:], text[:1]+"a"+text[1:], text[:1]+text+text[1:], text[1:]+text[:1])
		wantScalar(t, "a"+text, textOf("a"+text))
		wantScalar(t, `"`+text+`"`, textOf(text))
	}
	wantNoScalar(t, "[}", "{]", "[1, 2]", "[a, b]", "{a: 1}", `{"a":1}`, "[null]", "[{}]", "{}[]", "[]{}")
}

func TestReadScalarOfNullAndFlags(t *testing.T) {
	for text, want := range map[string]impl.Tree{"null": nullOf(), "~": nullOf(), "true": flagOf(true), "false": flagOf(false)} {
		wantScalar(t, text, want)
		wantNoScalar(t, " "+text, text+" ", text+"\n", text+"\x00", text+": a", text+":", text+"#", text+" # a", `"`+text, text+`"`, `'`+text+`'`, "["+text+"]", "-"+text, "- "+text, text+`\`, text+"\xff", ":"+text)
		// A word with more behind or ahead of it is a string, and so is the word in quotes.
		for _, s := range []string{text + "a", text + "1", text + text, text + " " + text, text + "-", text + ".", text + ":a", text + "'", text + "~", text + "\xc3\xa9", "a" + text, "1" + text, "x " + text, "~" + text} {
			wantScalar(t, s, textOf(s))
		}
		wantScalar(t, `"`+text+`"`, textOf(text))
		for i := range len(text) - 1 {
			wantScalar(t, text[:i+1], textOf(text[:i+1]))
			wantScalar(t, text[i+1:], textOf(text[i+1:]))
		}
	}
}

func TestReadScalarOfWordsInAnotherCase(t *testing.T) {
	for _, word := range []string{"null", "true", "false"} {
		for mask := 1; mask < 1<<len(word); mask++ {
			other := []byte(word)
			for i := range other {
				if mask>>i&1 == 1 {
					other[i] -= 32
				}
			}
			wantScalar(t, string(other), textOf(string(other)))
		}
	}
	for _, word := range []string{"nil", "none", "None", "undefined", "yes", "no", "Yes", "on", "off", "y", "n", "t", "f", "T", "F", "NaN", "inf"} {
		wantScalar(t, word, textOf(word))
	}
}

func TestReadScalarOfQuotedStrings(t *testing.T) {
	for text, want := range map[string]string{
		`""`: "", `"a"`: "a", `" "`: " ", `" a "`: " a ", `"a b"`: "a b", `"12"`: "12", `"-5"`: "-5", `"null"`: "null", `"~"`: "~", `"true"`: "true", `"false"`: "false", `"[]"`: "[]", `"{}"`: "{}", `"a: b"`: "a: b", `"- a"`: "- a", `"#"`: "#", `"a # b"`: "a # b", `"'"`: "'", `"500m"`: "500m", `"1.5"`: "1.5", "\"\x7f\"": "\x7f",
		`"\""`: `"`, `"\\"`: `\`, `"\/"`: "/", `"/"`: "/", `"\b\f\n\r\t"`: "\b\f\n\r\t", `"\u0041"`: "A", `"\u00e9"`: "\xc3\xa9", `"\u00E9"`: "\xc3\xa9", `"\u20ac"`: "\xe2\x82\xac", `"\ud83d\ude00"`: "\xf0\x9f\x98\x80", `"\u0000"`: "\x00", `"\\n"`: `\n`, `"a\"b"`: `a"b`, `"\\\""`: `\"`, `"\"a\""`: `"a"`, `"\u0022"`: `"`, `"\u005c"`: `\`, `"\u0023"`: "#", `"\" # a"`: `" # a`, `"a\\"`: `a\`,
		"\"caf\xc3\xa9\"": "caf\xc3\xa9", "\"\xf0\x9f\x98\x80\"": "\xf0\x9f\x98\x80", "\"\xc2\xa0\"": "\xc2\xa0",
	} {
		wantScalar(t, text, textOf(want))
	}
	for _, s := range quotableStrings() {
		if len(s) <= 400 {
			wantScalar(t, quotedByWords(s), textOf(s))
		} else {
			wantNoScalar(t, quotedByWords(s))
		}
	}
}

func TestReadScalarOfFaultyQuotedStrings(t *testing.T) {
	wantNoScalar(t, `"`, `"a`, `"a b`, `"12`, `"null`, `"\"`, `"a\"`, `"\`, `"a\`, `"\\\"`, `"a # b`, `"\x"`, `"\a"`, `"\'"`, `"\ "`, `"\0"`, `"\U0041"`, `"\u"`, `"\u004"`, `"\u00g1"`, `"\u+041"`, `"\ud800"`, `"\ud83d"`, `"\ud83da"`, `"\ud83d\u0041"`, `"\udc00"`, `"\ude00\ud83d"`, `"a\u12"`, "\"\n\"", "\"a\tb\"", "\"\x00\"", "\"\x1f\"", "\"\xff\"", "\"\xe2\x82\"", "\"\xed\xa0\x80\"", "\"a\nb\"")
	for b := range 256 {
		inside := allBytes()[b : b+1]
		if b < 32 || b >= 128 {
			wantNoScalar(t, `"`+inside+`"`, `"a`+inside+`"`, `"`+inside+`a"`)
		}
		if !strings.Contains(`"\/bfnrt`, inside) {
			wantNoScalar(t, `"\`+inside+`"`, `"a\`+inside+`"`)
		}
	}
	for _, s := range unquotableStrings() {
		wantNoScalar(t, `"`+s+`"`)
	}
}

// What stands behind the closing quote makes the text no value, whatever it is.
func TestReadScalarOfQuotedStringsWithMoreBehind(t *testing.T) {
	for _, text := range []string{`""`, `"a"`, `"12"`, `"\""`, `"a # b"`} {
		for _, more := range []string{" ", "  ", "a", " a", `"`, `""`, `"a"`, ` "a"`, "#", " #", " # a", ":", ": a", ",", "1", "-", "]", "}", `\`, "'", "\n", "\t", "\x00", "\xff", "\xc3\xa9", "[]", "null"} {
			wantNoScalar(t, text+more)
		}
		for b := range 256 {
			wantNoScalar(t, text+allBytes()[b:b+1])
		}
		wantNoScalar(t, " "+text, "a"+text, "1"+text, "-"+text, "'"+text, "["+text+"]", "a "+text, text[:len(text)-1], text[1:])
	}
}

func TestReadScalarOfLongQuotedStrings(t *testing.T) {
	for inside, want := range wideStrings() {
		wantScalar(t, `"`+inside+`"`, textOf(want))
		wantNoScalar(t, `"`+inside, inside+`"`)
		for _, more := range []string{"b", " ", `\n`, `\"`, `\u0000`, "\xc3\xa9", `\u00e9`, "bb", strings.Repeat("b", 400)} {
			wantNoScalar(t, `"`+inside+more+`"`, `"`+more+inside+`"`)
		}
	}
	// The limit is one of bytes of the string, not of its quoted form or of code points.
	wantScalar(t, `"`+strings.Repeat(`\u0041`, 399)+`"`, textOf(strings.Repeat("A", 399)))
	wantNoScalar(t, `"`+strings.Repeat(`\u0041`, 401)+`"`, `"`+strings.Repeat("\xc3\xa9", 201)+`"`, `"`+strings.Repeat(`\ud83d\ude00`, 101)+`"`)
	for _, size := range []int{401, 402, 800, 20000, 100000} {
		long := `"` + strings.Repeat("a", size) + `"`
		wantNoScalar(t, long, `"`+strings.Repeat(" ", size)+`"`, `"`+strings.Repeat("1", size)+`"`)
		// Too long and with something behind it, too.
		wantNoScalar(t, long+" ", long+"b", long+": b", long+`""`, " "+long)
	}
}

func TestReadScalarOfIntegers(t *testing.T) {
	for text, want := range map[string]int{
		"0": 0, "-0": 0, "1": 1, "-1": -1, "-5": -5, "9": 9, "10": 10, "-10": -10, "100": 100, "1000000001": 1000000001, "4294967296": 1 << 32,
		"9223372036854775806": math.MaxInt - 1, "9223372036854775807": math.MaxInt, "-9223372036854775807": math.MinInt + 1, "-9223372036854775808": math.MinInt,
	} {
		wantScalar(t, text, intOf(want))
		wantScalar(t, `"`+text+`"`, textOf(text))
		wantNoScalar(t, " "+text, text+" ", text+"\n", "--"+text, "- "+text, text+":", text+": 1", text+"#", text+" # a", "["+text+"]", text+"\xff", text+`\`)
	}
	for n := -1200; n <= 1200; n++ {
		wantScalar(t, fmt.Sprint(n), intOf(n))
	}
	for _, n := range edgeInts() {
		wantScalar(t, fmt.Sprint(n), intOf(n))
		wantScalar(t, fmt.Sprint(-n), intOf(-n))
	}
}

func TestReadScalarOfIntegersBeyondTheRange(t *testing.T) {
	wantNoScalar(t, "9223372036854775808", "-9223372036854775809", "9223372036854775809", "-9223372036854775810", "9999999999999999999", "10000000000000000000", "18446744073709551615", "18446744073709551616", "18446744073709551617", "-18446744073709551616", "99999999999999999999", "340282366920938463463374607431768211456")
	for _, zeros := range []int{19, 20, 64, 398, 399, 400, 20000} {
		wantNoScalar(t, "1"+strings.Repeat("0", zeros), "-1"+strings.Repeat("0", zeros))
	}
}

func TestReadScalarOfLeadingZeros(t *testing.T) {
	wantNoScalar(t, "00", "01", "-00", "-01", "007", "-007", "010", "0000000000", "00000000000000000001", "0123456789", strings.Repeat("0", 400), "-0"+strings.Repeat("1", 20))
	for n := range 1200 {
		wantNoScalar(t, "0"+fmt.Sprint(n), "00"+fmt.Sprint(n), "-0"+fmt.Sprint(n))
	}
	for _, text := range []string{"01a", "007m", "00.5", "0x1F", "0b1", "0 1"} {
		wantScalar(t, text, textOf(text))
	}
}

// Numbers with a fraction or an exponent are strings, unless a minus sign keeps them from being written without quotes.
func TestReadScalarOfFractionsAndExponents(t *testing.T) {
	for _, text := range []string{"1.5", "0.5", "1.0", "0.0", "1.", ".5", "12.34", "1e5", "1E5", "1e", "1E", "0e0", "1e+5", "1e-5", "1.5e5", "1.e5", "9223372036854775807.0", "9223372036854775808.5", "1e400", "01.5"} {
		wantScalar(t, text, textOf(text))
		wantNoScalar(t, "-"+text, text+" ", " "+text)
	}
}

func TestReadScalarOfTextsThatLookLikeNumbers(t *testing.T) {
	for _, text := range []string{"500m", "2Gi", "1k", "0m", "1.5Gi", "100Ki", "12a", "a12", "+1", "+0", "0x10", "0o17", "0b101", "1_000", "1,000", "1 000", "1 2", "5-", "1-2", "5 -", "1:2", "1:2:3", "1/2", "1%", "$5", "5$", "10.0.0.1", "2026-11-19", "12:30", "1'000", "1=", "(1)", "0-", "1+1", "2^3", "1a1", "9223372036854775808m", "\xd9\xa3", "\xef\xbc\x91", "1\xc2\xb2", "1\xc2\xa0000", "\xe2\x88\x921"} {
		wantScalar(t, text, textOf(text))
	}
	wantNoScalar(t, "-", "--", "--1", "- 1", "-1m", "-500m", "-a", "-1-", "-1 2", "-0x1", "-_1", "-1,5", "-1:2", "-.5", "-1.5", "-1e5", "-+1", "1:", "1: 2", "1#", "1 #", "1\\", "1\"", "1\t", "1\n", "\t1", "1 ", " 1", "'1'", "%1", "@1", "1\x00")
	for b := range 256 {
		next := allBytes()[b : b+1]
		wantScalarAsDocumented(t, "12"+next)
		wantScalarAsDocumented(t, "12"+next+"3")
		wantScalarAsDocumented(t, next+"12")
		if !strings.Contains("0123456789", next) {
			wantNoScalar(t, "-"+next, "-1"+next, "-"+next+"1")
		}
	}
}

func TestReadScalarOfPlainStrings(t *testing.T) {
	for _, s := range plainStrings() {
		wantScalar(t, s, textOf(s))
	}
	for _, piece := range []string{"a", "\xc3\xa9", "\xf0\x9f\x98\x80", "1a", "a  b", "a:bc"} {
		longest := strings.Repeat(piece, 400/len(piece))
		wantScalar(t, longest, textOf(longest))
		wantNoScalar(t, longest+"a", "a"+longest, longest+longest, longest[:399]+"\xff", longest[:399]+" ")
	}
	for _, size := range []int{401, 402, 800, 20000, 20001, 100000} {
		wantNoScalar(t, strings.Repeat("a", size), strings.Repeat("1", size), strings.Repeat(" ", size))
	}
}

func TestReadScalarOfOtherTexts(t *testing.T) {
	wantNoScalar(t, "", " ", "  ", "\t", "\n", "a\n", "a\tb", "\x00", "a: b", "a:", ":", ": a", "- a", "-", "? a", ", a", "[", "]", "{", "}", "[a]", "{a: b}", "&a", "*a", "!a", "|", ">", "'a'", "'", "%a", "@a", "`a`", "#", "# a", "a # b", "a#b", "a\\b", "\\", "a\"b", " a", "a ", "\xff", "a\xff", "\xe2\x82", "\xed\xa0\x80")
	for _, s := range unquotableStrings() {
		wantNoScalar(t, s, "a"+s, s+"a", "1"+s)
	}
	for s := range otherStrings() {
		if _, ok := scalarByWords(s); !ok {
			wantNoScalar(t, s)
		}
	}
	for b := range 256 {
		s := allBytes()[b : b+1]
		for _, text := range []string{s, s + s, s + "a", "a" + s, "a" + s + "b", "a " + s, s + " a", s + "1", "\xc3\xa9" + s} {
			wantScalarAsDocumented(t, text)
		}
	}
}

func TestKeyTextOfKeysThatNeedNoQuotes(t *testing.T) {
	for _, key := range plainStrings() {
		wantKeyText(t, key, key)
	}
}

func TestKeyTextOfKeysThatNeedQuotes(t *testing.T) {
	for key, quoted := range otherStrings() {
		wantKeyText(t, key, quoted)
	}
	for _, key := range quotableStrings() {
		wantKeyText(t, key, keyTextByWords(key))
	}
	for b := range 128 {
		s := allBytes()[b : b+1]
		for _, key := range []string{s, s + s, s + "a", "a" + s, "a" + s + "b", "a" + s + " b", "1" + s, s + "1"} {
			wantKeyText(t, key, keyTextByWords(key))
		}
	}
}

func TestKeyTextOfLongKeys(t *testing.T) {
	wantKeyText(t, strings.Repeat("a", 400), strings.Repeat("a", 400))
	wantKeyText(t, strings.Repeat("\xc3\xa9", 200), strings.Repeat("\xc3\xa9", 200))
	// Longer keys need quotes, as PlainOk rejects them, and have no limit.
	for _, size := range []int{401, 402, 20000, 20001, 100000} {
		wantKeyText(t, strings.Repeat("a", size), `"`+strings.Repeat("a", size)+`"`)
		wantKeyText(t, strings.Repeat("\n", size), `"`+strings.Repeat(`\n`, size)+`"`)
		wantKeyText(t, strings.Repeat("\xff", size), "")
	}
}

func TestKeyTextOfInvalidUtf8(t *testing.T) {
	for _, key := range []string{"\xff", "a\xff", "\xffa", "\x80", "\xc3", "caf\xc3", "\xc0\x80", "\xed\xa0\x80", "\xf4\x90\x80\x80", "\"\xff", "\xff\n", "12\xff", "null\xff", " \xff"} {
		wantKeyText(t, key, "")
	}
	for _, s := range unquotableStrings() {
		wantKeyText(t, s, "")
		wantKeyText(t, "a"+s, "")
		wantKeyText(t, s+"\xff", "")
	}
}

// KeyOf undoes KeyText, so that a key can be read from its line.
func TestKeysCanBeReadFromTheirLine(t *testing.T) {
	for _, key := range slices.Concat(plainStrings(), quotableStrings()) {
		text := impl.KeyText(key)
		wantKey(t, text+":", key, "")
		wantKey(t, text+": a", key, "a")
	}
	for key, quoted := range otherStrings() {
		wantKey(t, impl.KeyText(key)+": "+quoted, key, quoted)
	}
}

func TestInlineOfSpaces(t *testing.T) {
	for text, want := range map[string]impl.Tree{"~": nullOf(), "true": flagOf(true), "-5": intOf(-5), "a b": textOf("a b"), `"a b"`: textOf("a b"), `" a "`: textOf(" a "), `""`: textOf(""), "[]": listOf(), "{}": mapOf(""), "500m": textOf("500m"), "\xc2\xa0": textOf("\xc2\xa0")} {
		for _, line := range []string{text, " " + text, "  " + text, text + " ", text + "  ", "   " + text + "   ", strings.Repeat(" ", 20001) + text, text + strings.Repeat(" ", 20001)} {
			wantInline(t, line, want)
		}
	}
	// Only the space is removed.
	for _, s := range otherSpaces() {
		wantInlineAsDocumented(t, s+"a")
		wantInlineAsDocumented(t, "a"+s)
		wantInlineAsDocumented(t, " "+s+" 1")
		if s[0] < 32 {
			wantNoInline(t, s+"a", "a"+s, s+"1", "1"+s, " "+s+" a", s+"null", "null"+s, s+`"a"`, `"a"`+s)
		}
	}
}

func TestInlineOfComments(t *testing.T) {
	for line, want := range map[string]impl.Tree{
		"  ~ # none": nullOf(), "null #": nullOf(), "true # a": flagOf(true), " false #a": flagOf(false), "12 # 13": intOf(12), "-5    # a # b": intOf(-5), "a # b": textOf("a"), "a b # c": textOf("a b"), "  a  # b: c": textOf("a"), "[] # a": listOf(), "{} # }": mapOf(""), `"a" # b`: textOf("a"), `"a" # "b"`: textOf("a"), `  "a"  #`: textOf("a"), "500m # \xff": textOf("500m"), "a # \"b": textOf("a"), "a # b\nc": textOf("a"), "1 # \t": intOf(1),
	} {
		wantInline(t, line, want)
	}
	wantNoInline(t, "#", " #", "# a", "   # a", "#a", "##", "- # a", "a: # b", "-a # b", "[ # a", `"a # b`, `"a" b # c`, `"a"b # c`, "01 # a", "'a' # b")
}

func TestInlineOfHashesInsideQuotedStrings(t *testing.T) {
	for line, want := range map[string]string{
		`"#"`: "#", `"# a"`: "# a", `"a # b"`: "a # b", `"a #"`: "a #", `" # "`: " # ", `  "a # b"`: "a # b", `"a # b"  `: "a # b", `"a # b" # c`: "a # b", `"a # b"  # "c # d"`: "a # b", `"\" # a"`: `" # a`, `"\" # a" # b`: `" # a`, `"\\" # a`: `\`, `"a \\" # b" # c`: `a \`, `"\u0023 # a"`: "# # a", `" \\\" # a"`: ` \" # a`,
	} {
		wantInline(t, line, textOf(want))
	}
	wantNoInline(t, `"a # b`, `"a\" # b`, `"a # b"c`, `"a # b" c # d`, `"a" "# b"`, `a "# b"`, `1 "# b"`, `'# a'`)
}

// A hash sign behind another character than a space begins no comment, and no value contains it.
func TestInlineOfHashesBehindOtherBytes(t *testing.T) {
	wantNoInline(t, "a#", "a#b", "a# b", "1#", "1# a", "~# a", "null#a", "true#", "[]#", "{}# a", `"a"#`, `"a"# b`, `"a"#b`, "a:#b", "\xc3\xa9# a", "a\t# b", "a\xc2\xa0# b", "a\\# b")
	for b := range 256 {
		if before := allBytes()[b : b+1]; b != 32 {
			wantNoInline(t, before+"# a", "a"+before+"# b", "1"+before+"#", " "+before+"#")
		} else {
			wantInline(t, "a"+before+"# b", textOf("a"))
		}
	}
}

func TestInlineOfLinesWithoutValue(t *testing.T) {
	wantNoInline(t, "", " ", "   ", strings.Repeat(" ", 400), strings.Repeat(" ", 20001), "a: b", "a:", " a: b # c", "- a", "-", "  - a", "01", "-01", "9223372036854775808", "[", "[a]", "{a: b}", `"a`, `"\x"`, `"a" b`, "'a'", "\xff", "a\xff", "a\nb", "a\n", "\n", strings.Repeat("a", 401), `"`+strings.Repeat("a", 401)+`"`)
	wantInline(t, "  "+strings.Repeat("a", 400)+"  # b", textOf(strings.Repeat("a", 400)))
	wantInline(t, `  "`+strings.Repeat("#", 400)+`"  # b`, textOf(strings.Repeat("#", 400)))
}

// sameScalars are groups of texts for the same value each, and for another one than those of the other groups.
func sameScalars() [][]string {
	return [][]string{
		{"null", "~"}, {"true"}, {"false"}, {"0", "-0"}, {"1"}, {"-1"}, {"10"}, {"9223372036854775807"}, {"-9223372036854775808"}, {"[]"}, {"{}"}, {`""`}, {`" "`, `"\u0020"`}, {"a", `"a"`, `"\u0061"`}, {"A", `"A"`, `"\u0041"`}, {`" a"`}, {`"a "`}, {"a b", `"a b"`, `"a\u0020b"`}, {`"null"`, `"\u006eull"`}, {`"~"`, `"\u007e"`, `"\u007E"`}, {`"true"`}, {`"false"`}, {`"0"`, `"\u0030"`}, {`"-0"`}, {`"1"`}, {`"-1"`}, {`"[]"`}, {`"{}"`}, {"Null", `"Null"`}, {"TRUE", `"TRUE"`},
		{"1.0", `"1.0"`}, {"1.5", `"1.5"`}, {"500m", `"500m"`}, {"0.5", `"0.5"`}, {"1e1", `"1e1"`}, {"+1", `"+1"`}, {"a/b", `"a/b"`, `"a\/b"`}, {`"\n"`, `"\u000a"`, `"\u000A"`}, {`"\\n"`}, {`"\""`, `"\u0022"`}, {"\xc3\xa9", "\"\xc3\xa9\"", `"\u00e9"`, `"\u00E9"`}, {"e\xcc\x81", "\"e\xcc\x81\""}, {"\xf0\x9f\x98\x80", `"\ud83d\ude00"`, `"\uD83D\uDE00"`}, {"a:b", `"a:b"`}, {`"a: b"`}, {"~~", `"~~"`},
		{strings.Repeat("a", 400), `"` + strings.Repeat(`\u0061`, 400) + `"`}, {strings.Repeat("a", 399) + "b"}, {strings.Repeat("a", 399)},
	}
}

func TestScalarSameOfAllPairs(t *testing.T) {
	for i, group := range sameScalars() {
		for j, others := range sameScalars() {
			for _, a := range group {
				for _, b := range others {
					wantScalarSame(t, a, b, i == j)
				}
			}
		}
	}
}

func TestScalarSameOfTextsWithoutValue(t *testing.T) {
	faulty := []string{"", " ", "01", "-", "-a", "a: b", "a:", "a ", " a", "a # b", `"a`, `"a" `, `"\x"`, "[", "[1]", "'a'", "\xff", "9223372036854775808", strings.Repeat("a", 401), `"` + strings.Repeat("a", 401) + `"`}
	for _, a := range faulty {
		for _, b := range faulty {
			wantScalarSame(t, a, b, false)
		}
		for _, group := range sameScalars() {
			for _, b := range group {
				wantScalarSame(t, a, b, false)
			}
		}
	}
}

// wantParsedFromItsLine checks the promise for a valid value without children.
func wantParsedFromItsLine(t *testing.T, tree impl.Tree) {
	t.Helper()
	text, ok := impl.ScalarText(tree)
	if !ok {
		t.Errorf("ScalarText(%s) = %.60q, false; want true", brief(tree), text)
	}
	wantScalar(t, text, tree)
	if len(text) <= 20000 {
		wantLines(t, "\n  "+text+"  # a", impl.Line{Indent: 2, Text: text, At: 2})
	}
}

func TestValuesCanBeParsedFromTheirLine(t *testing.T) {
	for _, tree := range leafTrees() {
		wantParsedFromItsLine(t, tree)
	}
	for _, n := range append(edgeInts(), math.MinInt, math.MinInt+1, math.MaxInt) {
		wantParsedFromItsLine(t, intOf(n))
	}
	for _, s := range slices.Concat(plainStrings(), quotableStrings()) {
		if len(s) <= 400 {
			wantParsedFromItsLine(t, textOf(s))
		}
	}
	for s := range otherStrings() {
		wantParsedFromItsLine(t, textOf(s))
	}
	for _, s := range textsOf(4, `"`, "#", `\`, " ", ":", "-", "1", "\n", "~", "\xc3\xa9", "[") {
		wantParsedFromItsLine(t, textOf(s))
	}
	r := rand.New(rand.NewSource(12))
	for range 5000 {
		if tree := randomTree(r, 0); validTree(tree) {
			wantParsedFromItsLine(t, tree)
		}
		if s := randomLine(r); len(s) <= 400 {
			wantParsedFromItsLine(t, textOf(s))
		}
		wantParsedFromItsLine(t, intOf(int(r.Uint64()>>r.Intn(64))))
	}
}

// Strings that look like other values are parsed as strings, and never as those values.
func TestStringsThatLookLikeOtherValues(t *testing.T) {
	for _, s := range []string{"null", "~", "true", "false", "[]", "{}", "0", "-0", "1", "-1", "12", "007", "-5", "500m", "1.5", "-1.5", "1e5", "+1", "9223372036854775807", "9223372036854775808", "-9223372036854775808", `"a"`, `""`, "Null", "TRUE"} {
		wantParsedFromItsLine(t, textOf(s))
		text, _ := impl.ScalarText(textOf(s))
		for _, other := range []impl.Tree{nullOf(), flagOf(true), flagOf(false), intOf(0), intOf(1), intOf(-1), intOf(12), intOf(-5), intOf(math.MaxInt), intOf(math.MinInt), listOf(), mapOf(""), textOf(""), textOf("a")} {
			otherText, _ := impl.ScalarText(other)
			wantScalarSame(t, text, otherText, false)
		}
	}
}

func TestScalarsAsDocumented(t *testing.T) {
	for _, text := range textsOf(5, `"`, "a", `\`, "1", "0", "-", " ") {
		wantScalarAsDocumented(t, text)
		wantInlineAsDocumented(t, text)
	}
	for _, text := range textsOf(4, `"`, "#", " ", ":", "-", "0", ".", "e", "[", "]", "~", "\t", "\xc3", "\xa9", "null") {
		wantScalarAsDocumented(t, text)
		wantInlineAsDocumented(t, text)
	}
	for _, key := range textsOf(4, `"`, "#", `\`, " ", ":", "-", "1", "a", "\t", "~", "\xc3", "\xa9") {
		wantKeyText(t, key, keyTextByWords(key))
	}
}

func TestRandomScalarsAsDocumented(t *testing.T) {
	r := rand.New(rand.NewSource(121))
	pieces := append(linePieces(), "0", "-1", ".5", "e5", "9223372036854775807", "false", `"a\n"`, `\u00e9`, "\t", "\xff", "[", "}", "a", "b c")
	values, inline := 0, 0
	for range 40000 {
		text := ""
		for range 1 + r.Intn(4) {
			text += pieces[r.Intn(len(pieces))]
		}
		if r.Intn(3) == 0 {
			text = `"` + text + `"`
		}
		wantScalarAsDocumented(t, text)
		if _, ok := scalarByWords(text); ok {
			values++
		}
		line := strings.Repeat(" ", r.Intn(3)) + text + []string{"", " ", "  # a", "# a", " #"}[r.Intn(5)]
		wantInlineAsDocumented(t, line)
		if _, ok := inlineByWords(line); ok {
			inline++
		}
	}
	if values < 5000 || values > 35000 || inline < 5000 || inline > 35000 {
		t.Errorf("of 40000 random texts each, %d are values and %d are lines of one", values, inline)
	}
}

func TestScalarsShareNoMemory(t *testing.T) {
	for _, text := range []string{"[]", "{}", "null", "true", "12", "a b", `"a\nb"`, `""`} {
		first, _ := impl.ReadScalar(text)
		second, _ := impl.ReadScalar(text)
		third, _ := impl.Inline(" " + text)
		want, _ := scalarByWords(text)
		if shareMemory([]impl.Tree{first, second, third}, nil) {
			t.Errorf("results for %q share memory", text)
		}
		first.Keys, first.Kids = append(first.Keys, "changed"), append(first.Kids, nullOf())
		overwrite(&first)
		if !equalTrees(second, want) || !equalTrees(third, want) {
			t.Errorf("a change of one result for %q changed the others to %s and %s", text, brief(second), brief(third))
		}
		wantScalar(t, text, want)
	}
}

func TestScalarTextKeepsItsArgument(t *testing.T) {
	for _, tree := range allTrees() {
		wantNewMemory(t, "ScalarText", func(args []impl.Tree) []impl.Tree {
			impl.ScalarText(args[0])
			return nil
		}, roomy(tree))
	}
}

// The bytes of the arguments lie in a slice here, so that a change would be seen.
func TestScalarFunctionsKeepTheirArguments(t *testing.T) {
	for _, text := range []string{"", "[]", "{}", "null", "~", "true", "-12", "a b", "500m", `"a\n\"b"`, `"a # b"  # c`, "  a  # b", `"a`, "a: b", "\xff", "a\tb", "01", strings.Repeat("a", 401)} {
		kept := append([]byte(text), "spare"...)
		arg := unsafe.String(unsafe.SliceData(kept), len(text))
		impl.ReadScalar(arg)
		impl.KeyText(arg)
		impl.ScalarText(textOf(arg))
		impl.Inline(arg)
		impl.ScalarSame(arg, "null")
		impl.ScalarSame("null", arg)
		impl.ScalarSame(arg, arg)
		if string(kept) != text+"spare" {
			t.Errorf("the argument %.60q was changed to %.60q", text+"spare", kept)
		}
	}
}
