package tests

import (
	"encoding/json"
	"fmt"
	"maps"
	"math"
	"math/rand"
	"slices"
	"strconv"
	"strings"
	"testing"
	"unsafe"

	"loop.example/g00968/impl"
)

// bracedNode is a list or map that is not yet complete.
type bracedNode struct {
	kind int
	kids []impl.Tree
	keys []string
}

// bracedReader says what the document says about tokens, with a state and a stack in place of calls within calls.
type bracedReader struct {
	open   []bracedNode
	state  string
	values int
	result impl.Tree
}

// key returns a code for the token of a key.
func (r *bracedReader) key(sign impl.Sign) int {
	top := &r.open[len(r.open)-1]
	if sign.Kind != 7 {
		return 4
	}
	if len(sign.Text) > 400 {
		return 8
	}
	if slices.Contains(top.keys, sign.Text) {
		return 5
	}
	top.keys = append(top.keys, sign.Text)
	r.state = "colon"
	return 0
}

func (r *bracedReader) value(sign impl.Sign) int {
	if !slices.Contains([]int{1, 3, 7, 8, 9, 10, 11}, sign.Kind) {
		return 4
	}
	if len(r.open) >= 8 {
		return 6
	}
	if r.values == 300 {
		return 7
	}
	if len(sign.Text) > 400 {
		return 8
	}
	r.values++
	switch sign.Kind {
	case 1:
		r.open, r.state = append(r.open, bracedNode{kind: 6}), "first key"
	case 3:
		r.open, r.state = append(r.open, bracedNode{kind: 5}), "first value"
	case 7:
		r.complete(textOf(sign.Text))
	case 8:
		r.complete(intOf(sign.Num))
	case 9, 10:
		r.complete(flagOf(sign.Kind == 9))
	case 11:
		r.complete(nullOf())
	}
	return 0
}

func (r *bracedReader) complete(t impl.Tree) {
	if len(r.open) == 0 {
		r.result, r.state = t, "nothing"
		return
	}
	top := &r.open[len(r.open)-1]
	top.kids = append(top.kids, t)
	r.state = "comma"
}

// end closes the list or map that was opened last.
func (r *bracedReader) end() {
	top := r.open[len(r.open)-1]
	r.open = r.open[:len(r.open)-1]
	if top.kind == 5 {
		r.complete(listOf(top.kids...))
		return
	}
	values := map[string]impl.Tree{}
	for i, key := range top.keys {
		values[key] = top.kids[i]
	}
	t := impl.Tree{Kind: 6}
	for _, key := range slices.Sorted(maps.Keys(values)) {
		t.Keys = append(t.Keys, key)
		t.Kids = append(t.Kids, values[key])
	}
	r.complete(t)
}

func (r *bracedReader) step(sign impl.Sign) int {
	ends := len(r.open) > 0 && sign.Kind == map[int]int{5: 4, 6: 2}[r.open[len(r.open)-1].kind]
	switch {
	case ends && (r.state == "first key" || r.state == "first value" || r.state == "comma"):
		r.end()
		return 0
	case r.state == "value" || r.state == "first value":
		return r.value(sign)
	case r.state == "key" || r.state == "first key":
		return r.key(sign)
	case r.state == "colon" && sign.Kind == 5:
		r.state = "value"
		return 0
	case r.state == "comma" && sign.Kind == 6:
		r.state = map[int]string{5: "value", 6: "key"}[r.open[len(r.open)-1].kind]
		return 0
	}
	return 4
}

func bracedByWords(text string) (impl.Tree, impl.Fault) {
	signs, fault := signsByWords(text)
	if fault.Code != 0 {
		return impl.Tree{}, fault
	}
	r := &bracedReader{state: "value"}
	for _, sign := range signs {
		if code := r.step(sign); code != 0 {
			return impl.Tree{}, impl.Fault{Code: code, At: sign.At}
		}
	}
	if r.state != "nothing" {
		return impl.Tree{}, impl.Fault{Code: 4, At: len(text)}
	}
	return r.result, impl.Fault{}
}

// bracedTextByWords formats a tree whether it is valid or not, and however long its text is.
func bracedTextByWords(t impl.Tree) string {
	text := &strings.Builder{}
	switch t.Kind {
	case 1:
		text.WriteString("null")
	case 2:
		fmt.Fprintf(text, "%t", t.Flag)
	case 3:
		fmt.Fprintf(text, "%d", t.Num)
	case 4:
		text.WriteString(quotedByWords(t.Text))
	case 5:
		text.WriteByte('[')
		for i, kid := range t.Kids {
			if i > 0 {
				text.WriteByte(',')
			}
			text.WriteString(bracedTextByWords(kid))
		}
		text.WriteByte(']')
	case 6:
		text.WriteByte('{')
		for i, kid := range t.Kids {
			if i > 0 {
				text.WriteByte(',')
			}
			text.WriteString(quotedByWords(t.Keys[i]) + ":" + bracedTextByWords(kid))
		}
		text.WriteByte('}')
	}
	return text.String()
}

// wantBraced checks all functions that read text, which has no fault.
func wantBraced(t *testing.T, text string, want impl.Tree) {
	t.Helper()
	got, fault := impl.ReadBraced(text)
	if !equalTrees(got, want) || fault != (impl.Fault{}) {
		t.Errorf("ReadBraced(%.80q of %d bytes) = %s, %v; want %s, no fault", text, len(text), brief(got), fault, brief(want))
	}
	if !impl.TreeOk(got) {
		t.Errorf("ReadBraced(%.80q of %d bytes) = %s, which is not valid", text, len(text), brief(got))
	}
	normal, fault := impl.BracedNormal(text)
	if wantNormal := bracedTextByWords(want); normal != wantNormal || fault != (impl.Fault{}) {
		t.Errorf("BracedNormal(%.80q of %d bytes) = %.80q of %d bytes, %v; want %.80q of %d bytes, no fault", text, len(text), normal, len(normal), fault, wantNormal, len(wantNormal))
	}
	if !impl.BracedOk(text) || !impl.BracedSame(text, text) {
		t.Errorf("BracedOk(%.80q of %d bytes) = %v, BracedSame of it %v; want true", text, len(text), impl.BracedOk(text), impl.BracedSame(text, text))
	}
}

// wantNoBraced checks all functions that read text, which has this fault.
func wantNoBraced(t *testing.T, text string, code int, at int) {
	t.Helper()
	want := impl.Fault{Code: code, At: at}
	if got, fault := impl.ReadBraced(text); !equalTrees(got, impl.Tree{}) || fault != want {
		t.Errorf("ReadBraced(%.80q of %d bytes) = %s, %v; want the zero Tree, %v", text, len(text), brief(got), fault, want)
	}
	if normal, fault := impl.BracedNormal(text); normal != "" || fault != want {
		t.Errorf("BracedNormal(%.80q of %d bytes) = %.80q, %v; want nothing, %v", text, len(text), normal, fault, want)
	}
	if impl.BracedOk(text) || impl.BracedSame(text, text) || impl.BracedSame(text, "null") || impl.BracedSame("null", text) {
		t.Errorf("BracedOk(%.80q of %d bytes) = %v, or BracedSame of it is true; want false", text, len(text), impl.BracedOk(text))
	}
}

func wantBracedAsDocumented(t *testing.T, text string) {
	t.Helper()
	if tree, fault := bracedByWords(text); fault.Code == 0 {
		wantBraced(t, text, tree)
	} else {
		wantNoBraced(t, text, fault.Code, fault.At)
	}
}

func wantBracedText(t *testing.T, tree impl.Tree, want string) {
	t.Helper()
	if got := impl.BracedText(tree); got != want {
		t.Errorf("BracedText(%s) = %.80q of %d bytes; want %.80q of %d bytes", brief(tree), got, len(got), want, len(want))
	}
}

func wantBracedSame(t *testing.T, a string, b string, want bool) {
	t.Helper()
	if impl.BracedSame(a, b) != want || impl.BracedSame(b, a) != want {
		t.Errorf("BracedSame(%.80q, %.80q) = %v, swapped %v; want %v", a, b, impl.BracedSame(a, b), impl.BracedSame(b, a), want)
	}
}

// bracedInLists and bracedInMaps put the text of a value into so many lists, or maps.
func bracedInLists(count int, text string) string {
	return strings.Repeat("[", count) + text + strings.Repeat("]", count)
}

func bracedInMaps(count int, text string) string {
	return strings.Repeat(`{"k":`, count) + text + strings.Repeat("}", count)
}

// numbers are so many elements of a list.
func numbers(count int) string {
	return strings.TrimSuffix(strings.Repeat("0,", count), ",")
}

// pairs are so many pairs of a map, 8 bytes each and a comma between them.
func pairs(count int) string {
	list := []string{}
	for i := range count {
		list = append(list, fmt.Sprintf(`"k%03d":0`, i))
	}
	return strings.Join(list, ",")
}

// pieces are the texts of the tokens of a text without white space inside strings.
func pieces(t *testing.T, text string) []string {
	t.Helper()
	signs, fault := signsByWords(text)
	if fault.Code != 0 {
		t.Fatalf("the test has a faulty text, %q", text)
	}
	list := []string{}
	for i, sign := range signs {
		end := len(text)
		if i+1 < len(signs) {
			end = signs[i+1].At
		}
		list = append(list, strings.TrimSpace(text[sign.At:end]))
	}
	return list
}

// bracedTexts are texts without white space, of every kind of value at every kind of place.
func bracedTexts() []string {
	return []string{"null", "true", "false", "0", "-7", `""`, `"a"`, "[]", "{}", "[1]", "[1,2]", "[[]]", "[{}]", "[[],{}]", `{"a":1}`, `{"a":[]}`, `{"a":{}}`, `{"a":1,"b":2}`, `{"b":2,"a":1}`, `[null,true,false,-1,"x",[],{}]`,
		`{"":null,"c":true,"b":false,"a":0,"e":"x","d":[],"f":{}}`, `[[1,[2,[3]]],{"a":{"b":{"c":[]}}}]`, `{"a":[{"a":[{"a":1}]}],"b":[[],[[]]]}`, `{"name":"p1","labels":{"zone":"a","app":"web"},"needs":[{"op":"in","key":"app"}],"cpu":"500m"}`}
}

func TestReadBracedOfSingleValues(t *testing.T) {
	for text, want := range map[string]impl.Tree{"null": nullOf(), "true": flagOf(true), "false": flagOf(false), "0": intOf(0), "-0": intOf(0), "7": intOf(7), "-12": intOf(-12), "9223372036854775807": intOf(math.MaxInt), "-9223372036854775808": intOf(math.MinInt),
		`""`: textOf(""), `"a"`: textOf("a"), `"null"`: textOf("null"), `"12"`: textOf("12"), `"[]"`: textOf("[]"), `"\u00e9\n\/"`: textOf("\xc3\xa9\n/"), "\"\xf0\x9f\x98\x80\"": textOf("\xf0\x9f\x98\x80"), `" a "`: textOf(" a "), "[]": listOf(), "{}": mapOf("")} {
		wantBraced(t, text, want)
		for _, blank := range []string{" ", "\t", "\n", "\r", " \r\n\t "} {
			wantBraced(t, blank+text, want)
			wantBraced(t, text+blank, want)
			wantBraced(t, blank+text+blank, want)
		}
		wantBraced(t, "["+text+"]", listOf(want))
		wantBraced(t, "["+text+","+text+"]", listOf(want, want))
		wantBraced(t, `{"a":`+text+"}", mapOf("a", want))
		wantBraced(t, `{"b":`+text+`,"a":[`+text+"]}", mapOf("a b", listOf(want), want))
	}
}

func TestReadBracedOfListsAndMaps(t *testing.T) {
	wantBraced(t, "[1]", listOf(intOf(1)))
	wantBraced(t, "[1,2,1]", listOf(intOf(1), intOf(2), intOf(1)))
	wantBraced(t, "[[]]", listOf(listOf()))
	wantBraced(t, "[{}]", listOf(mapOf("")))
	wantBraced(t, "[[],[],{}]", listOf(listOf(), listOf(), mapOf("")))
	wantBraced(t, "[[1],[2,[3]],4]", listOf(listOf(intOf(1)), listOf(intOf(2), listOf(intOf(3))), intOf(4)))
	wantBraced(t, `{"a":1}`, mapOf("a", intOf(1)))
	wantBraced(t, `{"a":{}}`, mapOf("a", mapOf("")))
	wantBraced(t, `{"a":[]}`, mapOf("a", listOf()))
	wantBraced(t, `{"":""}`, impl.Tree{Kind: 6, Keys: []string{""}, Kids: []impl.Tree{textOf("")}})
	wantBraced(t, `{"b":1, "a":[null]}`, mapOf("a b", listOf(nullOf()), intOf(1)))
	wantBraced(t, `[{"a":[{"a":1}]},{"b":{"a":{}}}]`, listOf(mapOf("a", listOf(mapOf("a", intOf(1)))), mapOf("b", mapOf("a", mapOf("")))))
	wantBraced(t, `{"name":"p1","labels":{"zone":"a","app":"web"},"rank":3}`, mapOf("labels name rank", mapOf("app zone", textOf("web"), textOf("a")), textOf("p1"), intOf(3)))
	for _, text := range bracedTexts() {
		wantBracedAsDocumented(t, text)
		wantBracedAsDocumented(t, "["+text+"]")
		wantBracedAsDocumented(t, `{"k":`+text+"}")
	}
}

func TestReadBracedOfWhiteSpaceInEachPlace(t *testing.T) {
	for _, text := range bracedTexts() {
		want, _ := bracedByWords(text)
		parts := pieces(t, text)
		for _, blank := range []string{" ", "\t", "\n", "\r", "\r\n", " \t\n\r "} {
			for i := range len(parts) + 1 {
				wantBraced(t, strings.Join(parts[:i], "")+blank+strings.Join(parts[i:], ""), want)
			}
			wantBraced(t, blank+strings.Join(parts, blank)+blank, want)
		}
		for _, other := range []string{"\x0b", "\x0c", "\x00", "\xc2\xa0", "\xef\xbb\xbf", "#", "//"} {
			for i := range len(parts) + 1 {
				before := strings.Join(parts[:i], "")
				wantNoBraced(t, before+other+strings.Join(parts[i:], ""), impl.FtSign, len(before))
			}
		}
	}
}

// orders are all orders of a list.
func orders[T any](list []T) [][]T {
	if len(list) == 0 {
		return [][]T{{}}
	}
	all := [][]T{}
	for i := range list {
		for _, rest := range orders(slices.Concat(list[:i], list[i+1:])) {
			all = append(all, append([]T{list[i]}, rest...))
		}
	}
	return all
}

func TestReadBracedOfKeysInEachOrder(t *testing.T) {
	words := []string{"", "A", "a", "aa", "b"}
	want := impl.Tree{Kind: 6, Keys: words, Kids: []impl.Tree{textOf(""), textOf("A"), textOf("a"), textOf("aa"), textOf("b")}}
	for _, order := range orders(words) {
		list := []string{}
		for _, word := range order {
			list = append(list, `"`+word+`":"`+word+`"`)
		}
		text := "{" + strings.Join(list, ",") + "}"
		wantBraced(t, text, want)
		wantBraced(t, `[{"k":`+text+"}]", listOf(mapOf("k", want)))
	}
	// Code points above 65535 are sorted behind all others, as their bytes are.
	wantBraced(t, "{\"\\ud83d\\ude00\":1,\"\\uffff\":2,\"\xc3\xa9\":3,\"z\":4,\"\\u0000\":5}", impl.Tree{Kind: 6, Keys: []string{"\x00", "z", "\xc3\xa9", "\xef\xbf\xbf", "\xf0\x9f\x98\x80"}, Kids: []impl.Tree{intOf(5), intOf(4), intOf(3), intOf(2), intOf(1)}})
	wantBraced(t, `{"10":1,"9":2,"1":3}`, mapOf("1 10 9", intOf(3), intOf(1), intOf(2)))
}

func TestReadBracedOfEqualKeys(t *testing.T) {
	for text, at := range map[string]int{
		`{"a":1,"a":2}`: 7, `{"a":1,"a":1}`: 7, `{"a":1,"b":2,"c":3,"a":4}`: 19, `{"a":1,"b":2,"c":3,"b":4}`: 19, `{"a":1,"b":2,"c":3,"c":4}`: 19, `{"a":1,"a":2,"b":3,"c":4}`: 7, `{"c":1,"b":2,"a":3,"b":4,"a":5}`: 19, `{"b":1,"a":2,"a":3}`: 13,
		`{"":1,"":2}`: 6, `{"a": 1, "b": 2, "a" : 3}`: 17, `[{"a":1},{"b":1,"b":2}]`: 16, `{"a":{"a":1,"a":2}}`: 12, `{"a":{"b":1},"a":2}`: 13, `{"a":[{"a":1}],"b":{"a":1},"a":3}`: 27,
		"{\"\xc3\xa9\":1,\"\xc3\xa9\":2}": 8, "{\"\xc3\xa9\":1,\"\\u00e9\":2}": 8, "{\"\\u00E9\":1,\"\xc3\xa9\":2}": 12, `{"\u0041":1,"A":2}`: 12, `{"A":1,"\u0041":2}`: 7, `{"\/":1,"/":2}`: 8, `{"/":1,"\u002f":2}`: 7, `{"\n":1,"\u000a":2}`: 8, `{"\u000A":1,"\u000a":2}`: 12,
		`{"\"":1,"\u0022":2}`: 8, `{"\\":1,"\u005c":2}`: 8, "{\"\xf0\x9f\x98\x80\":1,\"\\ud83d\\ude00\":2}": 10,
	} {
		wantNoBraced(t, text, impl.FtTwice, at)
		wantNoBraced(t, "["+text+"]", impl.FtTwice, at+1)
		wantNoBraced(t, `{"a":`+text+"}", impl.FtTwice, at+5)
	}
}

// Keys that look alike, and equal keys of different maps, are no fault.
func TestReadBracedOfKeysThatAreNotTwiceInAMap(t *testing.T) {
	one := mapOf("a", intOf(1))
	wantBraced(t, `[{"a":1},{"a":1}]`, listOf(one, one))
	wantBraced(t, `{"a":{"a":1}}`, mapOf("a", one))
	wantBraced(t, `{"a":{"a":1},"b":{"a":1}}`, mapOf("a b", one, one))
	wantBraced(t, `{"b":{"a":1,"b":2},"a":[{"a":1}]}`, mapOf("a b", listOf(one), mapOf("a b", intOf(1), intOf(2))))
	wantBraced(t, `{"a":1,"A":2}`, mapOf("A a", intOf(2), intOf(1)))
	wantBraced(t, `{"a":1,"a ":2}`, impl.Tree{Kind: 6, Keys: []string{"a", "a "}, Kids: []impl.Tree{intOf(1), intOf(2)}})
	wantBraced(t, `{"a":"a","b":"a"}`, mapOf("a b", textOf("a"), textOf("a")))
	wantBraced(t, `{"\\u0041":1,"A":2}`, mapOf(`A \u0041`, intOf(2), intOf(1)))
	wantBraced(t, "{\"\xc3\xa9\":1,\"e\xcc\x81\":2}", mapOf("e\xcc\x81 \xc3\xa9", intOf(2), intOf(1)))
	wantBraced(t, `{"1":1,"01":2}`, mapOf("01 1", intOf(2), intOf(1)))
}

func TestReadBracedOfEqualKeysAtEachPlace(t *testing.T) {
	for count := 2; count <= 6; count++ {
		for first := range count {
			for second := first + 1; second < count; second++ {
				text, at := "{", 0
				for i := range count {
					if i > 0 {
						text += ","
					}
					key := i
					if i == second {
						key, at = first, len(text)
					}
					// Keys are neither ascending nor descending.
					text += fmt.Sprintf(`"%d":%d`, key*5%7, i)
				}
				wantNoBraced(t, text+"}", impl.FtTwice, at)
			}
		}
	}
}

func TestReadBracedOfTextsWithoutTokens(t *testing.T) {
	for _, text := range []string{"", " ", "\n", " \t\n\r", strings.Repeat(" ", impl.MaxText)} {
		wantNoBraced(t, text, impl.FtForm, len(text))
	}
	if tree, fault := impl.ReadBraced(""); !equalTrees(tree, impl.Tree{}) || fault != (impl.Fault{Code: 4}) {
		t.Errorf("ReadBraced of the empty text = %s, %v", brief(tree), fault)
	}
}

func TestReadBracedOfTextsThatEndBehindEachToken(t *testing.T) {
	for _, text := range bracedTexts() {
		parts := pieces(t, text)
		for i := range len(parts) {
			cut := strings.Join(parts[:i], "")
			wantNoBraced(t, cut, impl.FtForm, len(cut))
			wantNoBraced(t, cut+" \n ", impl.FtForm, len(cut)+3)
			wantNoBraced(t, "[0,"+cut, impl.FtForm, len(cut)+3)
		}
	}
	for _, text := range []string{"[", "[1", "[1,", "[[1]", "{", `{"a"`, `{"a":`, `{"a":1`, `{"a":1,`, `{"a":1,"b"`, `{"a":[]`, `[{"a":1}`} {
		wantNoBraced(t, text, impl.FtForm, len(text))
		wantNoBraced(t, text+"\n", impl.FtForm, len(text)+1)
	}
}

// tokenKinds have one or more texts for each kind of token.
func tokenKinds() map[string][]string {
	return map[string][]string{"{": {"{"}, "}": {"}"}, "[": {"["}, "]": {"]"}, ":": {":"}, ",": {","}, "text": {`"x"`, `""`, `"a"`}, "number": {"5", "-1"}, "true": {"true"}, "false": {"false"}, "null": {"null"}}
}

// A text stands for a place, behind its last token; the words are the kinds of tokens that may follow there.
func bracedPlaces() map[string]string {
	const value = "{ [ text number true false null"
	return map[string]string{
		"": value, " ": value, "[": value + " ]", "[1,": value, "[1,2,": value, "[[": value + " ]", "[[1,": value, `{"a":[`: value + " ]", "[[],": value, "[{},": value,
		"[1": ", ]", `["b"`: ", ]", "[null": ", ]", "[true": ", ]", "[false": ", ]", "[[]": ", ]", "[{}": ", ]", "[1,2": ", ]", "[[1": ", ]", `{"a":[1`: ", ]", `{"a":[{}`: ", ]", `[{"a":1}`: ", ]",
		"{": "text }", "[{": "text }", `{"a":{`: "text }", `{"b"`: ":", `{""`: ":", `{"b":1,"c"`: ":", `[{"b"`: ":", `{"b":`: value, `{"b":1,"c":`: value, `[{"b":`: value,
		`{"b":1`: ", }", `{"b":"c"`: ", }", `{"b":null`: ", }", `{"b":true`: ", }", `{"b":false`: ", }", `{"b":[]`: ", }", `{"b":{}`: ", }", `{"b":1,"c":2`: ", }", `[{"b":1`: ", }", `{"b":{"b":1`: ", }", `{"b":{"b":1}`: ", }", `{"b":[1]`: ", }",
		`{"b":1,`: "text", `{"b":1,"c":2,`: "text", `[{"b":1,`: "text", `{"b":[],`: "text", `{"b":{},`: "text",
		"1 ": "", `"b"`: "", "null ": "", "true ": "", "false ": "", "[]": "", "{}": "", "[1]": "", `{"b":1}`: "", "[[]]": "", "[1]\n": "",
	}
}

func TestReadBracedOfEachKindOfTokenInEachPlace(t *testing.T) {
	for place, kinds := range bracedPlaces() {
		// Digits that follow digits would belong to the same number.
		place += " "
		for kind, texts := range tokenKinds() {
			for _, token := range texts {
				accepted := slices.Contains(strings.Fields(kinds), kind)
				for _, behind := range []string{"", " ", "]", "}", ",", "1", " 1]", `"b":1}`, ":1}", "[", "{}]"} {
					text := place + token + " " + behind
					_, fault := impl.ReadBraced(text)
					if accepted && fault.Code != 0 && fault.At == len(place) {
						t.Errorf("ReadBraced(%q) has the fault %v", text, fault)
					}
					if !accepted {
						wantNoBraced(t, text, impl.FtForm, len(place))
					}
					wantBracedAsDocumented(t, text)
				}
			}
		}
	}
}

func TestReadBracedOfKnownFaultsOfForm(t *testing.T) {
	for text, at := range map[string]int{
		"[1,]": 3, "[,]": 1, "[,1]": 1, "[1,,2]": 3, "[1 2]": 3, "[1,2": 4, "[1}": 2, "[1:2]": 2, "[": 1, "]": 0, "[]]": 2, "[[]": 3, "[] []": 3, "[1],": 3, "1 2": 2, "1,2": 1, "1,": 1, `"a" "b"`: 4, "null null": 5, "truefalse": 4, "{}{}": 2, "{} 1": 3, `"a":1`: 3,
		`{"a":1,}`: 7, "{,}": 1, `{,"a":1}`: 1, `{"a":1,,"b":2}`: 7, `{"a":1 "b":2}`: 7, `{"a" 1}`: 5, `{"a"}`: 4, `{"a",}`: 4, `{"a":}`: 5, `{"a":,"b":1}`: 5, `{"a"::1}`: 5, `{:1}`: 1, "{1:2}": 1, "{null:1}": 1, "{true:1}": 1, "{[]:1}": 1, "{{}:1}": 1, `{"a":1]`: 6, `{"a":1,2:3}`: 7, `{"a":1,"b"}`: 10, `{"a":1,"b",}`: 10,
		"{]": 1, "[}": 1, "{": 1, "}": 0, ":": 0, ",": 0, `{"a":1}}`: 7, `{"a":{"b":1}`: 12, `[{]}`: 2, `[{"a":1]}`: 7, `{"a":[}`: 6, `{"a":[1}]`: 7, `{"a":1:2}`: 6, "[1,2,]": 5, "[[1,],2]": 4, "[[],]": 4, "[{},]": 4, `{"a":[],}`: 8, ` [ 1 , ] `: 7,
	} {
		wantNoBraced(t, text, impl.FtForm, at)
	}
}

func TestReadBracedOfDamagedTexts(t *testing.T) {
	tokens := []string{"{", "}", "[", "]", ":", ",", `"a"`, `"x"`, "7", "true", "false", "null"}
	for _, text := range bracedTexts() {
		parts := pieces(t, text)
		for i := range parts {
			wantBracedAsDocumented(t, strings.Join(slices.Concat(parts[:i], parts[i+1:]), " "))
			wantBracedAsDocumented(t, strings.Join(slices.Concat(parts[:i+1], parts[i:]), " "))
			for _, token := range tokens {
				wantBracedAsDocumented(t, strings.Join(slices.Concat(parts[:i], []string{token}, parts[i+1:]), " "))
				wantBracedAsDocumented(t, strings.Join(slices.Concat(parts[:i], []string{token}, parts[i:]), " "))
				wantBracedAsDocumented(t, text+token)
			}
		}
	}
}

func TestReadBracedOfAllShortSequences(t *testing.T) {
	lists := [][]string{textsOf(4, "{", "}", "[", "]", ":", ",", `"a"`, `"b"`, "1 ", "true ", "null "), textsOf(7, "[", "]", ",", "1 "), textsOf(6, "{", "}", ":", ",", `"a"`)}
	for _, list := range lists {
		for _, text := range list {
			wantBracedAsDocumented(t, text)
		}
	}
}

func TestReadBracedOfDepth(t *testing.T) {
	ends := map[string]impl.Tree{"1": intOf(1), "null": nullOf(), "true": flagOf(true), "false": flagOf(false), `"a"`: textOf("a"), "[]": listOf(), "{}": mapOf("")}
	for text, end := range ends {
		for around := range 12 {
			inner := around / 2
			if around < 8 {
				wantBraced(t, bracedInLists(around, text), inLists(around, end))
				wantBraced(t, bracedInMaps(around, text), inMaps(around, end))
				wantBraced(t, bracedInMaps(around-inner, bracedInLists(inner, text)), inMaps(around-inner, inLists(inner, end)))
				wantBraced(t, bracedInLists(around-inner, bracedInMaps(inner, text)), inLists(around-inner, inMaps(inner, end)))
				continue
			}
			wantNoBraced(t, bracedInLists(around, text), impl.FtDeep, 8)
			wantNoBraced(t, bracedInMaps(around, text), impl.FtDeep, 40)
			wantNoBraced(t, bracedInMaps(3, bracedInLists(around-3, text)), impl.FtDeep, 20)
			wantNoBraced(t, bracedInLists(3, bracedInMaps(around-3, text)), impl.FtDeep, 28)
		}
		wantNoBraced(t, bracedInLists(7, "[1,"+text), impl.FtDeep, 8)
		wantNoBraced(t, bracedInLists(6, "[1,["+text+"]]")+"x", impl.FtSign, 18+len(text))
		wantNoBraced(t, bracedInLists(6, "[1,[[],"+text+"]]"), impl.FtDeep, 10)
		wantNoBraced(t, "[[],{}, 1, "+bracedInLists(7, text)+"]", impl.FtDeep, 18)
		wantNoBraced(t, `{"a":1, "b" : `+bracedInMaps(7, text)+"}", impl.FtDeep, 49)
		wantBraced(t, bracedInLists(6, "[1,"+text+"]"), inLists(6, listOf(intOf(1), end)))
		// A depth ends with its list or map.
		wantBraced(t, "["+bracedInLists(6, text)+","+bracedInMaps(6, text)+","+text+"]", listOf(inLists(6, end), inMaps(6, end), end))
	}
	wantNoBraced(t, strings.Repeat("[", impl.MaxText), impl.FtDeep, 8)
	wantNoBraced(t, strings.Repeat(`{"":`, impl.MaxText/4), impl.FtDeep, 32)
}

func TestReadBracedOfSize(t *testing.T) {
	for text, end := range map[string]impl.Tree{"1": intOf(1), "null": nullOf(), "true": flagOf(true), "false": flagOf(false), `"a"`: textOf("a"), "[]": listOf(), "{}": mapOf("")} {
		list, pairList := listOf(), wideMap(298)
		for range 298 {
			list.Kids = append(list.Kids, intOf(0))
		}
		pairList.Keys, pairList.Kids = append(pairList.Keys, "z"), append(slices.Clone(list.Kids), end)
		list.Kids = append(list.Kids, end)
		wantBraced(t, "["+numbers(298)+","+text+"]", list)
		wantBraced(t, "{"+pairs(298)+`,"z":`+text+"}", pairList)
		wantNoBraced(t, "["+numbers(299)+","+text+"]", impl.FtMany, 599)
		wantNoBraced(t, "["+numbers(299)+","+text, impl.FtMany, 599)
		wantNoBraced(t, "["+numbers(400)+"]", impl.FtMany, 599)
		wantNoBraced(t, "{"+pairs(299)+`,"z":`+text+"}", impl.FtMany, 1+299*9+4)
		wantNoBraced(t, "{"+pairs(299)+`,"z" : `+text+"}", impl.FtMany, 1+299*9+6)
		wantNoBraced(t, "[["+numbers(298)+"],"+text+"]", impl.FtMany, 599)
		wantNoBraced(t, `{"a":[`+numbers(298)+`],"b":`+text+"}", impl.FtMany, 607)
		wantNoBraced(t, "[["+numbers(100)+"],["+numbers(197)+"],"+text+"]", impl.FtMany, 599)
	}
	wantBraced(t, "["+numbers(150)+",["+numbers(147)+"],{}]", bracedTreeOf(t, "["+numbers(150)+",["+numbers(147)+"],{}]"))
	wantNoBraced(t, "["+strings.Repeat("[],", 299)+"[]]", impl.FtMany, 1+299*3)
	wantNoBraced(t, "["+strings.Repeat("{},", 299)+"{}]", impl.FtMany, 1+299*3)
	wantNoBraced(t, "["+strings.Repeat(`{"k":0},`, 149)+"1,{}]", impl.FtMany, 1+149*8+2)
	wantNoBraced(t, "["+numbers(9999)+"]", impl.FtMany, 599)
}

// bracedTreeOf reads a text of the right size with the words of the document.
func bracedTreeOf(t *testing.T, text string) impl.Tree {
	t.Helper()
	tree, fault := bracedByWords(text)
	if fault.Code != 0 || sizeOfTree(tree) != 300 {
		t.Fatalf("the test has a text of the wrong size, %d, with the fault %v", sizeOfTree(tree), fault)
	}
	return tree
}

// wideStrings are the insides of quoted strings that mean MaxString bytes.
func wideStrings() map[string]string {
	return map[string]string{
		strings.Repeat("a", 400): strings.Repeat("a", 400), strings.Repeat(`\u0041`, 400): strings.Repeat("A", 400), strings.Repeat(`\n`, 400): strings.Repeat("\n", 400), strings.Repeat(`\u0000`, 400): strings.Repeat("\x00", 400), strings.Repeat("\xc3\xa9", 200): strings.Repeat("\xc3\xa9", 200),
		strings.Repeat(`\u00e9`, 200): strings.Repeat("\xc3\xa9", 200), strings.Repeat(`\u20ac`, 133) + "a": strings.Repeat("\xe2\x82\xac", 133) + "a", strings.Repeat(`\ud83d\ude00`, 100): strings.Repeat("\xf0\x9f\x98\x80", 100), strings.Repeat(`\"`, 200) + strings.Repeat(`\\`, 200): strings.Repeat(`"`, 200) + strings.Repeat(`\`, 200),
	}
}

func TestReadBracedOfWideStrings(t *testing.T) {
	for inside, want := range wideStrings() {
		if len(want) != 400 {
			t.Fatalf("the test has a string of %d bytes", len(want))
		}
		wide := `"` + inside + `"`
		wantBraced(t, wide, textOf(want))
		wantBraced(t, `["x",`+wide+`,`+wide+`]`, listOf(textOf("x"), textOf(want), textOf(want)))
		wantBraced(t, "{"+wide+":"+wide+"}", impl.Tree{Kind: 6, Keys: []string{want}, Kids: []impl.Tree{textOf(want)}})
		wantBraced(t, bracedInLists(7, wide), inLists(7, textOf(want)))
		for _, more := range []string{"b", `\n`, `\u0000`, "\xc3\xa9", `\u00e9`, "bb", strings.Repeat("b", 401)} {
			wider := `"` + inside + more + `"`
			wantNoBraced(t, wider, impl.FtWide, 0)
			wantNoBraced(t, `"`+more+inside+`"`, impl.FtWide, 0)
			wantNoBraced(t, " \n"+wider, impl.FtWide, 2)
			wantNoBraced(t, "["+wider+"]", impl.FtWide, 1)
			wantNoBraced(t, "[1, "+wider, impl.FtWide, 4)
			wantNoBraced(t, `{"a":`+wider+"}", impl.FtWide, 5)
			wantNoBraced(t, "{"+wider+":1}", impl.FtWide, 1)
			wantNoBraced(t, `{"a":1, `+wider+":1}", impl.FtWide, 8)
			wantNoBraced(t, "["+wide+",{"+wide+":{"+wider, impl.FtWide, 5+2*len(wide))
		}
		wantNoBraced(t, `"`+inside, impl.FtSign, 0)
	}
}

// The limit is one of bytes, not of code points.
func TestReadBracedOfWideStringsOfManyCodePoints(t *testing.T) {
	wantBraced(t, `"`+strings.Repeat("\xf0\x9f\x98\x80", 100)+`"`, textOf(strings.Repeat("\xf0\x9f\x98\x80", 100)))
	wantNoBraced(t, `"`+strings.Repeat("\xf0\x9f\x98\x80", 101)+`"`, impl.FtWide, 0)
	wantNoBraced(t, `"`+strings.Repeat(`\ud83d\ude00`, 101)+`"`, impl.FtWide, 0)
	wantNoBraced(t, `"`+strings.Repeat(`\u00e9`, 201)+`"`, impl.FtWide, 0)
	wantNoBraced(t, `"`+strings.Repeat("\xe2\x82\xac", 134)+`"`, impl.FtWide, 0)
	wantNoBraced(t, `"`+strings.Repeat("a", impl.MaxText-2)+`"`, impl.FtWide, 0)
	wantBraced(t, `"`+strings.Repeat(`\u0041`, 400)+`"`+strings.Repeat(" ", 17598), textOf(strings.Repeat("A", 400)))
}

func TestReadBracedOfTextsAtTheLimitOfLength(t *testing.T) {
	wantBraced(t, strings.Repeat(" ", 19999)+"1", intOf(1))
	wantBraced(t, "[]"+strings.Repeat("\n", 19998), listOf())
	wantNoBraced(t, strings.Repeat(" ", 20000)+"1", impl.FtLong, 0)
	wantNoBraced(t, "[]"+strings.Repeat("\n", 19999), impl.FtLong, 0)
	wantNoBraced(t, "1"+strings.Repeat(" ", 19998)+"1", impl.FtForm, 19999)
	wantNoBraced(t, "1"+strings.Repeat(" ", 19999)+"1", impl.FtLong, 0)
	text := "[" + strings.Repeat(`"`+strings.Repeat("a", 397)+`",`, 49) + `"` + strings.Repeat("b", 396) + `"]`
	tree := listOf()
	for range 49 {
		tree.Kids = append(tree.Kids, textOf(strings.Repeat("a", 397)))
	}
	tree.Kids = append(tree.Kids, textOf(strings.Repeat("b", 396)))
	if len(text) != 20000 {
		t.Fatalf("the test has a text of %d bytes", len(text))
	}
	wantBraced(t, text, tree)
	wantNoBraced(t, text+" ", impl.FtLong, 0)
	wantNoBraced(t, " "+text, impl.FtLong, 0)
}

// A faultText is the text of a value with one fault, at an offset. As the second element of a list, the value has its fault at another offset if it is then too deep, or has too many values ahead, at an earlier token.
type faultText struct {
	text   string
	code   int
	at     int
	inList int
}

func faultTexts() []faultText {
	wide := `"` + strings.Repeat("a", 401) + `"`
	return []faultText{
		{"[1 2]", 4, 3, 3}, {"[1,]", 4, 3, 3}, {`{"a" 1}`, 4, 5, 5}, {`{"a":}`, 4, 5, 5}, {"{1:2}", 4, 1, 1}, {"[}", 4, 1, 1},
		{bracedInLists(9, "1"), 6, 8, 7}, {bracedInMaps(9, "1"), 6, 8 * 5, 7 * 5}, {bracedInLists(9, "[]"), 6, 8, 7},
		{"[" + numbers(300) + "]", 7, 1 + 299*2, 1 + 297*2}, {"{" + pairs(300) + "}", 7, 8 + 299*9, 8 + 297*9},
		{"[" + wide + "]", 8, 1, 1}, {"{" + wide + ":1}", 8, 1, 1}, {`{"a":` + wide + "}", 8, 5, 5},
		{`{"a":1,"a":2}`, 5, 7, 7}, {`{"b":1,"a":2,"\u0062":3}`, 5, 13, 13},
	}
}

func TestReadBracedOfSingleFaults(t *testing.T) {
	for _, f := range faultTexts() {
		wantNoBraced(t, f.text, f.code, f.at)
		wantNoBraced(t, " \n"+f.text, f.code, f.at+2)
		wantNoBraced(t, "[0,"+f.text+"]", f.code, f.inList+3)
	}
}

// Of two faults the first one counts, whatever their codes are.
func TestReadBracedOfTwoFaultsInEitherOrder(t *testing.T) {
	for _, f := range faultTexts() {
		for _, g := range faultTexts() {
			first := "[0," + f.text
			for _, text := range []string{first + "," + g.text + "]", first + g.text, first + ",[],{" + g.text, first + " " + g.text + "]"} {
				wantNoBraced(t, text, f.code, f.inList+3)
			}
			for _, text := range []string{f.text + g.text, f.text + " " + g.text, f.text + "," + g.text, f.text + "]" + g.text} {
				wantNoBraced(t, text, f.code, f.at)
			}
			for _, text := range []string{`{"f":` + f.text + `,"g":` + g.text + "}", `{"x":{"f":` + f.text + `},"x":` + g.text + "}", f.text[:len(f.text)-1] + "," + g.text} {
				wantBracedAsDocumented(t, text)
			}
		}
	}
}

func TestReadBracedOfKnownPairsOfFaults(t *testing.T) {
	wide := `"` + strings.Repeat("a", 401) + `"`
	deep := bracedInLists(8, "1")
	many := "[" + numbers(300) + "]"
	const twice = `{"a":1,"a":2}`
	wantNoBraced(t, "[1 2,"+deep+"]", impl.FtForm, 3)
	wantNoBraced(t, "["+deep+",1 2]", impl.FtDeep, 8)
	wantNoBraced(t, "[1 2,"+many+"]", impl.FtForm, 3)
	wantNoBraced(t, "["+many+",1 2]", impl.FtMany, 1+597)
	wantNoBraced(t, "[1 2,"+wide+"]", impl.FtForm, 3)
	wantNoBraced(t, "["+wide+",1 2]", impl.FtWide, 1)
	wantNoBraced(t, "[1 2,"+twice+"]", impl.FtForm, 3)
	wantNoBraced(t, "["+twice+",1 2]", impl.FtTwice, 8)
	wantNoBraced(t, "["+deep+","+many+"]", impl.FtDeep, 8)
	wantNoBraced(t, "["+many+","+deep+"]", impl.FtMany, 598)
	wantNoBraced(t, "["+deep+","+wide+"]", impl.FtDeep, 8)
	wantNoBraced(t, "["+wide+","+deep+"]", impl.FtWide, 1)
	wantNoBraced(t, "["+deep+","+twice+"]", impl.FtDeep, 8)
	wantNoBraced(t, "["+twice+","+deep+"]", impl.FtTwice, 8)
	wantNoBraced(t, "["+many+","+wide+"]", impl.FtMany, 598)
	wantNoBraced(t, "["+wide+","+many+"]", impl.FtWide, 1)
	wantNoBraced(t, "["+many+","+twice+"]", impl.FtMany, 598)
	wantNoBraced(t, "["+twice+","+many+"]", impl.FtTwice, 8)
	wantNoBraced(t, "["+wide+","+twice+"]", impl.FtWide, 1)
	wantNoBraced(t, "["+twice+","+wide+"]", impl.FtTwice, 8)
	// A key counts before what follows it, also before a value that is missing, too deep, one too many or too wide.
	wantNoBraced(t, `{"a":1,"a" 2}`, impl.FtTwice, 7)
	wantNoBraced(t, `{"a":1,"a"`, impl.FtTwice, 7)
	wantNoBraced(t, `{"a":1,"a":}`, impl.FtTwice, 7)
	wantNoBraced(t, `{"a":1,"a":`+wide+"}", impl.FtTwice, 7)
	wantNoBraced(t, `{"a":1,"a":`+deep+"}", impl.FtTwice, 7)
	wantNoBraced(t, "{"+pairs(299)+`,"k150":1}`, impl.FtTwice, 1+299*9)
	wantNoBraced(t, "{"+pairs(299)+","+wide+":1}", impl.FtWide, 1+299*9)
	wantNoBraced(t, "{"+pairs(299)+`,"z" 1}`, impl.FtForm, 1+299*9+4)
	wantNoBraced(t, "{"+wide+" 1}", impl.FtWide, 1)
	wantNoBraced(t, "{"+wide, impl.FtWide, 1)
	wantNoBraced(t, "{"+wide+":"+wide+","+wide+":1}", impl.FtWide, 1)
	wantNoBraced(t, strings.Repeat(`{"k":`, 7)+`{"k":1,"k":2}`, impl.FtDeep, 40)
	wantNoBraced(t, strings.Repeat(`{"k":`, 7)+`{`+wide+`:1}`, impl.FtWide, 36)
	wantNoBraced(t, strings.Repeat(`{"k":`, 7)+`{1:1}`, impl.FtForm, 36)
}

// FtTwice meets none of FtDeep, FtMany and FtWide at the same token: a key is no value, and of two equal keys that are too wide the first one is the fault.
func TestReadBracedOfTwoFaultsAtTheSameToken(t *testing.T) {
	wide := `"` + strings.Repeat("a", 401) + `"`
	// FtForm where no value begins, though a value there would be too deep, one too many or both.
	for _, token := range []string{",", ":", "]", "}"} {
		if token != "]" {
			wantNoBraced(t, strings.Repeat("[", 8)+token, impl.FtForm, 8)
		}
		if token != "}" {
			wantNoBraced(t, strings.Repeat(`{"k":`, 7)+"{"+token, impl.FtForm, 36)
		}
		wantNoBraced(t, strings.Repeat(`{"k":`, 8)+token, impl.FtForm, 40)
		wantNoBraced(t, "["+numbers(299)+","+token, impl.FtForm, 599)
		wantNoBraced(t, "{"+pairs(299)+`,"z":`+token, impl.FtForm, 1+299*9+4)
		wantNoBraced(t, bracedInLists(6, "["+numbers(292)+`,{"k":`+token), impl.FtForm, 7+292*2+5)
	}
	wantNoBraced(t, strings.Repeat("[", 8), impl.FtForm, 8)
	wantNoBraced(t, strings.Repeat(`{"k":`, 8), impl.FtForm, 40)
	wantNoBraced(t, "["+numbers(299)+",", impl.FtForm, 599)
	// FtForm of a string in the place of another token, though it is too wide or a key that is twice there.
	wantNoBraced(t, "[1 "+wide+"]", impl.FtForm, 3)
	wantNoBraced(t, "1 "+wide, impl.FtForm, 2)
	wantNoBraced(t, `{"a"`+wide+"}", impl.FtForm, 4)
	wantNoBraced(t, `{"a":1 `+wide+":1}", impl.FtForm, 7)
	wantNoBraced(t, `{"a":1 "a":2}`, impl.FtForm, 7)
	wantNoBraced(t, `{"a" "a":2}`, impl.FtForm, 5)
	wantNoBraced(t, "["+numbers(299)+" "+wide, impl.FtForm, 599)
	wantNoBraced(t, "["+numbers(299)+" 1", impl.FtForm, 599)
	wantNoBraced(t, "["+numbers(299)+"] 1", impl.FtForm, 600)
	// FtDeep ahead of FtMany and FtWide.
	manyDeep := strings.Repeat("[", 7) + numbers(292) + ",["
	wantNoBraced(t, manyDeep+"1", impl.FtDeep, 7+292*2+1)
	wantNoBraced(t, manyDeep+wide, impl.FtDeep, 7+292*2+1)
	wantNoBraced(t, manyDeep+"]", impl.FtForm, 7+292*2+2)
	wantNoBraced(t, manyDeep+"],1", impl.FtMany, 7+292*2+3)
	wantNoBraced(t, manyDeep+"],[1", impl.FtMany, 7+292*2+3)
	wantNoBraced(t, manyDeep+"],"+wide, impl.FtMany, 7+292*2+3)
	wantNoBraced(t, strings.Repeat("[", 8)+wide, impl.FtDeep, 8)
	wantNoBraced(t, strings.Repeat(`{"k":`, 8)+wide, impl.FtDeep, 40)
	// FtMany ahead of FtWide.
	wantNoBraced(t, "["+numbers(299)+","+wide+"]", impl.FtMany, 599)
	wantNoBraced(t, "{"+pairs(299)+`,"z":`+wide+"}", impl.FtMany, 1+299*9+4)
	wantNoBraced(t, "["+numbers(298)+","+wide+"]", impl.FtWide, 597)
}

// A fault of SignsOf comes first wherever it is.
func TestReadBracedOfFaultsOfTokensAheadOfOthers(t *testing.T) {
	for _, f := range faultTexts() {
		for _, token := range []string{"x", "01", "1.5", "-", `"`, `"\x"`, "tru", "\xc3\xa9", "'", "\x00", "9223372036854775808"} {
			wantNoBraced(t, f.text+" "+token, impl.FtSign, len(f.text)+1)
			wantNoBraced(t, token+" "+strings.ReplaceAll(f.text, `"`, "1"), impl.FtSign, 0)
			wantNoBraced(t, "["+f.text+", "+token, impl.FtSign, len(f.text)+3)
			wantNoBraced(t, f.text+" "+token+" \xff", impl.FtUtf8, len(f.text)+len(token)+2)
		}
		wantNoBraced(t, f.text+"\xff", impl.FtUtf8, len(f.text))
		wantNoBraced(t, f.text+"x\xe2\x82", impl.FtUtf8, len(f.text)+1)
		wantNoBraced(t, "\xff"+f.text, impl.FtUtf8, 0)
		wantNoBraced(t, f.text+strings.Repeat(" ", 20001-len(f.text)), impl.FtLong, 0)
		wantNoBraced(t, f.text+strings.Repeat(" ", 20000-len(f.text)), f.code, f.at)
		wantNoBraced(t, f.text+"x\xff"+strings.Repeat(" ", 20000), impl.FtLong, 0)
		wantNoBraced(t, f.text+strings.Repeat(" ", 19999-len(f.text))+"x", impl.FtSign, 19999)
		wantNoBraced(t, f.text+strings.Repeat(" ", 19999-len(f.text))+"\xff", impl.FtUtf8, 19999)
	}
	wantNoBraced(t, "1 2 x", impl.FtSign, 4)
	wantNoBraced(t, "[1,] x", impl.FtSign, 5)
	wantNoBraced(t, "[1,] 'a' \x80", impl.FtUtf8, 9)
	wantNoBraced(t, "]\"a\nb\"", impl.FtSign, 1)
}

func TestBracedTextOfKnownTrees(t *testing.T) {
	wantBracedText(t, nullOf(), "null")
	wantBracedText(t, flagOf(true), "true")
	wantBracedText(t, flagOf(false), "false")
	wantBracedText(t, intOf(0), "0")
	wantBracedText(t, intOf(-12), "-12")
	wantBracedText(t, intOf(math.MaxInt), "9223372036854775807")
	wantBracedText(t, intOf(math.MinInt), "-9223372036854775808")
	wantBracedText(t, textOf(""), `""`)
	wantBracedText(t, textOf("a \"b\"\\\n\x01/\x7f\xc3\xa9"), "\"a \\\"b\\\"\\\\\\n\\u0001/\x7f\xc3\xa9\"")
	wantBracedText(t, textOf("null"), `"null"`)
	wantBracedText(t, listOf(), "[]")
	wantBracedText(t, mapOf(""), "{}")
	wantBracedText(t, listOf(intOf(1)), "[1]")
	wantBracedText(t, listOf(intOf(1), textOf("a"), nullOf()), `[1,"a",null]`)
	wantBracedText(t, listOf(listOf(), mapOf(""), listOf(listOf())), "[[],{},[[]]]")
	wantBracedText(t, mapOf("a", intOf(1)), `{"a":1}`)
	wantBracedText(t, mapOf("a b", listOf(nullOf()), mapOf("c", flagOf(true))), `{"a":[null],"b":{"c":true}}`)
	wantBracedText(t, impl.Tree{Kind: 6, Keys: []string{"", "\n", "\"", "a b", "\xc3\xa9"}, Kids: wideList(5).Kids}, "{\"\":0,\"\\n\":1,\"\\\"\":2,\"a b\":3,\"\xc3\xa9\":4}")
	wantBracedText(t, inLists(7, nullOf()), "[[[[[[[null]]]]]]]")
	wantBracedText(t, inMaps(7, mapOf("")), bracedInMaps(7, "{}"))
	wantBracedText(t, impl.Tree{Kind: 5, Keys: []string{}, Kids: []impl.Tree{}}, "[]")
	wantBracedText(t, impl.Tree{Kind: 6, Keys: []string{}, Kids: []impl.Tree{}}, "{}")
}

func TestBracedTextOfTreesThatAreNotValid(t *testing.T) {
	wantBracedText(t, impl.Tree{}, "")
	for _, tree := range badTrees() {
		wantBracedText(t, tree, "")
		wantBracedText(t, listOf(nullOf(), tree), "")
		wantBracedText(t, mapOf("a b", nullOf(), tree), "")
	}
	loop := listOf(nullOf())
	loop.Kids[0] = loop
	wantBracedText(t, loop, "")
}

func TestBracedTextOfValidTrees(t *testing.T) {
	for _, tree := range goodTrees() {
		want := bracedTextByWords(tree)
		if len(want) > 20000 {
			want = ""
		}
		wantBracedText(t, tree, want)
		wantBracedText(t, roomy(tree), want)
	}
}

// filled is a list of strings of this piece, and of letters where no more of them fit, whose text has this many bytes.
func filled(t *testing.T, size int, piece string) impl.Tree {
	t.Helper()
	tree := listOf(textOf(""))
	long := textOf(strings.Repeat(piece, 400/len(piece)))
	for {
		rest := size - len(bracedTextByWords(tree))
		if rest == 0 {
			break
		}
		next := long
		if added := len(bracedTextByWords(long)) + 1; added != rest && added+3 > rest {
			// A string has at least three bytes, with its quotes and the comma ahead of it.
			next = textOf(strings.Repeat("a", min(rest-3, 390)))
		}
		tree.Kids = append(tree.Kids, next)
	}
	if !validTree(tree) {
		t.Fatalf("the test has a tree of %d bytes that is not valid", size)
	}
	return tree
}

func TestBracedTextAtTheLimitOfLength(t *testing.T) {
	for _, piece := range []string{"a", "\n", "\x01", `"`, "\xc3\xa9", "\xf0\x9f\x98\x80"} {
		for size := 19997; size <= 20003; size++ {
			tree := filled(t, size, piece)
			want := bracedTextByWords(tree)
			if size > 20000 {
				wantBracedText(t, tree, "")
				wantNoBraced(t, want, impl.FtLong, 0)
				continue
			}
			wantBracedText(t, tree, want)
			wantBraced(t, want, tree)
		}
	}
	// The limit is one of the whole text, with its keys, marks and escape sequences.
	keys := impl.Tree{Kind: 6}
	for i := range 40 {
		keys.Keys = append(keys.Keys, fmt.Sprintf("%02d", i)+strings.Repeat("k", 398))
		keys.Kids = append(keys.Kids, textOf(strings.Repeat("v", 93)))
	}
	keys.Kids[0].Text += strings.Repeat("v", 39)
	wantBracedText(t, keys, bracedTextByWords(keys))
	if len(bracedTextByWords(keys)) != 20000 {
		t.Fatalf("the test has a map with %d bytes of text", len(bracedTextByWords(keys)))
	}
	keys.Kids[39].Text += "v"
	wantBracedText(t, keys, "")
	controls := listOf()
	for range 299 {
		controls.Kids = append(controls.Kids, textOf(strings.Repeat("\x01", 400)))
	}
	wantBracedText(t, controls, "")
}

func TestTreesAreParsedFromTheirCanonicalText(t *testing.T) {
	for _, tree := range goodTrees() {
		if text := bracedTextByWords(tree); len(text) <= 20000 {
			wantBracedText(t, tree, text)
			wantBraced(t, text, tree)
		}
	}
	for _, s := range append(quotableStrings(), runeTexts()...) {
		if len(s) <= 400 {
			tree := impl.Tree{Kind: 6, Keys: []string{s}, Kids: []impl.Tree{listOf(textOf(s))}}
			wantBraced(t, impl.BracedText(tree), tree)
		}
	}
	for _, n := range append(edgeInts(), math.MinInt, math.MaxInt) {
		wantBraced(t, impl.BracedText(intOf(n)), intOf(n))
	}
}

func TestRandomTreesAreParsedFromTheirCanonicalText(t *testing.T) {
	r := rand.New(rand.NewSource(10))
	count, bad := 0, badStrings()
	for range 5000 {
		tree := randomTree(r, r.Intn(8))
		text := bracedTextByWords(tree)
		if !validTree(tree) || len(text) > 20000 {
			wantBracedText(t, tree, "")
			continue
		}
		count++
		wantBracedText(t, tree, text)
		wantBraced(t, text, tree)
		loose := loosened(r, tree)
		if len(loose) <= 20000 {
			wantBraced(t, loose, tree)
			wantBracedSame(t, text, loose, true)
		}
		other := roomy(tree)
		spoil(r, &other, bad)
		if otherText := impl.BracedText(other); otherText != "" {
			wantBracedSame(t, otherText, text, equalTrees(other, tree))
		}
	}
	if count < 2000 {
		t.Errorf("only %d of 5000 random trees have a text", count)
	}
}

// loosened is a text of t with white space, other orders of keys and other escape sequences.
func loosened(r *rand.Rand, t impl.Tree) string {
	blank := func() string {
		return strings.Repeat([]string{" ", "\t", "\n", "\r"}[r.Intn(4)], r.Intn(3)/2)
	}
	text := ""
	switch t.Kind {
	case 4:
		text = loosenedString(r, t.Text)
	case 5, 6:
		parts := []string{}
		for i, kid := range t.Kids {
			part := blank() + loosened(r, kid) + blank()
			if t.Kind == 6 {
				part = blank() + loosenedString(r, t.Keys[i]) + blank() + ":" + part
			}
			parts = append(parts, part)
		}
		if t.Kind == 6 {
			r.Shuffle(len(parts), func(i, j int) { parts[i], parts[j] = parts[j], parts[i] })
		}
		inside := strings.Join(parts, ",")
		if inside == "" {
			inside = blank()
		}
		text = map[int]string{5: "[", 6: "{"}[t.Kind] + inside + map[int]string{5: "]", 6: "}"}[t.Kind]
	default:
		text = bracedTextByWords(t)
	}
	return blank() + text + blank()
}

func loosenedString(r *rand.Rand, s string) string {
	text := ""
	for _, n := range s {
		switch {
		case n == '/' && r.Intn(2) == 0:
			text += `\/`
		case n > 65535 && r.Intn(4) == 0:
			text += fmt.Sprintf(`\u%04x\u%04X`, 55296+(n-65536)>>10, 56320+(n-65536)&1023)
		case n <= 65535 && r.Intn(4) == 0:
			text += fmt.Sprintf([]string{`\u%04x`, `\u%04X`}[r.Intn(2)], n)
		default:
			quoted := quotedByWords(string(n))
			text += quoted[1 : len(quoted)-1]
		}
	}
	return `"` + text + `"`
}

// textFromPieces has the form of a value, but perhaps too deep and with equal keys.
func textFromPieces(r *rand.Rand, depth int) string {
	leaves := []string{"1", "-5", "true", "false", "null", `""`, `"a"`, `"b"`, `"\u0061"`, "[]", "{}"}
	if depth == 0 || r.Intn(3) == 0 {
		return leaves[r.Intn(len(leaves))]
	}
	parts := []string{}
	isMap := r.Intn(2) == 0
	for range r.Intn(4) {
		part := textFromPieces(r, depth-1)
		if isMap {
			part = []string{`"a"`, `"b"`, `"c"`, `"\u0061"`, `"d"`, `""`}[r.Intn(6)] + ":" + part
		}
		parts = append(parts, part)
	}
	if isMap {
		return "{" + strings.Join(parts, ",") + "}"
	}
	return "[" + strings.Join(parts, ",") + "]"
}

func TestRandomTextsAsDocumented(t *testing.T) {
	r := rand.New(rand.NewSource(1010))
	faults := map[int]int{}
	tokens := []string{"{", "}", "[", "]", ":", ",", `"a"`, "1", "null", " ", "x", "\xff"}
	for range 20000 {
		text := textFromPieces(r, 1+r.Intn(10))
		for range r.Intn(3) {
			from := r.Intn(len(text) + 1)
			to := min(len(text), from+r.Intn(3))
			text = text[:from] + tokens[r.Intn(len(tokens))] + text[to:]
		}
		wantBracedAsDocumented(t, text)
		_, fault := bracedByWords(text)
		faults[fault.Code]++
	}
	for _, code := range []int{0, impl.FtUtf8, impl.FtSign, impl.FtForm, impl.FtTwice, impl.FtDeep} {
		if faults[code] < 20 {
			t.Errorf("only %d of 20000 random texts have the code %d", faults[code], code)
		}
	}
}

// plainOf is a tree as encoding/json reads it.
func plainOf(t impl.Tree) any {
	switch t.Kind {
	case 2:
		return t.Flag
	case 3:
		return json.Number(strconv.Itoa(t.Num))
	case 4:
		return t.Text
	case 5:
		list := []any{}
		for _, kid := range t.Kids {
			list = append(list, plainOf(kid))
		}
		return list
	case 6:
		values := map[string]any{}
		for i, kid := range t.Kids {
			values[t.Keys[i]] = plainOf(kid)
		}
		return values
	}
	return nil
}

// A text has the form of a value if it is JSON for encoding/json, and means the same there.
func TestReadBracedAgreesWithEncodingJson(t *testing.T) {
	r := rand.New(rand.NewSource(8259))
	texts := bracedTexts()
	for range 3000 {
		text := textFromPieces(r, 9)
		at := r.Intn(len(text) + 1)
		texts = append(texts, text, loosened(r, randomTree(r, 4)), text[:at]+[]string{"{", "}", "[", "]", ":", ",", `"a"`, " null "}[r.Intn(8)]+text[at:])
	}
	accepted, refused := 0, 0
	for _, text := range texts {
		tree, fault := impl.ReadBraced(text)
		formed := fault.Code != impl.FtForm && fault.Code != impl.FtSign && fault.Code != impl.FtUtf8
		if valid := json.Valid([]byte(text)); valid && !formed || !valid && fault.Code == 0 {
			t.Errorf("ReadBraced(%.80q) has the fault %v; encoding/json says %v", text, fault, valid)
		}
		if !formed {
			refused++
		}
		if fault.Code != 0 {
			continue
		}
		accepted++
		var other any
		decoder := json.NewDecoder(strings.NewReader(text))
		decoder.UseNumber()
		err := decoder.Decode(&other)
		if got, want := fmt.Sprintf("%#v", plainOf(tree)), fmt.Sprintf("%#v", other); err != nil || got != want {
			t.Errorf("ReadBraced(%.80q) = %.80s; encoding/json has %.80s, %v", text, got, want, err)
		}
	}
	if accepted < 3000 || refused < 1000 {
		t.Errorf("of %d texts %d are accepted and %d have no form", len(texts), accepted, refused)
	}
}

func TestBracedNormal(t *testing.T) {
	for text, want := range map[string]string{
		"null": "null", " true ": "true", "\nfalse": "false", "-0": "0", " -12": "-12", `"\u0041\/\u000a\u001F"`: `"A/\n\u001f"`, `"\ud83d\ude00"`: "\"\xf0\x9f\x98\x80\"", "[ ]": "[]", "{\n}": "{}", "[ 1 , 2 ]": "[1,2]",
		`{"b":1, "a":[null]}`: `{"a":[null],"b":1}`, `{ "b" : {"d":1,"c":2} , "\u0061" : [ ] }`: `{"a":[],"b":{"c":2,"d":1}}`, `{"a":1,"B":2}`: `{"B":2,"a":1}`, `"\b\f\n\r\t\"\\"`: `"\b\f\n\r\t\"\\"`, `"\u0008\u000c"`: `"\b\f"`,
	} {
		for _, input := range []string{text, want} {
			if got, fault := impl.BracedNormal(input); got != want || fault != (impl.Fault{}) {
				t.Errorf("BracedNormal(%q) = %q, %v; want %q, no fault", input, got, fault, want)
			}
		}
		wantBracedSame(t, text, want, true)
	}
	for text, want := range map[string]impl.Fault{"": {Code: 4}, "[1": {Code: 4, At: 2}, "x": {Code: 3}, "[\xff": {Code: 2, At: 1}, `{"a":1,"a":1}`: {Code: 5, At: 7}, strings.Repeat(" ", 20001): {Code: 1}} {
		if got, fault := impl.BracedNormal(text); got != "" || fault != want {
			t.Errorf("BracedNormal(%.40q) = %q, %v; want nothing, %v", text, got, fault, want)
		}
	}
}

func TestBracedOk(t *testing.T) {
	for text, want := range map[string]bool{"": false, " ": false, "1": true, "null": true, "[]": true, "{}": true, "[1,]": false, "[1 2]": false, `{"a":1}`: true, `{"a":1,"a":1}`: false, "1 2": false, "x": false, "\xff": false, "01": false, `"\ud800"`: false, bracedInLists(7, "1"): true, bracedInLists(8, "1"): false,
		bracedInLists(8, ""): true, bracedInLists(9, ""): false, "[" + numbers(299) + "]": true, "[" + numbers(300) + "]": false, `"` + strings.Repeat("a", 400) + `"`: true, `"` + strings.Repeat("a", 401) + `"`: false, "1" + strings.Repeat(" ", 19999): true, "1" + strings.Repeat(" ", 20000): false} {
		if got := impl.BracedOk(text); got != want {
			t.Errorf("BracedOk(%.40q of %d bytes) = %v; want %v", text, len(text), got, want)
		}
	}
}

func TestBracedSameOfTextsThatMeanTheSame(t *testing.T) {
	for _, group := range [][]string{
		{"null", " null", "null\n", "\t\r\nnull "}, {"0", "-0", " 0"}, {"[]", "[ ]", " [\n] "}, {"{}", "{ }", "{\t}"}, {`"a"`, `"\u0061"`, ` "a" `}, {`"/"`, `"\/"`, `"\u002f"`, `"\u002F"`}, {`"\n"`, `"\u000a"`, `"\u000A"`}, {"\"\xf0\x9f\x98\x80\"", `"\ud83d\ude00"`, `"\uD83D\uDE00"`},
		{`{"a":1,"b":2}`, `{"b":2,"a":1}`, `{ "b" : 2 , "a" : 1 }`, `{"\u0062":2,"a":1}`}, {`[{"a":1,"b":{"c":1,"d":"x"}}]`, `[{"b":{"d":"x","c":1},"a":1}]`, `[ {"b":{"d":"\u0078","c":1},"\u0061":1} ]`}, {"[1,2]", "[1, 2]", "[1\n,2]", " [ 1 , 2 ] "},
	} {
		for _, a := range group {
			for _, b := range group {
				wantBracedSame(t, a, b, true)
			}
		}
	}
}

func TestBracedSameOfTextsThatDiffer(t *testing.T) {
	texts := []string{"null", "true", "false", "0", "1", "-1", `"0"`, `"null"`, `""`, `"a"`, `"A"`, `" a"`, `"a "`, "[]", "{}", "[[]]", "[{}]", "[null]", "[1]", "[1,2]", "[2,1]", "[1,2,3]", "[[1],2]", "[[1,2]]", "[1,[2]]", `{"a":1}`, `{"a":2}`, `{"a":"1"}`, `{"b":1}`, `{"A":1}`, `{"":1}`, `{"a":null}`, `{"a":{}}`, `{"a":[]}`, `{"a":[1]}`,
		`{"a":1,"b":2}`, `{"a":2,"b":1}`, `{"a":1,"b":3}`, `{"a":1,"c":2}`, `{"a":{"b":2}}`, `["a",1]`, "\"e\xcc\x81\"", "\"\xc3\xa9\"", `"\\u0061"`, bracedInLists(7, "1"), bracedInLists(7, "2"), bracedInMaps(7, "1"), bracedInMaps(7, "2"), "[" + numbers(299) + "]", "[" + numbers(298) + ",1]", "[" + numbers(298) + "]"}
	for i, a := range texts {
		for j, b := range texts {
			wantBracedSame(t, a, b, i == j)
		}
	}
}

func TestBracedSameOfTextsWithFaults(t *testing.T) {
	faulty := []string{"", " ", "x", "\xff", "[1,]", "[1", "1 2", `{"a":1,"a":1}`, bracedInLists(8, "1"), "[" + numbers(300) + "]", `"` + strings.Repeat("a", 401) + `"`, strings.Repeat(" ", 20001), "01"}
	for _, a := range faulty {
		for _, b := range faulty {
			wantBracedSame(t, a, b, false)
		}
		for _, b := range append(bracedTexts(), `""`) {
			wantBracedSame(t, a, b, false)
		}
	}
}

func TestBracedSharesNoMemory(t *testing.T) {
	texts := append(bracedTexts(), "{"+pairs(299)+"}", "["+numbers(299)+"]", bracedInLists(7, "[]"), bracedInMaps(7, "{}"), "["+pairs(0)+"{"+pairs(100)+"},{"+pairs(100)+"}]")
	for _, tree := range goodTrees() {
		if text := bracedTextByWords(tree); len(text) <= 20000 {
			texts = append(texts, text)
		}
	}
	for _, text := range texts {
		first, _ := impl.ReadBraced(text)
		second, _ := impl.ReadBraced(text)
		want, _ := bracedByWords(text)
		if shareMemory([]impl.Tree{first, second}, nil) {
			t.Errorf("two results of ReadBraced(%.80q) share memory", text)
		}
		overwrite(&first)
		if !equalTrees(second, want) {
			t.Errorf("a change of one result of ReadBraced(%.80q) changed the other one to %s", text, brief(second))
		}
		wantBraced(t, text, want)
	}
}

// overwrite changes all that a tree has, with the capacity behind its slices.
func overwrite(t *impl.Tree) {
	t.Keys, t.Kids = t.Keys[:cap(t.Keys)], t.Kids[:cap(t.Kids)]
	for i := range t.Keys {
		t.Keys[i] = "changed"
	}
	for i := range t.Kids {
		overwrite(&t.Kids[i])
	}
	t.Kind, t.Num, t.Text = 9, 9, "changed"
}

func TestBracedTextKeepsItsArgument(t *testing.T) {
	for _, tree := range allTrees() {
		wantNewMemory(t, "BracedText", func(args []impl.Tree) []impl.Tree {
			impl.BracedText(args[0])
			return nil
		}, roomy(tree))
	}
}

// The bytes of the arguments lie in a slice here, so that a change would be seen.
func TestBracedFunctionsKeepTheirArguments(t *testing.T) {
	for _, text := range append(bracedTexts(), "", "[1,]", "x", "\xff", `{"a":1,"\u0061":2}`, bracedInLists(9, "1")) {
		kept := append([]byte(text), "spare"...)
		arg := unsafe.String(unsafe.SliceData(kept), len(text))
		impl.ReadBraced(arg)
		impl.BracedNormal(arg)
		impl.BracedOk(arg)
		impl.BracedSame(arg, "[1]")
		impl.BracedSame("[1]", arg)
		impl.BracedSame(arg, arg)
		if string(kept) != text+"spare" {
			t.Errorf("the argument %q was changed to %q", text+"spare", kept)
		}
	}
}
