package tests

import (
	"fmt"
	"maps"
	"math"
	"math/rand"
	"runtime/debug"
	"slices"
	"strings"
	"sync"
	"testing"
	"testing/synctest"
	"unsafe"

	"loop.example/g00968/impl"
)

// An indentedNode is a value that may not be complete; its tree has neither Keys nor Kids.
type indentedNode struct {
	indent int
	tree   impl.Tree
	keys   []string
	kids   []*indentedNode
}

// done returns the tree with its Keys sorted and its Kids.
func (n *indentedNode) done() impl.Tree {
	t := n.tree
	kids := map[string]*indentedNode{}
	for i, key := range n.keys {
		kids[key] = n.kids[i]
	}
	for _, key := range slices.Sorted(maps.Keys(kids)) {
		t.Keys = append(t.Keys, key)
		t.Kids = append(t.Kids, kids[key].done())
	}
	if t.Kind == 5 {
		for _, kid := range n.kids {
			t.Kids = append(t.Kids, kid.done())
		}
	}
	return t
}

// indentedReader says what the document says about lines, with a stack of the lists and maps that are open in place of calls within calls.
type indentedReader struct {
	root   *indentedNode
	open   []*indentedNode
	alone  int // the line of a hyphen or key whose value may stand below, or 0
	values int
}

func (r *indentedReader) top() *indentedNode { return r.open[len(r.open)-1] }

// put returns a code for the place of a value.
func (r *indentedReader) put(tree impl.Tree, indent int) (*indentedNode, int) {
	if len(r.open) >= 8 {
		return nil, 6
	}
	if r.values == 300 {
		return nil, 7
	}
	r.values++
	n := &indentedNode{indent: indent, tree: tree}
	if r.root == nil {
		r.root = n
	} else {
		r.top().kids = append(r.top().kids, n)
	}
	return n, 0
}

func (r *indentedReader) scalar(text string) int {
	tree, ok := scalarByWords(text)
	if _, code := r.put(tree, 0); code != 0 {
		return code
	}
	if !ok {
		return 4
	}
	return 0
}

func (r *indentedReader) begin(line impl.Line) int {
	_, _, isItem := itemByWords(line.Text)
	_, _, isKey := keyByWords(line.Text)
	if !isItem && !isKey {
		return r.scalar(line.Text)
	}
	tree, more := mapOf(""), r.pair
	if isItem {
		tree, more = listOf(), r.element
	}
	n, code := r.put(tree, line.Indent)
	if code != 0 {
		return code
	}
	r.open = append(r.open, n)
	return more(line)
}

func (r *indentedReader) element(line impl.Line) int {
	text, size, _ := itemByWords(line.Text)
	if line.Text == "-" {
		r.alone = line.At
		return 0
	}
	return r.begin(impl.Line{Indent: line.Indent + size, Text: text, At: line.At})
}

func (r *indentedReader) pair(line impl.Line) int {
	key, rest, _ := keyByWords(line.Text)
	if len(key) > 400 {
		return 8
	}
	if slices.Contains(r.top().keys, key) {
		return 5
	}
	r.top().keys = append(r.top().keys, key)
	if rest == "" {
		r.alone = line.At
		return 0
	}
	return r.scalar(rest)
}

// absent puts the value of a hyphen or key that stands alone, and returns the line to which its code applies.
func (r *indentedReader) absent() (int, int) {
	at, code := r.alone, 0
	if r.alone = 0; at > 0 {
		_, code = r.put(nullOf(), 0)
	}
	return code, at
}

// follow returns a code and its line, for a line that is not the first one.
func (r *indentedReader) follow(line impl.Line) (int, int) {
	if r.alone > 0 && line.Indent > r.top().indent {
		r.alone = 0
		return r.begin(line), line.At
	}
	if code, at := r.absent(); code != 0 {
		return code, at
	}
	for len(r.open) > 0 && r.top().indent > line.Indent {
		r.open = r.open[:len(r.open)-1]
	}
	if len(r.open) == 0 || r.top().indent != line.Indent {
		return 4, line.At
	}
	_, _, isItem := itemByWords(line.Text)
	_, _, isKey := keyByWords(line.Text)
	switch {
	case r.top().tree.Kind == 5 && isItem:
		return r.element(line), line.At
	case r.top().tree.Kind == 6 && isKey && !isItem:
		return r.pair(line), line.At
	}
	return 4, line.At
}

func indentedByWords(text string) (impl.Tree, impl.Fault) {
	lines, fault := linesByWords(text)
	if fault.Code != 0 {
		return impl.Tree{}, fault
	}
	if len(lines) == 0 {
		return impl.Tree{}, impl.Fault{Code: 4, At: len(strings.Split(text, "\n"))}
	}
	if lines[0].Indent != 0 {
		return impl.Tree{}, impl.Fault{Code: 4, At: lines[0].At}
	}
	r := &indentedReader{}
	code, at := r.begin(lines[0]), lines[0].At
	for _, line := range lines[1:] {
		if code == 0 {
			code, at = r.follow(line)
		}
	}
	if code == 0 {
		code, at = r.absent()
	}
	if code != 0 {
		return impl.Tree{}, impl.Fault{Code: code, At: at}
	}
	return r.root.done(), impl.Fault{}
}

// linesOf formats a valid tree; ahead and below are what stands before its first line and before the others.
func linesOf(t impl.Tree, ahead string, below string) []string {
	if len(t.Kids) == 0 {
		text, _ := scalarTextByWords(t)
		return []string{ahead + text}
	}
	list := []string{}
	for i, kid := range t.Kids {
		switch {
		case t.Kind == 5:
			list = append(list, linesOf(kid, ahead+"- ", below+"  ")...)
		case len(kid.Kids) == 0:
			list = append(list, linesOf(kid, ahead+keyTextByWords(t.Keys[i])+": ", "")...)
		default:
			list = append(list, ahead+keyTextByWords(t.Keys[i])+":")
			list = append(list, linesOf(kid, below+"  ", below+"  ")...)
		}
		ahead = below
	}
	return list
}

// textByWords formats a valid tree however long its text is.
func textByWords(t impl.Tree) string { return strings.Join(linesOf(t, "", ""), "\n") + "\n" }

// limited is what becomes of a text in a function that returns no longer one than MaxText bytes.
func limited(text string) string {
	if len(text) > 20000 {
		return ""
	}
	return text
}

// wantIndented checks all functions that read text, which has no fault.
func wantIndented(t *testing.T, text string, want impl.Tree) {
	t.Helper()
	got, fault := impl.ReadIndented(text)
	if !equalTrees(got, want) || fault != (impl.Fault{}) || !impl.TreeOk(got) {
		t.Errorf("ReadIndented(%.120q of %d bytes) = %s, %v; want %s, no fault", text, len(text), brief(got), fault, brief(want))
	}
	normal, fault := impl.IndentedNormal(text)
	if wantNormal := limited(textByWords(want)); normal != wantNormal || fault != (impl.Fault{}) {
		t.Errorf("IndentedNormal(%.120q of %d bytes) = %.120q of %d bytes, %v; want %.120q of %d bytes, no fault", text, len(text), normal, len(normal), fault, wantNormal, len(wantNormal))
	}
	crossed, fault := impl.Crossed(text)
	if wantCrossed := limited(bracedTextByWords(want)); crossed != wantCrossed || fault != (impl.Fault{}) {
		t.Errorf("Crossed(%.120q of %d bytes) = %.120q of %d bytes, %v; want %.120q of %d bytes, no fault", text, len(text), crossed, len(crossed), fault, wantCrossed, len(wantCrossed))
	}
	if !impl.IndentedOk(text) {
		t.Errorf("IndentedOk(%.120q of %d bytes) = false; want true", text, len(text))
	}
}

// wantNoIndented checks all functions that read text, which has this fault.
func wantNoIndented(t *testing.T, text string, code int, at int) {
	t.Helper()
	want := impl.Fault{Code: code, At: at}
	if got, fault := impl.ReadIndented(text); !equalTrees(got, impl.Tree{}) || fault != want {
		t.Errorf("ReadIndented(%.120q of %d bytes) = %s, %v; want the zero Tree, %v", text, len(text), brief(got), fault, want)
	}
	if normal, fault := impl.IndentedNormal(text); normal != "" || fault != want {
		t.Errorf("IndentedNormal(%.120q of %d bytes) = %.120q, %v; want nothing, %v", text, len(text), normal, fault, want)
	}
	if crossed, fault := impl.Crossed(text); crossed != "" || fault != want {
		t.Errorf("Crossed(%.120q of %d bytes) = %.120q, %v; want nothing, %v", text, len(text), crossed, fault, want)
	}
	if impl.IndentedOk(text) {
		t.Errorf("IndentedOk(%.120q of %d bytes) = true; want false", text, len(text))
	}
}

// wantIndentedAsDocumented returns the code of text.
func wantIndentedAsDocumented(t *testing.T, text string) int {
	t.Helper()
	tree, fault := indentedByWords(text)
	if fault.Code == 0 {
		wantIndented(t, text, tree)
	} else {
		wantNoIndented(t, text, fault.Code, fault.At)
	}
	return fault.Code
}

// wantIndentedLines checks both functions that format a tree, which is valid.
func wantIndentedLines(t *testing.T, tree impl.Tree, want ...string) {
	t.Helper()
	if got := impl.IndentedLines(tree); !slices.Equal(got, want) {
		t.Errorf("IndentedLines(%s) = %.200q; want %.200q", brief(tree), got, want)
	}
	wantText := limited(strings.Join(want, "\n") + "\n")
	if got := impl.IndentedText(tree); got != wantText {
		t.Errorf("IndentedText(%s) = %.120q of %d bytes; want %.120q of %d bytes", brief(tree), got, len(got), wantText, len(wantText))
	}
}

func wantNoIndentedLines(t *testing.T, trees ...impl.Tree) {
	t.Helper()
	for _, tree := range trees {
		if lines, text := impl.IndentedLines(tree), impl.IndentedText(tree); len(lines) != 0 || text != "" {
			t.Errorf("IndentedLines(%s) = %.200q, IndentedText %.120q; want nothing", brief(tree), lines, text)
		}
	}
}

func wantIndentedLinesAsDocumented(t *testing.T, tree impl.Tree) {
	t.Helper()
	if validTree(tree) {
		wantIndentedLines(t, tree, linesOf(tree, "", "")...)
	} else {
		wantNoIndentedLines(t, tree)
	}
}

func spaces(count int) string { return strings.Repeat(" ", count) }

// inMarks puts a text below so many hyphens, or keys, each of which stands alone on its line.
func inMarks(count int, mark string, text string) string {
	lines := ""
	for i := range count {
		lines += spaces(2*i) + mark + "\n"
	}
	return lines + spaces(2*count) + text
}

// zeroElements and zeroPairs are so many lines of a list, or map.
func zeroElements(count int) string { return strings.Repeat("- 0\n", count) }

func zeroPairs(count int) string {
	lines := ""
	for i := range count {
		lines += fmt.Sprintf("k%03d: 0\n", i)
	}
	return lines
}

// zeroMap is the map of so many zeroPairs, and of one more pair.
func zeroMap(count int, key string, kid impl.Tree) impl.Tree {
	t := wideMap(count)
	for i := range t.Kids {
		t.Kids[i] = intOf(0)
	}
	t.Keys, t.Kids = append(t.Keys, key), append(t.Kids, kid)
	return t
}

// zeroList is the list of so many zeroElements, and of more.
func zeroList(count int, more ...impl.Tree) impl.Tree {
	return listOf(append(slices.Repeat([]impl.Tree{intOf(0)}, count), more...)...)
}

// lineScalars are values that stand on one line.
func lineScalars() map[string]impl.Tree {
	return map[string]impl.Tree{"null": nullOf(), "~": nullOf(), "true": flagOf(true), "false": flagOf(false), "0": intOf(0), "-0": intOf(0), "7": intOf(7), "-12": intOf(-12), "9223372036854775807": intOf(math.MaxInt), "-9223372036854775808": intOf(math.MinInt), "[]": listOf(), "{}": mapOf(""),
		"a": textOf("a"), "a b": textOf("a b"), "500m": textOf("500m"), "1.5": textOf("1.5"), "a:b": textOf("a:b"), "it's": textOf("it's"), "a-": textOf("a-"), "a - b": textOf("a - b"), "caf\xc3\xa9": textOf("caf\xc3\xa9"), "\xf0\x9f\x98\x80": textOf("\xf0\x9f\x98\x80"),
		`""`: textOf(""), `" "`: textOf(" "), `"a"`: textOf("a"), `"12"`: textOf("12"), `"null"`: textOf("null"), `"a: b"`: textOf("a: b"), `"a:"`: textOf("a:"), `"- a"`: textOf("- a"), `"-"`: textOf("-"), `"a # b"`: textOf("a # b"), `"a\"b\n\u0041"`: textOf("a\"b\nA"), `"[]"`: textOf("[]"), `"\ud83d\ude00"`: textOf("\xf0\x9f\x98\x80"),
		strings.Repeat("a", 400): textOf(strings.Repeat("a", 400)), `"` + strings.Repeat(`\u0041`, 400) + `"`: textOf(strings.Repeat("A", 400))}
}

// noScalars are texts for which ReadScalar returns false, and that are neither an element of a list nor a pair.
func noScalars() []string {
	return []string{"[", "]", "[1]", "[1, 2]", "[a", "{", "}", "{a}", "[}", `"`, `"a`, `"a" b`, `"a"b`, `"\x"`, `"a\`, `"\ud800"`, "'a'", "'", "01", "00", "9223372036854775808", "-9223372036854775809", "-a", "-1.5", "--", "-01", "&a", "*a", "!a", "|", ">", "%a", "@a", "`a", "?", "? a", ",", ":a", `a"b`, `a\b`, "a#b", `"a" : 1`, `"a":1`,
		strings.Repeat("a", 401), strings.Repeat("1", 401), `"` + strings.Repeat("a", 401) + `"`, `"` + strings.Repeat(`\u00e9`, 201) + `"`, strings.Repeat("\xc3\xa9", 201)}
}

// noPairs are neither a scalar nor an element of a list nor a pair, though they have a colon that could end a key.
func noPairs() []string {
	return []string{": a", ":", "a : b", "12: a", "null: a", "~: a", "true:", "false: a", "-a: b", "'a': b", "[a]: b", "[]: a", "{}: a", "{a: b}", "[a: b]", `a"b: c`, "a#b: c", `a\b: c`, "?a: b", `"a" : b`, `"a: b`, `"a"b: c`, `"a" b: c`, `"\x": a`, "&a: b", strings.Repeat("a", 401) + ": b", strings.Repeat("a", 401) + ":"}
}

// indentedTexts are texts of every kind of value at every kind of place, without empty lines and comments.
func indentedTexts() []string {
	return []string{"null", "-5", "a b", `"a: b"`, "[]", "{}", "- 1", "- 1\n- 2", "-", "-\n-", "- 1\n-", "- []\n- {}", "- - 1", "- - 1\n  - 2\n- 3", "-\n  - 1\n  - 2\n- 3", "- - - 1\n    - 2\n  - 3\n- 4", "- a: 1", "- a: 1\n  b: 2\n- c: 3", "-\n a: 1\n b: 2", "-   a:\n      - 1\n    b: 2\n- 3", "- -\n  - 1", "- a:\n  b: 1",
		"a: 1", "a:", "a:\nb:", "a: 1\nb: 2", "b: 2\na: 1", `"a b": 1`, "a:\n  b:\n    c: 1\n  d: 2\ne: 3", "a:\n  - 1\n  - b: x\n    c: []", "a:\n - 1\nb:\n    - - 2\n", "- a:\n    - b:\n        - 1\n    - 2\n  c: 3\n- 4\n", "kind: pod\nname: p1\nlabels:\n  zone: a\n  app: web\nneeds:\n  - key: app\n    op: in\n    values:\n      - web\n  - key: zone\n    op: has\ncpu: 500m\nrank: 3\n"}
}

func TestReadIndentedOfSingleValues(t *testing.T) {
	for text, want := range lineScalars() {
		for _, more := range []string{"", "\n", " ", "   \n", "  # a\n", " #", "\n\n# a\n   \n", "\n  # a"} {
			wantIndented(t, text+more, want)
			wantIndented(t, "\n"+text+more, want)
			wantIndented(t, "# a\n\n  # b\n"+text+more, want)
			wantIndented(t, "- "+text+more, listOf(want))
			wantIndented(t, "k: "+text+more, mapOf("k", want))
		}
		for _, place := range []string{"-    ", "-\n ", "-\n  ", "-\n        ", "- # a\n\n  "} {
			wantIndented(t, place+text, listOf(want))
			wantIndented(t, place+text+"\n"+place+text, listOf(want, want))
			wantIndented(t, "- "+strings.ReplaceAll(place+text, "\n", "\n  "), listOf(listOf(want)))
		}
		for _, place := range []string{"k:    ", "k:\n ", "k:\n  ", "k:\n        ", "k: # a\n\n  ", `"k": `, `"\u006b":` + "\n  "} {
			wantIndented(t, place+text, mapOf("k", want))
			wantIndented(t, place+text+"\na: "+text, mapOf("a k", want, want))
			wantIndented(t, "- "+strings.ReplaceAll(place+text, "\n", "\n  "), listOf(mapOf("k", want)))
		}
	}
}

func TestReadIndentedOfListsAndMaps(t *testing.T) {
	one, two, three := intOf(1), intOf(2), intOf(3)
	wantIndented(t, "- 1\n- 2\n- 1", listOf(one, two, one))
	wantIndented(t, "a: 1\nb: 2", mapOf("a b", one, two))
	wantIndented(t, "- - 1\n  - 2\n- 3", listOf(listOf(one, two), three))
	wantIndented(t, "-\n  - 1\n  - 2\n- 3", listOf(listOf(one, two), three))
	wantIndented(t, "- - 1\n- - 2", listOf(listOf(one), listOf(two)))
	wantIndented(t, "- - - 1\n    - 2\n  - 3\n- 1", listOf(listOf(listOf(one, two), three), one))
	wantIndented(t, "- - - 1\n- 2", listOf(listOf(listOf(one)), two))
	wantIndented(t, "- a: 1\n  b: 2\n- a: 3", listOf(mapOf("a b", one, two), mapOf("a", three)))
	wantIndented(t, "-\n  a: 1\n  b: 2\n-\n  a: 3", listOf(mapOf("a b", one, two), mapOf("a", three)))
	wantIndented(t, "- a:\n    b: 1\n  c: 2\n- 3", listOf(mapOf("a c", mapOf("b", one), two), three))
	wantIndented(t, "- a:\n    - 1\n    - 2\n- 3", listOf(mapOf("a", listOf(one, two)), three))
	wantIndented(t, "a:\n  - 1\n  - 2\nb: 3", mapOf("a b", listOf(one, two), three))
	wantIndented(t, "a:\n  b: 1\n  c: 2\nd: 3", mapOf("a d", mapOf("b c", one, two), three))
	wantIndented(t, "a:\n  b:\n    c: 1\nd: 2", mapOf("a d", mapOf("b", mapOf("c", one)), two))
	wantIndented(t, "a:\n  - - 1\n  - 2", mapOf("a", listOf(listOf(one), two)))
	wantIndented(t, "a:\n  - b: x\n    c: []\n  - {}", mapOf("a", listOf(mapOf("b c", textOf("x"), listOf()), mapOf(""))))
	wantIndented(t, "a:\n  - 1\n  - b: x\n    c: []\n", mapOf("a", listOf(one, mapOf("b c", textOf("x"), listOf()))))
	wantIndented(t, "kind: pod\nlabels:\n  zone: a\n  app: web\nneeds:\n  - key: app\n    op: in\n  - key: zone\nrank: 3", mapOf("kind labels needs rank", textOf("pod"), mapOf("app zone", textOf("web"), textOf("a")), listOf(mapOf("key op", textOf("app"), textOf("in")), mapOf("key", textOf("zone"))), three))
	for _, text := range indentedTexts() {
		for _, other := range []string{text, "-\n  " + strings.ReplaceAll(text, "\n", "\n  "), "k:\n " + strings.ReplaceAll(text, "\n", "\n "), "- " + strings.ReplaceAll(text, "\n", "\n  ")} {
			if wantIndentedAsDocumented(t, other) != 0 {
				t.Errorf("the test has a faulty text, %q", other)
			}
		}
	}
}

// A list element may begin a list, a map or a value behind any number of spaces, which count as indentation of the lines that continue it.
func TestReadIndentedOfElementsBehindTheHyphen(t *testing.T) {
	one, two := intOf(1), intOf(2)
	for gap := 1; gap <= 6; gap++ {
		hyphen, in := "-"+spaces(gap), gap+1
		wantIndented(t, hyphen+"1\n"+hyphen+"2", listOf(one, two))
		wantIndented(t, hyphen+"a: 1\n"+spaces(in)+"b: 2", listOf(mapOf("a b", one, two)))
		wantIndented(t, hyphen+"a:\n"+spaces(in)+"b: 2", listOf(mapOf("a b", nullOf(), two)))
		wantIndented(t, hyphen+"b: 1\n"+spaces(in)+"a:\n"+spaces(in+1)+"- 2\n- 1", listOf(mapOf("a b", listOf(two), one), one))
		wantIndented(t, hyphen+"- 1\n"+spaces(in)+"- 2", listOf(listOf(one, two)))
		wantIndented(t, hyphen+"-\n"+spaces(in)+"- 2", listOf(listOf(nullOf(), two)))
		wantIndented(t, hyphen+hyphen+hyphen+"1\n"+spaces(2*in)+"- 2\n"+spaces(in)+"- 1\n- 2", listOf(listOf(listOf(one, two), one), two))
		wantIndented(t, hyphen+hyphen+"a: 1\n"+spaces(2*in)+"b: 2\n"+spaces(in)+"- a: 1\n-  b: 2", listOf(listOf(mapOf("a b", one, two), mapOf("a", one)), mapOf("b", two)))
		wantIndented(t, "k:\n  "+hyphen+"a: 1\n"+spaces(2+in)+"b: 2\n  - 1\nl: 2", mapOf("k l", listOf(mapOf("a b", one, two), one), two))
	}
}

// atIndents are the trees of texts whose last line has one indentation or another.
type atIndents = map[int]impl.Tree

// wantAtIndents puts the line second behind first at each indentation, where only the given trees are accepted.
func wantAtIndents(t *testing.T, first string, second string, want atIndents) {
	t.Helper()
	at := 2 + strings.Count(first, "\n")
	for indent := range 14 {
		text := first + "\n" + spaces(indent) + second
		if tree, ok := want[indent]; ok {
			wantIndented(t, text, tree)
			wantIndented(t, strings.ReplaceAll(text, "\n", "\n\n# a\n     # b\n"), tree)
		} else {
			wantNoIndented(t, text, impl.FtForm, at)
			wantNoIndented(t, text+"\nx\n", impl.FtForm, at)
			wantNoIndented(t, "\n"+text, impl.FtForm, at+1)
		}
	}
}

// from is a tree at each indentation from least on, and the others at theirs.
func from(least int, tree impl.Tree, others atIndents) atIndents {
	all := atIndents{}
	maps.Copy(all, others)
	for indent := least; indent < 14; indent++ {
		all[indent] = tree
	}
	return all
}

func TestReadIndentedOfLinesThatFollowAnElementBehindTheHyphen(t *testing.T) {
	one, two, null := intOf(1), intOf(2), nullOf()
	for gap := 1; gap <= 6; gap++ {
		hyphen, in := "-"+spaces(gap), gap+1
		wantAtIndents(t, hyphen+"1", "- 2", atIndents{0: listOf(one, two)})
		wantAtIndents(t, hyphen+"1", "a: 2", atIndents{})
		wantAtIndents(t, hyphen+"1", "2", atIndents{})
		wantAtIndents(t, hyphen+"[]", "- 2", atIndents{0: listOf(listOf(), two)})
		wantAtIndents(t, hyphen+"{}", "a: 2", atIndents{})
		wantAtIndents(t, hyphen+"a: 1", "b: 2", atIndents{in: listOf(mapOf("a b", one, two))})
		wantAtIndents(t, hyphen+"a: 1", "- 2", atIndents{0: listOf(mapOf("a", one), two)})
		wantAtIndents(t, hyphen+"a: 1", "2", atIndents{})
		wantAtIndents(t, hyphen+"a:", "b: 2", from(in+1, listOf(mapOf("a", mapOf("b", two))), atIndents{in: listOf(mapOf("a b", null, two))}))
		wantAtIndents(t, hyphen+"a:", "- 2", from(in+1, listOf(mapOf("a", listOf(two))), atIndents{0: listOf(mapOf("a", null), two)}))
		wantAtIndents(t, hyphen+"a:", "2", from(in+1, listOf(mapOf("a", two)), nil))
		wantAtIndents(t, hyphen+"- 1", "- 2", atIndents{0: listOf(listOf(one), two), in: listOf(listOf(one, two))})
		wantAtIndents(t, hyphen+"- 1", "a: 2", atIndents{})
		wantAtIndents(t, hyphen+"-", "- 2", from(in+1, listOf(listOf(listOf(two))), atIndents{0: listOf(listOf(null), two), in: listOf(listOf(null, two))}))
		wantAtIndents(t, hyphen+"-", "a: 2", from(in+1, listOf(listOf(mapOf("a", two))), nil))
		wantAtIndents(t, hyphen+"-", "2", from(in+1, listOf(listOf(two)), nil))
		wantAtIndents(t, hyphen+hyphen+"1", "- 2", atIndents{0: listOf(listOf(one), two), in: listOf(listOf(one, two))})
		wantAtIndents(t, hyphen+"-  a: 1", "b: 2", atIndents{in + 3: listOf(listOf(mapOf("a b", one, two)))})
		wantAtIndents(t, hyphen+"-  a: 1", "- 2", atIndents{0: listOf(listOf(mapOf("a", one)), two), in: listOf(listOf(mapOf("a", one), two))})
	}
}

func TestReadIndentedOfLinesThatFollowAHyphenAlone(t *testing.T) {
	one, two, null := intOf(1), intOf(2), nullOf()
	wantAtIndents(t, "-", "- 2", from(1, listOf(listOf(two)), atIndents{0: listOf(null, two)}))
	wantAtIndents(t, "-", "a: 2", from(1, listOf(mapOf("a", two)), nil))
	wantAtIndents(t, "-", "2", from(1, listOf(two), nil))
	wantAtIndents(t, "-", "-", from(1, listOf(listOf(null)), atIndents{0: listOf(null, null)}))
	wantAtIndents(t, "-", "[]", from(1, listOf(listOf()), nil))
	wantAtIndents(t, "- 1\n-", "- 2", from(1, listOf(one, listOf(two)), atIndents{0: listOf(one, null, two)}))
	wantAtIndents(t, "-\n  -", "- 2", from(3, listOf(listOf(listOf(two))), atIndents{0: listOf(listOf(null), two), 2: listOf(listOf(null, two))}))
	wantAtIndents(t, "-\n  -", "a: 2", from(3, listOf(listOf(mapOf("a", two))), nil))
	wantAtIndents(t, "k:\n  -", "- 2", from(3, mapOf("k", listOf(listOf(two))), atIndents{2: mapOf("k", listOf(null, two))}))
	wantAtIndents(t, "k:\n  -", "a: 2", from(3, mapOf("k", listOf(mapOf("a", two))), atIndents{0: mapOf("a k", two, listOf(null))}))
	wantAtIndents(t, "k:\n  -", "2", from(3, mapOf("k", listOf(two)), nil))
	wantAtIndents(t, "- k:\n    -", "a: 2", from(5, listOf(mapOf("k", listOf(mapOf("a", two)))), atIndents{2: listOf(mapOf("a k", two, listOf(null)))}))
	wantAtIndents(t, "-\n   - 1", "- 2", atIndents{0: listOf(listOf(one), two), 3: listOf(listOf(one, two))})
	wantAtIndents(t, "-\n   a: 1", "b: 2", atIndents{3: listOf(mapOf("a b", one, two))})
	wantAtIndents(t, "-\n   1", "- 2", atIndents{0: listOf(one, two)})
	wantAtIndents(t, "-\n   1", "2", atIndents{})
}

func TestReadIndentedOfLinesThatFollowAKeyAlone(t *testing.T) {
	one, two, null := intOf(1), intOf(2), nullOf()
	for _, key := range []string{"k", `"k"`, `"\u006b"`} {
		wantAtIndents(t, key+":", "- 2", from(1, mapOf("k", listOf(two)), nil))
		wantAtIndents(t, key+":", "a: 2", from(1, mapOf("k", mapOf("a", two)), atIndents{0: mapOf("a k", two, null)}))
		wantAtIndents(t, key+":", "a:", from(1, mapOf("k", mapOf("a", null)), atIndents{0: mapOf("a k", null, null)}))
		wantAtIndents(t, key+":", "2", from(1, mapOf("k", two), nil))
		wantAtIndents(t, key+":", "{}", from(1, mapOf("k", mapOf("")), nil))
		wantAtIndents(t, "a: 1\n"+key+":", "b: 2", from(1, mapOf("a k", one, mapOf("b", two)), atIndents{0: mapOf("a b k", one, two, null)}))
		wantAtIndents(t, "a:\n  "+key+":", "b: 2", from(3, mapOf("a", mapOf("k", mapOf("b", two))), atIndents{0: mapOf("a b", mapOf("k", null), two), 2: mapOf("a", mapOf("b k", two, null))}))
		wantAtIndents(t, "a:\n  "+key+":", "- 2", from(3, mapOf("a", mapOf("k", listOf(two))), nil))
		wantAtIndents(t, "-\n  "+key+":", "- 2", from(3, listOf(mapOf("k", listOf(two))), atIndents{0: listOf(mapOf("k", null), two)}))
		wantAtIndents(t, "-\n  "+key+":", "b: 2", from(3, listOf(mapOf("k", mapOf("b", two))), atIndents{2: listOf(mapOf("b k", two, null))}))
		wantAtIndents(t, "-\n  "+key+":", "2", from(3, listOf(mapOf("k", two)), nil))
		wantAtIndents(t, key+":\n   - 1", "- 2", atIndents{3: mapOf("k", listOf(one, two))})
		wantAtIndents(t, key+":\n   - 1", "b: 2", atIndents{0: mapOf("b k", two, listOf(one))})
		wantAtIndents(t, key+":\n   a: 1", "b: 2", atIndents{0: mapOf("b k", two, mapOf("a", one)), 3: mapOf("k", mapOf("a b", one, two))})
		wantAtIndents(t, key+":\n   1", "b: 2", atIndents{0: mapOf("b k", two, one)})
		wantAtIndents(t, key+": 1", "b: 2", atIndents{0: mapOf("b k", two, one)})
		wantAtIndents(t, key+": 1", "- 2", atIndents{})
		wantAtIndents(t, key+": []", "- 2", atIndents{})
	}
}

func TestReadIndentedOfHyphensAndKeysAloneOnTheLastLine(t *testing.T) {
	one, null := intOf(1), nullOf()
	for text, want := range map[string]impl.Tree{"-": listOf(null), "-\n-": listOf(null, null), "-\n-\n-": listOf(null, null, null), "- 1\n-": listOf(one, null), "-\n- 1": listOf(null, one), "- -": listOf(listOf(null)), "-  -": listOf(listOf(null)), "- - -": listOf(listOf(listOf(null))), "- a:": listOf(mapOf("a", null)), "-\n  -": listOf(listOf(null)), "-\n  a:": listOf(mapOf("a", null)), "- 1\n- -": listOf(one, listOf(null)), "- - 1\n  -": listOf(listOf(one, null)), "- - 1\n-": listOf(listOf(one), null),
		"a:": mapOf("a", null), `"a":`: mapOf("a", null), `"":`: {Kind: 6, Keys: []string{""}, Kids: []impl.Tree{null}}, "a:\nb:": mapOf("a b", null, null), "b:\na:": mapOf("a b", null, null), "a: 1\nb:": mapOf("a b", one, null), "a:\nb: 1": mapOf("a b", null, one), "a:\n  -": mapOf("a", listOf(null)), "a:\n  b:": mapOf("a", mapOf("b", null)), "a:\n  - b:": mapOf("a", listOf(mapOf("b", null))), "- a: 1\n  b:": listOf(mapOf("a b", one, null)), "a:\n  b: 1\nc:": mapOf("a c", mapOf("b", one), null), "a:\n  - 1\n  -": mapOf("a", listOf(one, null))} {
		for _, more := range []string{"", "\n", "  ", " # a", "\n\n", "\n    # a", "\n      \n# b\n   "} {
			wantIndented(t, text+more, want)
		}
	}
}

// A list stands below its key only with a greater indentation.
func TestReadIndentedOfListsBelowAKey(t *testing.T) {
	list := listOf(intOf(1), intOf(2))
	for indent := 1; indent <= 8; indent++ {
		wantIndented(t, "k:\n"+spaces(indent)+"- 1\n"+spaces(indent)+"- 2\n", mapOf("k", list))
		wantIndented(t, "k:\n"+spaces(indent)+"- 1\n"+spaces(indent)+"- 2\nl: 3", mapOf("k l", list, intOf(3)))
		wantIndented(t, "- k:\n"+spaces(indent+2)+"- 1\n"+spaces(indent+2)+"- 2\n- 3", listOf(mapOf("k", list), intOf(3)))
		wantIndented(t, "a:\n  k:\n"+spaces(indent+2)+"- 1\n"+spaces(indent+2)+"- 2\n  l: 3\nb: 4", mapOf("a b", mapOf("k l", list, intOf(3)), intOf(4)))
	}
	for text, at := range map[string]int{"k:\n- 1": 2, "k:\n- 1\n- 2\n": 2, "k:\n-": 2, "k:\n- a: 1": 2, "k:\n\n# a\n- 1": 4, "a: 1\nk:\n- 1": 3, "k:\n- 1\nl: 2": 2, "- k:\n  - 1": 2, "-\n  k:\n  - 1": 3, "a:\n  k:\n  - 1": 3, "- - k:\n    - 1": 2, "k:\n  - 1\nl:\n- 2": 4} {
		wantNoIndented(t, text, impl.FtForm, at)
	}
}

func TestReadIndentedOfKeys(t *testing.T) {
	for text, want := range map[string]string{"a": "a", "A b": "A b", "a  b": "a  b", "500m": "500m", "1.5": "1.5", "a:b": "a:b", "a-b": "a-b", "a - b": "a - b", "it's": "it's", "nulls": "nulls", "True": "True", "a]": "a]", "caf\xc3\xa9": "caf\xc3\xa9", "\xf0\x9f\x98\x80": "\xf0\x9f\x98\x80", `""`: "", `" "`: " ", `"a"`: "a", `"a b"`: "a b", `"12"`: "12", `"null"`: "null", `"~"`: "~", `"a: b"`: "a: b", `"a:"`: "a:", `":"`: ":", `"- a"`: "- a", `"-"`: "-", `"# a"`: "# a", `"a # b"`: "a # b", `"[]"`: "[]",
		`"a\"b"`: `a"b`, `"\\"`: `\`, `"a\nb"`: "a\nb", `"\u0000"`: "\x00", `"\/"`: "/", `"\u00e9"`: "\xc3\xa9", `"\ud83d\ude00"`: "\xf0\x9f\x98\x80", strings.Repeat("a", 400): strings.Repeat("a", 400), "a" + strings.Repeat("\xc3\xa9", 199) + "b": "a" + strings.Repeat("\xc3\xa9", 199) + "b", `"` + strings.Repeat("1", 400) + `"`: strings.Repeat("1", 400)} {
		for rest, kid := range map[string]impl.Tree{"": nullOf(), " 1": intOf(1), "  x y": textOf("x y"), "\n  - 1": listOf(intOf(1)), "\n  b: 1": mapOf("b", intOf(1)), ` "a: b"  # c`: textOf("a: b")} {
			tree := impl.Tree{Kind: 6, Keys: []string{want}, Kids: []impl.Tree{kid}}
			wantIndented(t, text+":"+rest, tree)
			wantIndented(t, "- "+text+":"+strings.ReplaceAll(rest, "\n", "\n  "), listOf(tree))
			wantIndented(t, "k:\n  "+text+":"+strings.ReplaceAll(rest, "\n", "\n  "), mapOf("k", tree))
		}
	}
	for _, text := range noPairs() {
		wantNoIndented(t, text, impl.FtForm, 1)
		wantNoIndented(t, "- "+text, impl.FtForm, 1)
		wantNoIndented(t, "a: 1\n"+text, impl.FtForm, 2)
		wantNoIndented(t, "k:\n  "+text, impl.FtForm, 2)
		wantNoIndented(t, "k:\n  a: 1\n  "+text, impl.FtForm, 3)
		wantNoIndented(t, "a: "+text, impl.FtForm, 1)
	}
	// Without a space or an end behind it, a colon ends no key.
	wantIndented(t, "a:1", textOf("a:1"))
	wantIndented(t, "a:b:c: d", mapOf("a:b:c", textOf("d")))
	wantIndented(t, "a: b:c", mapOf("a", textOf("b:c")))
}

func TestReadIndentedOfKeysInEachOrder(t *testing.T) {
	words := []string{"", "A", "a", "aa", "b"}
	want := impl.Tree{Kind: 6, Keys: words, Kids: []impl.Tree{textOf(""), textOf("A"), listOf(textOf("a")), mapOf("aa", textOf("aa")), nullOf()}}
	lines := map[string]string{"": `"": ""`, "A": "A: A", "a": "a:\n  - a", "aa": "aa:\n  aa: aa", "b": "b:"}
	for _, order := range orders(words) {
		list := []string{}
		for _, word := range order {
			list = append(list, lines[word])
		}
		text := strings.Join(list, "\n")
		wantIndented(t, text, want)
		wantIndented(t, "- k:\n    "+strings.ReplaceAll(text, "\n", "\n    "), listOf(mapOf("k", want)))
	}
	// Code points above 65535 are sorted behind all others, as their bytes are.
	wantIndented(t, "\xf0\x9f\x98\x80: 1\n\"\\uffff\": 2\n\xc3\xa9: 3\nz: 4\n\"\\u0000\": 5", impl.Tree{Kind: 6, Keys: []string{"\x00", "z", "\xc3\xa9", "\xef\xbf\xbf", "\xf0\x9f\x98\x80"}, Kids: []impl.Tree{intOf(5), intOf(4), intOf(3), intOf(2), intOf(1)}})
	wantIndented(t, "\"10\": 1\n\"9\": 2\n\"1\": 3", mapOf("1 10 9", intOf(3), intOf(1), intOf(2)))
}

func TestReadIndentedOfEqualKeys(t *testing.T) {
	for text, at := range map[string]int{"a: 1\na: 2": 2, "a: 1\na: 1": 2, "a:\na:": 2, "a: 1\nb: 2\nc: 3\na: 4": 4, "a: 1\nb: 2\nc: 3\nb: 4": 4, "a: 1\nb: 2\nc: 3\nc: 4": 4, "c: 1\nb: 2\na: 3\nb: 4\na: 5": 4, "a: 1\n\n# b\na: 2": 4, "a:\n  - 1\n  - 2\na: 3": 4, "a:\n  b: 1\na: 2": 3, "a:\n  b: 1\n  b: 2": 3, "- a: 1\n  a: 2": 2, "- a: 1\n- b: 1\n  b: 2": 3, "-\n  a: 1\n  a: 2": 3,
		`"": 1` + "\n" + `"": 2`: 2, `"a": 1` + "\na: 2": 2, "a: 1\n" + `"a": 2`: 2, `"\u0061": 1` + "\na: 2": 2, "a b: 1\n" + `"a b": 2`: 2, "caf\xc3\xa9: 1\n" + `"caf\u00e9": 2`: 2, `"\/": 1` + "\n/: 2": 2, `"\n": 1` + "\n" + `"\u000a": 2`: 2, "a: 1\na: 2\na: 3": 2, "a:\n  a:\n    a: 1\n    a: 2": 4, "a:\n    b: 1\na:\n    b: 1": 3} {
		wantNoIndented(t, text, impl.FtTwice, at)
		wantNoIndented(t, text+"\n  # a\n", impl.FtTwice, at)
		wantNoIndented(t, "k:\n  "+strings.ReplaceAll(text, "\n", "\n  "), impl.FtTwice, at+1)
		wantNoIndented(t, "- "+strings.ReplaceAll(text, "\n", "\n  "), impl.FtTwice, at)
	}
	for count := 2; count <= 6; count++ {
		for first := range count {
			for second := first + 1; second < count; second++ {
				lines := []string{}
				for i := range count {
					// Keys are neither ascending nor descending.
					lines = append(lines, fmt.Sprintf("k%d: %d", i*5%7, i))
				}
				lines[second] = lines[first]
				wantNoIndented(t, strings.Join(lines, "\n"), impl.FtTwice, second+1)
			}
		}
	}
}

// Keys that look alike, and equal keys of different maps, are no fault.
func TestReadIndentedOfKeysThatAreNotTwiceInAMap(t *testing.T) {
	one := mapOf("a", intOf(1))
	wantIndented(t, "- a: 1\n- a: 1", listOf(one, one))
	wantIndented(t, "a:\n  a: 1", mapOf("a", one))
	wantIndented(t, "a:\n  a: 1\nb:\n  a: 1", mapOf("a b", one, one))
	wantIndented(t, "b:\n  a: 1\na:\n  - a: 1", mapOf("a b", listOf(one), one))
	wantIndented(t, "a: 1\nA: 2", mapOf("A a", intOf(2), intOf(1)))
	wantIndented(t, "a: 1\n\"a \": 2", impl.Tree{Kind: 6, Keys: []string{"a", "a "}, Kids: []impl.Tree{intOf(1), intOf(2)}})
	wantIndented(t, "a: a\nb: a", mapOf("a b", textOf("a"), textOf("a")))
	wantIndented(t, `"\\u0061": 1`+"\na: 2", mapOf(`\u0061 a`, intOf(1), intOf(2)))
	wantIndented(t, "caf\xc3\xa9: 1\ncafe\xcc\x81: 2", mapOf("cafe\xcc\x81 caf\xc3\xa9", intOf(2), intOf(1)))
}

func TestReadIndentedOfWideKeys(t *testing.T) {
	for inside, key := range wideStrings() {
		if len(key) != 400 {
			t.Fatalf("the test has a key of %d bytes", len(key))
		}
		tree := impl.Tree{Kind: 6, Keys: []string{key}, Kids: []impl.Tree{intOf(1)}}
		wantIndented(t, `"`+inside+`": 1`, tree)
		wantIndented(t, "-   \""+inside+"\":\n      1", listOf(tree))
		wantIndented(t, "k:\n  \""+inside+"\":   1", mapOf("k", tree))
		for _, more := range []string{"b", `\n`, `\u0000`, "\xc3\xa9", strings.Repeat("b", 401)} {
			for _, wide := range []string{`"` + inside + more + `":`, `"` + more + inside + `":`} {
				for _, rest := range []string{"", " 1", " [", " \"", "\n  - 1", "\n a: 1", "\nx", "\n\"a\": 1"} {
					wantNoIndented(t, wide+rest, impl.FtWide, 1)
					wantNoIndented(t, "- "+wide+rest, impl.FtWide, 1)
					wantNoIndented(t, "-\n  "+wide+rest, impl.FtWide, 2)
					wantNoIndented(t, "a: 1\n"+wide+rest, impl.FtWide, 2)
					wantNoIndented(t, "k:\n  a: 1\n  "+wide+rest, impl.FtWide, 3)
				}
			}
		}
	}
	// Without quotes, a key that is too wide is none.
	wantNoIndented(t, strings.Repeat("a", 401)+": 1", impl.FtForm, 1)
	wantNoIndented(t, "a: 1\n"+strings.Repeat("a", 401)+": 1", impl.FtForm, 2)
}

func TestReadIndentedOfLinesThatContinueNothing(t *testing.T) {
	for text, at := range map[string]int{
		// between the indentations of two open values
		"a:\n    b: 1\n  c: 2": 3, "a:\n  b:\n      c: 1\n    d: 2": 4, "- - 1\n - 2": 2, "- a: 1\n b: 2": 2, "-    - 1\n  - 2": 2, "-\n    - 1\n  - 2": 3, "a:\n    - 1\n  - 2": 3, "a:\n    - 1\n  b: 2": 3, "- - - 1\n   - 2": 2, "a:\n      1\n  b: 2": 3, "a:\n  b: 1\n c: 2": 3, "- -\n - 1": 2, "- a:\n - 1": 2,
		// more indentation than the value before
		"a: 1\n  b: 2": 2, "- 1\n  - 2": 2, "- 1\n  2": 2, "a: 1\n  - 2": 2, "a: 1\n  2": 2, "1\n  2": 2, "a: 1\n b: 2\n": 2, "a:\n  b: 1\n    c: 2": 3, "a:\n  1\n    b: 2": 3, "a:\n  1\n  2": 3, "- - 1\n    - 2": 2, "a: []\n  - 1": 2, "- {}\n  a: 1": 2, "a: 1\nb: 2\n   c: 3\n": 3, "a: ~\n  b: 1": 2, "x\n  - 1": 2,
		// an element among pairs and the other way round
		"a: 1\n- 2": 2, "- 1\na: 2": 2, "a: 1\nb: 2\n-": 3, "- 1\n- 2\na:": 3, "k:\n  a: 1\n  - 2": 3, "k:\n  - 1\n  a: 2": 3, "- a: 1\n  - 2": 2, "- - 1\n  a: 2": 2, "a:\n- 1": 2, "-\na: 1": 2, "a: 1\n- b: 2": 2, "- a: 1\nb: 2": 2,
		// neither an element nor a pair
		"a: 1\nb": 2, "- 1\nb": 2, "a: 1\n2": 2, "- 1\n2": 2, "a: 1\nb:c": 2, "a: 1\n[]": 2, "- 1\n{}": 2, "a: 1\n\"b\"": 2, "- 1\n-2": 2, "- 1\n-a": 2, "k:\n  a: 1\n  b": 3, "k:\n  - 1\n  b": 3, "- a: 1\n  b": 2, "a:\n  1\nb": 3, "a:\nb": 2, "-\nb": 2,
		// behind a value that stands alone
		"1\n2": 2, "a\nb: 1": 2, "a\n- 1": 2, "[]\n- 1": 2, "{}\na: 1": 2, "\"a\"\n\"b\"": 2, "a\n\n\nb": 4, "null\nnull": 2, "a\n  b": 2, "a\n b\n  c": 2,
	} {
		wantNoIndented(t, text, impl.FtForm, at)
		wantNoIndented(t, text+"\n", impl.FtForm, at)
		wantNoIndented(t, text+"\na: [\n", impl.FtForm, at)
		wantNoIndented(t, "\n\n"+text, impl.FtForm, at+2)
		wantNoIndented(t, "- k:\n    "+strings.ReplaceAll(text, "\n", "\n    "), impl.FtForm, at+1)
		wantNoIndented(t, strings.ReplaceAll(text, "\n", "\n\n      # a\n"), impl.FtForm, 3*at-2)
	}
}

func TestReadIndentedOfAFirstLineThatIsIndented(t *testing.T) {
	for _, text := range append(indentedTexts(), noScalars()...) {
		for _, indent := range []int{1, 2, 3, 8, 400} {
			wantNoIndented(t, spaces(indent)+text, impl.FtForm, 1)
			wantNoIndented(t, spaces(indent)+strings.ReplaceAll(text, "\n", "\n"+spaces(indent)), impl.FtForm, 1)
			wantNoIndented(t, "\n# a\n   \n"+spaces(indent)+text, impl.FtForm, 4)
			wantNoIndented(t, " # a\n"+spaces(indent)+"a: 1\nb: 2", impl.FtForm, 2)
		}
	}
}

func TestReadIndentedOfEmptyLinesInEachPlace(t *testing.T) {
	for _, text := range indentedTexts() {
		want, _ := indentedByWords(text)
		lines := strings.Split(text, "\n")
		for _, empty := range []string{"", " ", "       ", "#", "# a", "  # a", "          #a: 1", `# "`, "#- 1", "\n\n"} {
			for i := range len(lines) + 1 {
				wantIndented(t, strings.Join(slices.Insert(slices.Clone(lines), i, empty), "\n"), want)
			}
			wantIndented(t, empty+"\n"+strings.Join(lines, "\n"+empty+"\n")+"\n"+empty, want)
		}
		for _, behind := range []string{" ", "      ", " #", "   # a", ` # "a: 1`, " #- 1  "} {
			wantIndented(t, strings.Join(lines, behind+"\n")+behind, want)
			for i := range lines {
				other := slices.Clone(lines)
				other[i] += behind
				wantIndented(t, strings.Join(other, "\n"), want)
			}
		}
	}
}

func TestReadIndentedOfEmptyListsAndMapsAsValues(t *testing.T) {
	list, pairs := listOf(), mapOf("")
	wantIndented(t, "- []\n- {}\n- []", listOf(list, pairs, list))
	wantIndented(t, "a: []\nb: {}", mapOf("a b", list, pairs))
	wantIndented(t, "a:\n  []\nb:\n  {}", mapOf("a b", list, pairs))
	wantIndented(t, "- - []\n  - {}\n- a: {}\n  b: []", listOf(listOf(list, pairs), mapOf("a b", pairs, list)))
	for text, at := range map[string]int{"[]\n[]": 2, "[]\n- 1": 2, "{}\na: 1": 2, "a: []\n  - 1": 2, "a: {}\n  b: 1": 2, "- []\n  - 1": 2, "- {}\n  a: 1": 2, "a:\n  []\n  - 1": 3, "a:\n  {}\n  b: 1": 3, "a: [] 1": 1, "- {} 1": 1, "a: [ ]": 1, "- { }": 1, "[ ]": 1, "- [1]": 1, "a: {b: 1}": 1, "[]: 1": 1, "- {}: 1": 1} {
		wantNoIndented(t, text, impl.FtForm, at)
	}
}

func TestReadIndentedOfTextsThatAreNoScalarInEachPlace(t *testing.T) {
	places := map[string]int{"": 1, "- ": 1, "-    ": 1, "-\n  ": 2, "- -\n    ": 2, "- - ": 1, "- 1\n- ": 2, "- 1\n-\n ": 3, "k: ": 1, "k:     ": 1, "k:\n ": 2, "- k: ": 1, "- k:\n    ": 2, "a: 1\nk: ": 2, "a: 1\nk:\n  ": 3, "- a: 1\n  k: ": 2, "k:\n  a: 1\n  b: ": 3, "k:\n  - 1\n  - ": 3, "k:\n  - a:\n      b: ": 3, "-\n  k:\n    ": 3, "\n# a\n- ": 3, "a:\n\nk: ": 3, `"a b": `: 1, "- 1\n- 2\n- - 3\n  - ": 4}
	for _, text := range noScalars() {
		for place, at := range places {
			for _, more := range []string{"", "\n", "  # a", "\n- 1", "\nx: 1\n", "\n   - 1", "\n]"} {
				wantNoIndented(t, place+text+more, impl.FtForm, at)
			}
		}
	}
	// Behind a key, a list or map cannot begin.
	for _, text := range []string{"- a", "-  1", "-", "- - 1", "a: b", "a:", `"a": b`, `"a":`, "- a: b", "a: b: c", "a: - b", "- ["} {
		for place, at := range map[string]int{"k: ": 1, "k:   ": 1, "- k: ": 1, `"k": `: 1, "a: 1\nk: ": 2, "- 1\n- k: ": 2, "a:\n  k: ": 2} {
			wantNoIndented(t, place+text, impl.FtForm, at)
			wantNoIndented(t, place+text+"\n    - 1\n", impl.FtForm, at)
		}
	}
}

func TestReadIndentedOfDepth(t *testing.T) {
	for text, end := range lineScalars() {
		for count := range 12 {
			inner := count / 2
			hyphens := strings.Repeat("- ", inner)
			if count < 8 {
				wantIndented(t, strings.Repeat("- ", count)+text, inLists(count, end))
				wantIndented(t, inMarks(count, "-", text), inLists(count, end))
				wantIndented(t, inMarks(count, "k:", text), inMaps(count, end))
				wantIndented(t, inMarks(max(count, 1)-1, "k:", "k: "+text), inMaps(max(count, 1), end))
				wantIndented(t, inMarks(count-inner, "k:", hyphens+text), inMaps(count-inner, inLists(inner, end)))
				wantIndented(t, inMarks(count-inner, "-", hyphens+text), inLists(count, end))
				continue
			}
			wantNoIndented(t, strings.Repeat("- ", count)+text, impl.FtDeep, 1)
			wantNoIndented(t, inMarks(count, "-", text), impl.FtDeep, 9)
			wantNoIndented(t, inMarks(count, "k:", text), impl.FtDeep, 9)
			wantNoIndented(t, inMarks(count-1, "k:", "k: "+text), impl.FtDeep, min(count, 9))
			wantNoIndented(t, inMarks(count-inner, "k:", hyphens+text), impl.FtDeep, count-inner+1)
			wantNoIndented(t, "- 1\n"+inMarks(count, "-", text)+"\n- [", impl.FtDeep, 10)
		}
		// A depth ends with its list or map.
		wantIndented(t, strings.Repeat("- ", 7)+text+"\n"+inMarks(7, "-", text)+"\n- "+text, listOf(inLists(6, end), inLists(6, end), end))
		wantIndented(t, inMarks(7, "k:", text)+"\nl:\n  - - - - - - "+text+"\nm: "+text, mapOf("k l m", inMaps(6, end), inLists(6, end), end))
		wantNoIndented(t, "- "+text+"\n- - - - - - - - "+text, impl.FtDeep, 2)
		wantNoIndented(t, "a: "+text+"\nk:\n  - - - - - - -\n"+spaces(18)+text, impl.FtDeep, 4)
		wantNoIndented(t, "- - - - - - - "+text+"\n"+spaces(12)+"- "+text+"\n"+spaces(12)+"- - "+text, impl.FtDeep, 3)
	}
}

// Lists and maps are nested here in each order, each hyphen on the line of what it begins and each key on a line of its own.
func TestReadIndentedOfDepthOfListsAndMaps(t *testing.T) {
	for mask := range 1 << 8 {
		for count := 6; count <= 8; count++ {
			text, line, tree := "", 1, intOf(1)
			for i := range count {
				if mask>>i&1 == 0 {
					text += "- "
				} else {
					text, line = text+"k:\n"+spaces(2*i+2), line+1
				}
			}
			for i := count - 1; i >= 0; i-- {
				tree = []impl.Tree{listOf(tree), mapOf("k", tree)}[mask>>i&1]
			}
			if count == 8 {
				wantNoIndented(t, text+"1\n", impl.FtDeep, line)
				continue
			}
			wantIndented(t, text+"1\n", tree)
			for i := range count {
				wantIndentedAsDocumented(t, text+"1\n"+spaces(2*i)+"- 1")
				wantIndentedAsDocumented(t, text+"1\n"+spaces(2*i)+"l: 1")
			}
		}
	}
}

func TestReadIndentedOfDepthOfAbsentValues(t *testing.T) {
	for count := 1; count <= 11; count++ {
		hyphens := strings.TrimSuffix(strings.Repeat("- ", count), " ")
		for _, more := range []string{"", "\n", "\n# a\n", "\n   # a"} {
			if count < 8 {
				wantIndented(t, hyphens+more, inLists(count, nullOf()))
				wantIndented(t, inMarks(count, "-", "")+more, inLists(count, nullOf()))
				wantIndented(t, inMarks(count, "k:", "")+more, inMaps(count, nullOf()))
				continue
			}
			wantNoIndented(t, hyphens+more, impl.FtDeep, 1)
			wantNoIndented(t, inMarks(count, "-", "")+more, impl.FtDeep, min(count, 9))
			wantNoIndented(t, inMarks(count, "k:", "")+more, impl.FtDeep, min(count, 9))
			wantNoIndented(t, "k:\n  "+hyphens[2:]+more, impl.FtDeep, 2)
			// The line that follows comes later.
			wantNoIndented(t, "- 1\n"+hyphens+"\n[", impl.FtDeep, 2)
			wantNoIndented(t, inMarks(count, "k:", "")+"\nk: 1", impl.FtDeep, min(count, 9))
		}
	}
}

func TestReadIndentedOfSize(t *testing.T) {
	for text, end := range lineScalars() {
		for _, place := range []string{"- ", "-\n  "} {
			wantIndented(t, zeroElements(298)+place+text, zeroList(298, end))
			wantNoIndented(t, zeroElements(299)+place+text, impl.FtMany, 300+strings.Count(place, "\n"))
			wantNoIndented(t, zeroElements(299)+place+text+"\n[", impl.FtMany, 300+strings.Count(place, "\n"))
		}
		for _, place := range []string{"z: ", "z:\n  "} {
			wantIndented(t, zeroPairs(298)+place+text, zeroMap(298, "z", end))
			wantNoIndented(t, zeroPairs(299)+place+text, impl.FtMany, 300+strings.Count(place, "\n"))
			wantNoIndented(t, zeroPairs(299)+place+text+"\n[", impl.FtMany, 300+strings.Count(place, "\n"))
		}
		wantIndented(t, zeroElements(297)+"- - "+text, zeroList(297, listOf(end)))
		wantIndented(t, zeroElements(297)+"- k: "+text, zeroList(297, mapOf("k", end)))
		wantIndented(t, zeroPairs(297)+"z:\n  - "+text, zeroMap(297, "z", listOf(end)))
		wantNoIndented(t, zeroElements(298)+"- - "+text, impl.FtMany, 299)
		wantNoIndented(t, zeroElements(298)+"- k: "+text, impl.FtMany, 299)
		wantNoIndented(t, zeroElements(298)+"- k:\n    "+text, impl.FtMany, 300)
		wantNoIndented(t, zeroPairs(298)+"z:\n  - "+text, impl.FtMany, 300)
		wantNoIndented(t, zeroPairs(298)+"z:\n  -\n    "+text, impl.FtMany, 301)
		wantNoIndented(t, zeroPairs(298)+"z:\n  a: "+text, impl.FtMany, 300)
		wantNoIndented(t, zeroElements(299)+"\n# a\n- "+text, impl.FtMany, 302)
	}
	wantNoIndented(t, zeroElements(299)+"- - 1", impl.FtMany, 300)
	wantNoIndented(t, zeroElements(299)+"- a: 1", impl.FtMany, 300)
	wantNoIndented(t, zeroPairs(299)+"z:\n  - 1", impl.FtMany, 301)
	wantNoIndented(t, zeroPairs(299)+"z:\n  a: 1", impl.FtMany, 301)
	wantNoIndented(t, strings.Repeat("- - 0\n", 151), impl.FtMany, 150)
	wantNoIndented(t, strings.Repeat("- k: 0\n", 151), impl.FtMany, 150)
	wantNoIndented(t, zeroElements(5000), impl.FtMany, 300)
	wantNoIndented(t, strings.Repeat("- []\n", 300), impl.FtMany, 300)
	wantNoIndented(t, strings.Repeat("- {}\n", 300), impl.FtMany, 300)
}

// A value that is absent counts in the line of its hyphen or key.
func TestReadIndentedOfSizeOfAbsentValues(t *testing.T) {
	null := nullOf()
	wantIndented(t, strings.Repeat("-\n", 299), listOf(slices.Repeat([]impl.Tree{null}, 299)...))
	wantIndented(t, strings.ReplaceAll(zeroPairs(299), " 0", ""), mapOf(strings.Join(wideMap(299).Keys, " "), slices.Repeat([]impl.Tree{null}, 299)...))
	wantNoIndented(t, strings.ReplaceAll(zeroPairs(300), " 0", ""), impl.FtMany, 300)
	for _, more := range []string{"", "\n", "\n# a\n", "\n\n\n"} {
		wantIndented(t, zeroElements(298)+"-"+more, zeroList(298, null))
		wantIndented(t, zeroElements(297)+"- -"+more, zeroList(297, listOf(null)))
		wantIndented(t, zeroElements(297)+"- k:"+more, zeroList(297, mapOf("k", null)))
		wantIndented(t, zeroPairs(298)+"z:"+more, zeroMap(298, "z", null))
		wantIndented(t, "-\n"+zeroElements(298)+more, listOf(append([]impl.Tree{null}, zeroList(298).Kids...)...))
		for _, follow := range []string{"", "- 1", "x", "- [", "z: 1"} {
			wantNoIndented(t, zeroElements(299)+"-"+more+"\n"+follow, impl.FtMany, 300)
			wantNoIndented(t, zeroElements(298)+"- -"+more+"\n"+follow, impl.FtMany, 299)
			wantNoIndented(t, zeroElements(298)+"- k:"+more+"\n"+follow, impl.FtMany, 299)
			wantNoIndented(t, zeroPairs(299)+"z:"+more+"\n"+follow, impl.FtMany, 300)
			wantNoIndented(t, zeroPairs(298)+"z:\n  -"+more+"\n"+follow, impl.FtMany, 300)
			wantNoIndented(t, strings.Repeat("-\n", 300)+more+"\n"+follow, impl.FtMany, 300)
			wantNoIndented(t, "-\n"+zeroElements(299)+more+"\n"+follow, impl.FtMany, 300)
		}
	}
}

func TestReadIndentedOfTextsWithoutLines(t *testing.T) {
	for text, at := range map[string]int{"": 1, " ": 1, "    ": 1, "\n": 2, "\n\n": 3, " \n   \n ": 3, "#": 1, "# a": 1, "  # a: 1": 1, "# a\n": 2, "# a\n# b": 2, "\n#\n  # \"a\n\n": 5, "# a\n# - b": 2, strings.Repeat("\n", 20000): 20001, strings.Repeat("#\n", 10000): 10001, spaces(20000): 1, "#" + strings.Repeat("a", 19999): 1} {
		wantNoIndented(t, text, impl.FtForm, at)
	}
}

// A faultyText has a fault in one of its lines, whatever follows at the indentation 0.
type faultyText struct {
	text string
	code int
	at   int
}

func faultyTexts() []faultyText {
	wide := `"` + strings.Repeat("a", 401) + `"`
	return []faultyText{
		{"[", 4, 1}, {"- [", 4, 1}, {"a: b: c", 4, 1}, {"-\n  '", 4, 2}, {"k:\n  a: ]", 4, 2}, {"a: 1\n  b: 2", 4, 2}, {"- 1\n\n - 2", 4, 3}, {"a:\n- 1", 4, 2}, {" a", 4, 1}, {"\n  - 1", 4, 2}, {"1\n2", 4, 2},
		{"a: 1\na: 2", 5, 2}, {"k:\n  b: 1\n  a: 2\n  b:", 5, 4}, {"- a:\n  \"\\u0061\":", 5, 2},
		{strings.Repeat("- ", 8) + "1", 6, 1}, {inMarks(8, "k:", "- 1"), 6, 9}, {"- - - - - - - -", 6, 1}, {inMarks(8, "k:", ""), 6, 8},
		{zeroElements(299) + "- 1", 7, 300}, {zeroElements(299) + "-", 7, 300}, {zeroPairs(299) + "z:\n  - a", 7, 301}, {"-\n" + zeroElements(298) + "- 1", 7, 300},
		{wide + ": 1", 8, 1}, {"- 1\n- " + wide + ":", 8, 2}, {"k:\n  " + wide + ":\n    - 1", 8, 2},
	}
}

// Of two faults in different lines the first one counts, whatever their codes are.
func TestReadIndentedOfTwoFaultsInEitherOrder(t *testing.T) {
	for _, f := range faultyTexts() {
		wantNoIndented(t, f.text, f.code, f.at)
		wantNoIndented(t, "\n# a\n"+f.text+"  # b\n", f.code, f.at+2)
		for _, g := range faultyTexts() {
			// A first line that is indented could begin the value of a hyphen or key.
			if !strings.HasPrefix(strings.TrimLeft(g.text, "\n"), " ") {
				wantNoIndented(t, f.text+"\n"+g.text, f.code, f.at)
			}
			wantIndentedAsDocumented(t, f.text+"\n"+g.text)
			wantNoIndented(t, f.text+"\n\n# a\n- "+g.text+"\n", f.code, f.at)
			wantNoIndented(t, f.text+"\nz: "+g.text+"\n", f.code, f.at)
			wantIndentedAsDocumented(t, "- "+strings.ReplaceAll(f.text, "\n", "\n  ")+"\n- "+strings.ReplaceAll(g.text, "\n", "\n  "))
			wantIndentedAsDocumented(t, "k:\n  "+strings.ReplaceAll(f.text, "\n", "\n  ")+"\nl:\n  "+strings.ReplaceAll(g.text, "\n", "\n  "))
		}
	}
}

func TestReadIndentedOfTwoFaultsInALine(t *testing.T) {
	wide := `"` + strings.Repeat("a", 401) + `"`
	// A key counts before its value, also before one that is no scalar, too deep or one too many.
	wantNoIndented(t, "a: 1\na: [", impl.FtTwice, 2)
	wantNoIndented(t, "a: 1\na: a: b", impl.FtTwice, 2)
	wantNoIndented(t, wide+": [", impl.FtWide, 1)
	wantNoIndented(t, wide+": 1\n"+wide+": 2", impl.FtWide, 1)
	wantNoIndented(t, inMarks(7, "k:", "k: 1"), impl.FtDeep, 8)
	wantNoIndented(t, inMarks(7, "k:", wide+": 1"), impl.FtWide, 8)
	wantNoIndented(t, inMarks(6, "k:", "a:\n"+spaces(12)+"a: 1"), impl.FtTwice, 8)
	wantNoIndented(t, zeroPairs(299)+"k150: 0", impl.FtTwice, 300)
	wantNoIndented(t, zeroPairs(299)+"k150:", impl.FtTwice, 300)
	wantNoIndented(t, zeroPairs(299)+wide+": 0", impl.FtWide, 300)
	wantNoIndented(t, zeroPairs(299)+wide+":", impl.FtWide, 300)
	wantNoIndented(t, zeroElements(298)+"- "+wide+": 1", impl.FtWide, 299)
	// A map counts before its first key.
	wantNoIndented(t, strings.Repeat("- ", 8)+wide+": 1", impl.FtDeep, 1)
	wantNoIndented(t, inMarks(8, "k:", wide+": 1"), impl.FtDeep, 9)
	wantNoIndented(t, zeroElements(299)+"- "+wide+": 1", impl.FtMany, 300)
	wantNoIndented(t, zeroPairs(299)+"z:\n  "+wide+": 1", impl.FtMany, 301)
	// The place of a value counts before its text.
	wantNoIndented(t, strings.Repeat("- ", 8)+"[", impl.FtDeep, 1)
	wantNoIndented(t, inMarks(7, "k:", "k: ["), impl.FtDeep, 8)
	wantNoIndented(t, inMarks(8, "-", "["), impl.FtDeep, 9)
	wantNoIndented(t, zeroElements(299)+"- [", impl.FtMany, 300)
	wantNoIndented(t, zeroElements(299)+"-\n  [", impl.FtMany, 301)
	wantNoIndented(t, zeroPairs(299)+"z: [", impl.FtMany, 300)
	wantNoIndented(t, zeroPairs(299)+"z: a: b", impl.FtMany, 300)
	// FtDeep ahead of FtMany.
	many := strings.Repeat("- ", 7) + "0\n" + strings.Repeat(spaces(12)+"- 0\n", 291)
	wantIndented(t, many+"- 0", listOf(inLists(5, zeroList(292)), intOf(0)))
	for _, text := range []string{"1", "[", "", wide + ": 1"} {
		wantNoIndented(t, many+spaces(12)+"- - "+text, impl.FtDeep, 293)
		wantNoIndented(t, many+spaces(12)+"- 0\n"+spaces(12)+"- - "+text, impl.FtMany, 294)
	}
	wantNoIndented(t, many+spaces(12)+"- -\n"+spaces(18)+"1", impl.FtDeep, 294)
	// A line that continues nothing is no value that is one too many.
	wantNoIndented(t, zeroElements(299)+"x", impl.FtForm, 300)
	wantNoIndented(t, zeroElements(299)+"  - 1", impl.FtForm, 300)
	wantNoIndented(t, zeroElements(299)+"a: 1", impl.FtForm, 300)
	wantNoIndented(t, zeroPairs(299)+"- 1", impl.FtForm, 300)
	wantNoIndented(t, zeroPairs(299)+" k150: 1", impl.FtForm, 300)
	wantNoIndented(t, "a: 1\n  a: 2", impl.FtForm, 2)
	wantNoIndented(t, "a:\n    b: 1\n  b: 2", impl.FtForm, 3)
	wantNoIndented(t, "- a: 1\n "+wide+": 2", impl.FtForm, 2)
	// In an indented first line nothing else counts.
	wantNoIndented(t, " "+strings.Repeat("- ", 8)+"1", impl.FtForm, 1)
	wantNoIndented(t, " "+wide+": [", impl.FtForm, 1)
	wantNoIndented(t, " a: 1\n a: 2", impl.FtForm, 1)
}

// A fault of LinesIn comes first wherever it is.
func TestReadIndentedOfFaultsOfLinesAheadOfOthers(t *testing.T) {
	texts := append(faultyTexts(), faultyText{"", 4, 1})
	for _, text := range indentedTexts() {
		texts = append(texts, faultyText{text, 0, 0})
	}
	for _, f := range texts {
		lines := 1 + strings.Count(f.text, "\n")
		for _, control := range controlBytes() {
			wantNoIndented(t, f.text+"\n"+control, impl.FtSign, lines+1)
			wantNoIndented(t, f.text+control+"\n\t", impl.FtSign, lines)
			wantNoIndented(t, "\n"+control+"\n"+f.text, impl.FtSign, 2)
			wantNoIndented(t, f.text+"\n# a"+control, impl.FtSign, lines+1)
			wantNoIndented(t, f.text+"\n"+control+"\n\xff", impl.FtUtf8, len(f.text)+3)
		}
		wantNoIndented(t, f.text+"\xff", impl.FtUtf8, len(f.text))
		wantNoIndented(t, "\xe2\x82\n"+f.text, impl.FtUtf8, 0)
		wantNoIndented(t, f.text+"\n# \xc3", impl.FtUtf8, len(f.text)+3)
		wantNoIndented(t, f.text+"\n"+spaces(20000-len(f.text)), impl.FtLong, 0)
		wantNoIndented(t, f.text+"\n\t\xff"+spaces(20000), impl.FtLong, 0)
		wantNoIndented(t, f.text+"\n"+spaces(19998-len(f.text))+"\xff", impl.FtUtf8, 19999)
		wantNoIndented(t, f.text+"\n"+spaces(19998-len(f.text))+"\t", impl.FtSign, lines+1)
		if f.code != 0 && f.text != "" {
			wantNoIndented(t, f.text+"\n"+spaces(19999-len(f.text)), f.code, f.at)
		}
	}
}

func TestIndentedLinesOfKnownTrees(t *testing.T) {
	one, two, null := intOf(1), intOf(2), nullOf()
	wantIndentedLines(t, null, "null")
	wantIndentedLines(t, flagOf(true), "true")
	wantIndentedLines(t, flagOf(false), "false")
	wantIndentedLines(t, intOf(0), "0")
	wantIndentedLines(t, intOf(-12), "-12")
	wantIndentedLines(t, intOf(math.MaxInt), "9223372036854775807")
	wantIndentedLines(t, intOf(math.MinInt), "-9223372036854775808")
	wantIndentedLines(t, textOf("a b"), "a b")
	wantIndentedLines(t, textOf(""), `""`)
	wantIndentedLines(t, textOf("a: b"), `"a: b"`)
	wantIndentedLines(t, textOf("a\nb"), `"a\nb"`)
	wantIndentedLines(t, textOf("- 1\n- 2"), `"- 1\n- 2"`)
	wantIndentedLines(t, listOf(), "[]")
	wantIndentedLines(t, mapOf(""), "{}")
	wantIndentedLines(t, impl.Tree{Kind: 5, Keys: []string{}, Kids: []impl.Tree{}}, "[]")
	wantIndentedLines(t, impl.Tree{Kind: 6, Keys: []string{}, Kids: []impl.Tree{}}, "{}")
	wantIndentedLines(t, listOf(one, textOf("a"), null, listOf(), mapOf("")), "- 1", "- a", "- null", "- []", "- {}")
	wantIndentedLines(t, mapOf("a b c d", one, null, listOf(), mapOf("")), "a: 1", "b: null", "c: []", "d: {}")
	// lists in lists
	wantIndentedLines(t, listOf(listOf(one, two), one), "- - 1", "  - 2", "- 1")
	wantIndentedLines(t, listOf(listOf(listOf(one, two), listOf(one)), listOf(listOf())), "- - - 1", "    - 2", "  - - 1", "- - []")
	// maps in lists
	wantIndentedLines(t, listOf(mapOf("a b", one, two), mapOf("c", null)), "- a: 1", "  b: 2", "- c: null")
	wantIndentedLines(t, listOf(one, mapOf("a b", listOf(one, two), two)), "- 1", "- a:", "    - 1", "    - 2", "  b: 2")
	// lists in maps
	wantIndentedLines(t, mapOf("a b", listOf(one, two), one), "a:", "  - 1", "  - 2", "b: 1")
	wantIndentedLines(t, mapOf("a", listOf(listOf(one), mapOf("b c", textOf("x"), listOf()))), "a:", "  - - 1", "  - b: x", "    c: []")
	// maps in maps
	wantIndentedLines(t, mapOf("a d", mapOf("b c", one, two), one), "a:", "  b: 1", "  c: 2", "d: 1")
	wantIndentedLines(t, mapOf("a", mapOf("b", mapOf("c", mapOf("d", one)))), "a:", "  b:", "    c:", "      d: 1")
	// keys and strings that are quoted
	quoted := impl.Tree{Kind: 6, Keys: []string{"", "\n", "-", "1", "a b", "a: b", "null", "\xc3\xa9"}, Kids: []impl.Tree{textOf("1"), textOf("null"), listOf(textOf("- a"), textOf("a b")), mapOf("12", textOf("a # b")), textOf(" a"), textOf("\""), textOf("[]"), textOf("\xc3\xa9")}}
	wantIndentedLines(t, quoted, `"": "1"`, `"\n": "null"`, `"-":`, `  - "- a"`, `  - a b`, `"1":`, `  "12": "a # b"`, `a b: " a"`, `"a: b": "\""`, `"null": "[]"`, "\xc3\xa9: \xc3\xa9")
	wantIndentedLines(t, listOf(listOf(quoted), textOf("~")), `- - "": "1"`, `    "\n": "null"`, `    "-":`, `      - "- a"`, `      - a b`, `    "1":`, `      "12": "a # b"`, `    a b: " a"`, `    "a: b": "\""`, `    "null": "[]"`, "    \xc3\xa9: \xc3\xa9", `- "~"`)
	// the greatest depth
	wantIndentedLines(t, inLists(7, null), "- - - - - - - null")
	wantIndentedLines(t, inLists(6, listOf(one, two)), "- - - - - - - 1", "            - 2")
	wantIndentedLines(t, inMaps(7, listOf()), "k:", "  k:", "    k:", "      k:", "        k:", "          k:", "            k: []")
	wantIndentedLines(t, inLists(3, inMaps(4, one)), "- - - k:", "        k:", "          k:", "            k: 1")
}

func TestIndentedLinesOfValidTrees(t *testing.T) {
	for _, tree := range goodTrees() {
		wantIndentedLinesAsDocumented(t, tree)
		// Slices without elements are the same as none.
		wantIndentedLinesAsDocumented(t, roomy(tree))
		for _, other := range []impl.Tree{listOf(tree, nullOf(), tree), mapOf("a b c", tree, nullOf(), tree), listOf(mapOf("a b", tree, tree)), mapOf("a", listOf(nullOf(), tree))} {
			wantIndentedLinesAsDocumented(t, other)
		}
	}
	for s, quoted := range otherStrings() {
		if len(s) <= 400 {
			wantIndentedLines(t, listOf(textOf(s), impl.Tree{Kind: 6, Keys: []string{s}, Kids: []impl.Tree{listOf(textOf(s))}}), "- "+quoted, "- "+quoted+":", "    - "+quoted)
		}
	}
	for _, s := range plainStrings() {
		wantIndentedLines(t, listOf(textOf(s), impl.Tree{Kind: 6, Keys: []string{s}, Kids: []impl.Tree{textOf(s)}}), "- "+s, "- "+s+": "+s)
	}
}

func TestIndentedLinesOfTreesThatAreNotValid(t *testing.T) {
	wantNoIndentedLines(t, impl.Tree{}, impl.Tree{Kind: 7}, impl.Tree{Kind: -1}, mapOf("a"), mapOf("", nullOf()), mapOf("b a", nullOf(), nullOf()), listOf(impl.Tree{}), mapOf("a", impl.Tree{}))
	for _, tree := range badTrees() {
		wantNoIndentedLines(t, tree, listOf(nullOf(), tree), mapOf("a b", nullOf(), tree))
	}
	for _, tree := range goodTrees() {
		if sizeOfTree(tree) > 50 {
			continue
		}
		for _, other := range oneFieldChanged(tree) {
			wantIndentedLinesAsDocumented(t, other)
			wantIndentedLinesAsDocumented(t, listOf(nullOf(), other))
			wantIndentedLinesAsDocumented(t, mapOf("a b", other, nullOf()))
		}
	}
}

// A tree may contain itself, or be far deeper than the stack.
func TestIndentedLinesOfTreesWithoutEnd(t *testing.T) {
	defer debug.SetMaxStack(debug.SetMaxStack(1 << 23))
	loop := listOf(nullOf())
	loop.Kids[0] = loop
	pairs := mapOf("a", nullOf())
	pairs.Kids[0] = pairs
	for _, tree := range []impl.Tree{loop, pairs, inLists(300000, nullOf()), inMaps(300000, nullOf())} {
		if lines, text := impl.IndentedLines(tree), impl.IndentedText(tree); len(lines) != 0 || text != "" {
			t.Errorf("IndentedLines of a tree without end = %.200q, IndentedText %.120q; want nothing", lines, text)
		}
	}
}

// filledLines is a list of strings of this piece, and of letters where no more of them fit, whose text has this many bytes.
func filledLines(t *testing.T, size int, piece string) impl.Tree {
	t.Helper()
	long := textOf(strings.Repeat(piece, 400/len(piece)))
	added := len(textByWords(listOf(long)))
	tree := listOf(long)
	// An element has at least four bytes, with its hyphen, a space and a newline.
	for rest := size - added; rest > 0; rest = size - len(textByWords(tree)) {
		next := long
		if rest != added && rest < added+4 {
			next = textOf(strings.Repeat("a", rest-3))
			if rest > 393 {
				next = textOf(strings.Repeat("a", 386))
			}
		}
		tree.Kids = append(tree.Kids, next)
	}
	if !validTree(tree) || len(textByWords(tree)) != size {
		t.Fatalf("the test has a tree with %d bytes of text in place of %d", len(textByWords(tree)), size)
	}
	return tree
}

func TestIndentedTextAtTheLimitOfLength(t *testing.T) {
	for _, piece := range []string{"a", "\n", "\x01", `"`, " ", "\xc3\xa9", "\xf0\x9f\x98\x80"} {
		for size := 19997; size <= 20003; size++ {
			tree := filledLines(t, size, piece)
			wantIndentedLinesAsDocumented(t, tree)
			if size > 20000 {
				wantNoIndented(t, textByWords(tree), impl.FtLong, 0)
			} else {
				wantIndented(t, textByWords(tree), tree)
			}
		}
	}
	// The limit is one of the whole text, with its keys, marks, indentation and newlines.
	pairs := mapOf("")
	for i := range 40 {
		pairs.Keys = append(pairs.Keys, fmt.Sprintf("%02d", i)+strings.Repeat("k", 398))
		pairs.Kids = append(pairs.Kids, listOf(textOf(strings.Repeat("v", 92))))
	}
	pairs.Kids[39].Kids[0].Text += strings.Repeat("v", 20000-len(textByWords(pairs)))
	if text := impl.IndentedText(pairs); text != textByWords(pairs) || len(text) != 20000 {
		t.Errorf("IndentedText of a map = %.60q of %d bytes; want 20000 bytes", text, len(text))
	}
	wantIndented(t, textByWords(pairs), pairs)
	pairs.Kids[39].Kids[0].Text += "v"
	wantIndentedLinesAsDocumented(t, pairs)
	if text := impl.IndentedText(pairs); text != "" {
		t.Errorf("IndentedText of a map with a text of 20001 bytes has %d bytes; want none", len(text))
	}
	// IndentedLines has no such limit.
	controls := listOf(slices.Repeat([]impl.Tree{textOf(strings.Repeat("\x01", 400))}, 299)...)
	wantIndentedLinesAsDocumented(t, controls)
	if lines := impl.IndentedLines(controls); len(lines) != 299 || impl.IndentedText(controls) != "" {
		t.Errorf("IndentedLines of long strings has %d lines, or IndentedText is not empty", len(lines))
	}
}

func TestIndentedNormal(t *testing.T) {
	for text, want := range map[string]string{
		"~": "null\n", "null": "null\n", " \ntrue # a": "true\n", "-0": "0\n", `"a"`: "a\n", `"12"`: "\"12\"\n", `"\u0041\/\u000a"`: "\"A/\\n\"\n", `"\ud83d\ude00"`: "\xf0\x9f\x98\x80\n", "[]": "[]\n", "{}  ": "{}\n", "-": "- null\n", "-\n-": "- null\n- null\n", "a:": "a: null\n", "-   1": "- 1\n",
		"-\n - 1\n - 2": "- - 1\n  - 2\n", "-\n    a: 1\n    b: 2": "- a: 1\n  b: 2\n", "b: 2\na: 1": "a: 1\nb: 2\n", "b:\n     - 1\n\n     # c\n     - 2\na:\n c: 1": "a:\n  c: 1\nb:\n  - 1\n  - 2\n", "\"a\":\n  1": "a: 1\n", `"a:": "b"`: "\"a:\": b\n", "-    -    -    1": "- - - 1\n", "a:\n []": "a: []\n", "-\n {}": "- {}\n", "a:\n  - 1\n  - b: x\n    c: []\n": "a:\n  - 1\n  - b: x\n    c: []\n",
	} {
		for _, input := range []string{text, want} {
			if got, fault := impl.IndentedNormal(input); got != want || fault != (impl.Fault{}) {
				t.Errorf("IndentedNormal(%q) = %q, %v; want %q, no fault", input, got, fault, want)
			}
		}
	}
	for text, want := range map[string]impl.Fault{"": {Code: 4, At: 1}, "# a\n": {Code: 4, At: 2}, " a": {Code: 4, At: 1}, "a: 1\n  b: 2": {Code: 4, At: 2}, "a: 1\na: 2": {Code: 5, At: 2}, strings.Repeat("- ", 8) + "1": {Code: 6, At: 1}, zeroElements(300): {Code: 7, At: 300}, `"` + strings.Repeat("a", 401) + `":`: {Code: 8, At: 1}, "a\n\t": {Code: 3, At: 2}, "a\xff": {Code: 2, At: 1}, spaces(20001): {Code: 1}} {
		if got, fault := impl.IndentedNormal(text); got != "" || fault != want {
			t.Errorf("IndentedNormal(%.40q) = %q, %v; want nothing, %v", text, got, fault, want)
		}
		if got, fault := impl.Crossed(text); got != "" || fault != want {
			t.Errorf("Crossed(%.40q) = %q, %v; want nothing, %v", text, got, fault, want)
		}
		if impl.IndentedOk(text) {
			t.Errorf("IndentedOk(%.40q) = true; want false", text)
		}
	}
}

// A text may be shorter than the canonical one of its tree, which is then too long.
func TestIndentedNormalOfTextsThatGrow(t *testing.T) {
	for size := 19996; size <= 20000; size++ {
		text := strings.TrimSuffix(textByWords(filledLines(t, size+1, "a")), "\n")
		normal, fault := impl.IndentedNormal(text)
		if normal != limited(text+"\n") || fault != (impl.Fault{}) || !impl.IndentedOk(text) {
			t.Errorf("IndentedNormal of %d bytes without a newline has %d bytes and the fault %v", size, len(normal), fault)
		}
	}
	text := "-\n" + textByWords(filledLines(t, 19997, "a"))
	if normal, fault := impl.IndentedNormal(text); normal != "" || fault != (impl.Fault{}) || !impl.IndentedOk(text) {
		t.Errorf("IndentedNormal of a text that grows has %d bytes and the fault %v; want none", len(normal), fault)
	}
}

func TestCrossed(t *testing.T) {
	for text, want := range map[string]string{
		"~": "null", "true  # a": "true", "-0": "0", "a b": `"a b"`, `"a\u000ab"`: `"a\nb"`, "[]": "[]", "{}": "{}", "-": "[null]", "a:": `{"a":null}`, "- 1\n- a": `[1,"a"]`, "b: 2\na: 1": `{"a":1,"b":2}`, "- - 1\n  - 2\n- []": "[[1,2],[]]", "- a: 1\n  b: x\n- {}": `[{"a":1,"b":"x"},{}]`, "a:\n  - 1\n  - b: x\n    c: []\n": `{"a":[1,{"b":"x","c":[]}]}`, `"a: b": "- c"`: `{"a: b":"- c"}`, "500m": `"500m"`, "k: 1.5": `{"k":"1.5"}`,
	} {
		if got, fault := impl.Crossed(text); got != want || fault != (impl.Fault{}) {
			t.Errorf("Crossed(%q) = %q, %v; want %q, no fault", text, got, fault, want)
		}
	}
}

// The text of a map is longer in the braced format, which has quotes in it.
func TestCrossedOfTreesWhoseBracedTextIsTooLong(t *testing.T) {
	for size := 19998; size <= 20003; size++ {
		tree := mapOf("")
		for i := range 60 {
			tree.Keys = append(tree.Keys, fmt.Sprintf("k%02d", i))
			tree.Kids = append(tree.Kids, textOf(strings.Repeat("v", 320)))
		}
		rest := size - len(bracedTextByWords(tree))
		for i := range 60 {
			more := min(80, rest)
			tree.Kids[i].Text += strings.Repeat("v", more)
			rest -= more
		}
		text := textByWords(tree)
		if len(text) > 20000 || len(bracedTextByWords(tree)) != size {
			t.Fatalf("the test has a text of %d bytes, and one of %d", len(text), len(bracedTextByWords(tree)))
		}
		wantIndented(t, text, tree)
		if got, fault := impl.Crossed(text); (got == "") != (size > 20000) || fault != (impl.Fault{}) {
			t.Errorf("Crossed of a tree with a text of %d bytes has %d bytes and the fault %v", size, len(got), fault)
		}
	}
}

func TestIndentedOk(t *testing.T) {
	for text, want := range map[string]bool{"": false, " ": false, "# a": false, "1": true, "null": true, "[]": true, "{}": true, "-": true, "a:": true, "- 1\n- 2": true, "- 1\n2": false, "a: 1\nb: 2": true, "a: 1\na: 2": false, "a: 1\n  b: 2": false, "a:\n  b: 2": true, "a:\n- b": false, " a": false, "a: [1]": false, "a\tb": false, "\xff": false, strings.Repeat("- ", 7) + "1": true, strings.Repeat("- ", 8) + "1": false, zeroElements(299): true, zeroElements(300): false,
		"1" + spaces(19999): true, "1" + spaces(20000): false, strings.Repeat("a", 400): true, strings.Repeat("a", 401): false, `"` + strings.Repeat("a", 400) + `": 1`: true, `"` + strings.Repeat("a", 401) + `": 1`: false} {
		if got := impl.IndentedOk(text); got != want {
			t.Errorf("IndentedOk(%.40q of %d bytes) = %v; want %v", text, len(text), got, want)
		}
	}
}

// wantParsedFromBothTexts checks the promise for a valid tree.
func wantParsedFromBothTexts(t *testing.T, tree impl.Tree) {
	t.Helper()
	text, braced := impl.IndentedText(tree), impl.BracedText(tree)
	if (text == "") != (len(textByWords(tree)) > 20000) || (braced == "") != (len(bracedTextByWords(tree)) > 20000) {
		t.Errorf("IndentedText and BracedText of %s have %d and %d bytes", brief(tree), len(text), len(braced))
	}
	if text != "" {
		wantIndented(t, text, tree)
		wantIndented(t, strings.TrimSuffix(text, "\n"), tree)
	}
	if braced != "" {
		wantBraced(t, braced, tree)
	}
	if text == "" || braced == "" {
		return
	}
	first, _ := impl.ReadIndented(text)
	second, _ := impl.ReadBraced(braced)
	if !impl.SameTree(first, second) || impl.IndentedText(second) != text || impl.BracedText(first) != braced {
		t.Errorf("the two texts of %s mean %s and %s", brief(tree), brief(first), brief(second))
	}
}

func TestTreesAreParsedFromBothTexts(t *testing.T) {
	for _, tree := range goodTrees() {
		wantParsedFromBothTexts(t, tree)
	}
	for _, s := range append(quotableStrings(), plainStrings()...) {
		if len(s) <= 400 {
			pair := impl.Tree{Kind: 6, Keys: []string{s}, Kids: []impl.Tree{textOf(s)}}
			for _, tree := range []impl.Tree{textOf(s), listOf(textOf(s)), pair, listOf(pair, pair), mapOf("k", pair), {Kind: 6, Keys: []string{s}, Kids: []impl.Tree{listOf(pair, textOf(s))}}} {
				wantParsedFromBothTexts(t, tree)
			}
		}
	}
	for s := range otherStrings() {
		pair := impl.Tree{Kind: 6, Keys: []string{s}, Kids: []impl.Tree{listOf(textOf(s), nullOf())}}
		wantParsedFromBothTexts(t, pair)
		wantParsedFromBothTexts(t, listOf(listOf(pair), textOf(s)))
	}
	for _, n := range append(edgeInts(), math.MinInt, math.MaxInt) {
		wantParsedFromBothTexts(t, listOf(intOf(n), mapOf("k", intOf(-n))))
	}
}

// Strings of the marks of the format are strings and keys like others.
func TestTreesOfMarksAreParsedFromBothTexts(t *testing.T) {
	for _, s := range textsOf(4, `"`, "#", `\`, " ", ":", "-", "1", "\n", "[") {
		pair := impl.Tree{Kind: 6, Keys: []string{s}, Kids: []impl.Tree{textOf(s)}}
		text := impl.IndentedText(listOf(textOf(s), pair))
		if got, fault := impl.ReadIndented(text); !equalTrees(got, listOf(textOf(s), pair)) || fault != (impl.Fault{}) {
			t.Errorf("ReadIndented(%q) = %s, %v; want %q as an element, key and value", text, brief(got), fault, s)
		}
	}
}

// loosenedScalar is a text for a value without kids, other than the canonical one if possible.
func loosenedScalar(r *rand.Rand, t impl.Tree) string {
	text, _ := scalarTextByWords(t)
	switch {
	case t.Kind == 1:
		return []string{"null", "~"}[r.Intn(2)]
	case t.Kind == 3 && t.Num == 0:
		return []string{"0", "-0"}[r.Intn(2)]
	case t.Kind == 4 && r.Intn(2) == 0:
		return loosenedString(r, t.Text)
	}
	return text
}

func indentedBy(count int, lines []string) []string {
	list := []string{}
	for _, line := range lines {
		list = append(list, spaces(count)+line)
	}
	return list
}

// loosenedLines have other indentations and orders of keys than the canonical lines, absent values, and values below a hyphen or key.
func loosenedLines(r *rand.Rand, t impl.Tree) []string {
	if len(t.Kids) == 0 {
		return []string{loosenedScalar(r, t)}
	}
	parts := [][]string{}
	for i, kid := range t.Kids {
		if t.Kind == 5 {
			parts = append(parts, loosenedElement(r, kid))
		} else {
			parts = append(parts, loosenedPair(r, t.Keys[i], kid))
		}
	}
	if t.Kind == 6 {
		r.Shuffle(len(parts), func(i, j int) { parts[i], parts[j] = parts[j], parts[i] })
	}
	return slices.Concat(parts...)
}

func loosenedElement(r *rand.Rand, kid impl.Tree) []string {
	lines, gap := loosenedLines(r, kid), 1+r.Intn(3)
	if kid.Kind == 1 && r.Intn(2) == 0 {
		return []string{"-"}
	}
	if r.Intn(3) == 0 {
		return append([]string{"-"}, indentedBy(gap, lines)...)
	}
	lines = indentedBy(gap+1, lines)
	lines[0] = "-" + lines[0][1:]
	return lines
}

func loosenedPair(r *rand.Rand, key string, kid impl.Tree) []string {
	lines, gap := loosenedLines(r, kid), 1+r.Intn(3)
	text := keyTextByWords(key)
	if r.Intn(2) == 0 {
		text = loosenedString(r, key)
	}
	if kid.Kind == 1 && r.Intn(2) == 0 {
		return []string{text + ":"}
	}
	if len(kid.Kids) == 0 && r.Intn(3) > 0 {
		return []string{text + ":" + spaces(gap) + lines[0]}
	}
	return append([]string{text + ":"}, indentedBy(gap, lines)...)
}

// loosenedText is a text of t with comments, empty lines and trailing spaces.
func loosenedText(r *rand.Rand, t impl.Tree) string {
	text := ""
	for _, line := range loosenedLines(r, t) {
		if r.Intn(5) == 0 {
			text += []string{"", "   ", "# a", "   # b: 1"}[r.Intn(4)] + "\n"
		}
		text += line + []string{"", "", " ", "  # a", ` # "`}[r.Intn(5)] + "\n"
	}
	return text[:len(text)-r.Intn(2)]
}

func TestRandomTreesAreParsedFromBothTexts(t *testing.T) {
	r := rand.New(rand.NewSource(13))
	count, bad := 0, badStrings()
	for range 4000 {
		tree := randomTree(r, r.Intn(9))
		if !validTree(tree) {
			wantNoIndentedLines(t, tree)
			continue
		}
		wantIndentedLinesAsDocumented(t, tree)
		wantParsedFromBothTexts(t, tree)
		if loose := loosenedText(r, tree); len(loose) <= 20000 {
			count++
			wantIndented(t, loose, tree)
		}
		other := roomy(tree)
		spoil(r, &other, bad)
		wantIndentedLinesAsDocumented(t, other)
	}
	if count < 2000 {
		t.Errorf("only %d of 4000 random trees have a text", count)
	}
}

func TestAllShortTextsAsDocumented(t *testing.T) {
	lists := []struct {
		count   int
		indents []int
		texts   []string
	}{
		{2, []int{0, 1, 2, 3, 4}, []string{"- a", "-", "k:", "j: 1", "x", "- k: 1", "- -", "-  j:"}},
		{3, []int{0, 1, 2, 4}, []string{"-", "- k:", "k:", "j: 1"}},
		{3, []int{0, 2, 3, 4}, []string{"- - 1", "- 1", "1", "-  -"}},
		{4, []int{0, 1, 2}, []string{"-", "k:", "l:"}},
	}
	for _, list := range lists {
		pieces := []string{}
		for _, indent := range list.indents {
			for _, text := range list.texts {
				pieces = append(pieces, "\n"+spaces(indent)+text)
			}
		}
		faults := map[int]int{}
		for _, first := range list.texts {
			for _, rest := range textsOf(list.count, pieces...) {
				faults[wantIndentedAsDocumented(t, first+rest)]++
			}
		}
		if faults[0] < 300 || faults[4] < 300 {
			t.Errorf("of all short texts of %q, %v have each code", list.texts, faults)
		}
	}
}

// damagedLines has one line more or less, or another line in a place, and an empty line at the end.
func damagedLines(r *rand.Rand, lines []string) []string {
	pieces := []string{"-", "- 1", "a:", "b: 1", "- a: 1", "x", "[", "- -", `"c": ~`, "", "# d", "a: a: b", "-  - 1", "{}", "k: -"}
	list := slices.Clone(lines)
	i := r.Intn(len(list))
	switch r.Intn(6) {
	case 0:
		list[i] = spaces(1+r.Intn(2)) + list[i]
	case 1:
		list[i] = strings.TrimPrefix(list[i], spaces(1+r.Intn(2)))
	case 2:
		list = slices.Delete(list, i, i+1)
	case 3:
		list = slices.Insert(list, r.Intn(len(list)+1), list[i])
	case 4:
		list = slices.Insert(list, i, spaces(max(0, indentByWords(list[i])+r.Intn(4)-1))+pieces[r.Intn(len(pieces))])
	case 5:
		list[i] = spaces(indentByWords(list[i])) + pieces[r.Intn(len(pieces))]
	}
	return append(list, "")
}

// smallTree has short keys and values.
func smallTree(r *rand.Rand, depth int) impl.Tree {
	if depth == 0 || r.Intn(4) == 0 {
		return []impl.Tree{nullOf(), intOf(1), textOf("x"), listOf(), mapOf(""), textOf("- 1"), flagOf(true)}[r.Intn(7)]
	}
	t := impl.Tree{Kind: 5 + r.Intn(2)}
	for i := range 1 + r.Intn(3) {
		if t.Kind == 6 {
			t.Keys = append(t.Keys, []string{"a", "b", "c: "}[i])
		}
		t.Kids = append(t.Kids, smallTree(r, depth-1))
	}
	return t
}

func TestRandomIndentedTextsAsDocumented(t *testing.T) {
	r := rand.New(rand.NewSource(131))
	faults := map[int]int{}
	for range 12000 {
		lines := strings.Split(loosenedText(r, smallTree(r, r.Intn(10))), "\n")
		for range r.Intn(3) {
			lines = damagedLines(r, lines)
		}
		faults[wantIndentedAsDocumented(t, strings.Join(lines, "\n"))]++
	}
	for _, code := range []int{0, impl.FtForm, impl.FtTwice, impl.FtDeep} {
		if faults[code] < 200 {
			t.Errorf("only %d of 12000 random texts have the code %d", faults[code], code)
		}
	}
}

func TestRandomLinesTogetherAsDocumented(t *testing.T) {
	r := rand.New(rand.NewSource(1313))
	texts := []string{"-", "- 1", "- - 1", "- a: 1", "-  b:", "a:", "b:", "c: 1", `"a": x`, "x", "- -", "", "# a"}
	faults := map[int]int{}
	for range 20000 {
		lines, indent := []string{texts[r.Intn(len(texts))]}, 0
		for range r.Intn(12) {
			indent = max(0, indent+r.Intn(6)-2)
			lines = append(lines, spaces(indent)+texts[r.Intn(len(texts))])
		}
		faults[wantIndentedAsDocumented(t, strings.Join(lines, "\n"))]++
	}
	if faults[0] < 500 || faults[4] < 500 {
		t.Errorf("of 20000 texts of random lines, %v have each code", faults)
	}
}

func TestReadIndentedSharesNoMemory(t *testing.T) {
	texts := append(indentedTexts(), zeroPairs(299), zeroElements(299), inMarks(7, "k:", "[]"), inMarks(7, "-", "{}"), strings.Repeat("- a: 1\n  b: 2\n", 80))
	for _, tree := range goodTrees() {
		texts = append(texts, limited(textByWords(tree)))
	}
	for _, text := range texts {
		first, _ := impl.ReadIndented(text)
		second, _ := impl.ReadIndented(text)
		want, _ := indentedByWords(text)
		if shareMemory([]impl.Tree{first, second}, nil) {
			t.Errorf("two results of ReadIndented(%.80q) share memory", text)
		}
		overwrite(&first)
		if !equalTrees(second, want) {
			t.Errorf("a change of one result of ReadIndented(%.80q) changed the other one to %s", text, brief(second))
		}
		wantIndentedAsDocumented(t, text)
	}
}

func TestIndentedLinesShareNoMemory(t *testing.T) {
	for _, tree := range goodTrees() {
		first, second := impl.IndentedLines(tree), impl.IndentedLines(tree)
		if overlap(spanOf(first), spanOf(second)) {
			t.Errorf("two results of IndentedLines(%s) share memory", brief(tree))
		}
		first = first[:cap(first)]
		for i := range first {
			first[i] = "changed"
		}
		if !slices.Equal(second, linesOf(tree, "", "")) {
			t.Errorf("a change of one result of IndentedLines(%s) changed the other one to %.200q", brief(tree), second)
		}
		wantIndentedLinesAsDocumented(t, tree)
	}
}

func TestIndentedLinesKeepTheirArgument(t *testing.T) {
	for _, tree := range allTrees() {
		wantNewMemory(t, "IndentedLines", func(args []impl.Tree) []impl.Tree {
			lines := impl.IndentedLines(args[0])
			for i := range lines {
				lines[i] = "changed"
			}
			impl.IndentedText(args[0])
			return nil
		}, roomy(tree))
	}
}

// The bytes of the arguments lie in a slice here, so that a change would be seen.
func TestIndentedFunctionsKeepTheirArguments(t *testing.T) {
	for _, text := range append(indentedTexts(), "", "[", "a: 1\n  b: 2", "a: 1\na: 2", "\xff", "a\tb", "- 1 # a\n\n- \"b\\n\"  ", strings.Repeat("- ", 9)) {
		kept := append([]byte(text), "spare"...)
		arg := unsafe.String(unsafe.SliceData(kept), len(text))
		impl.ReadIndented(arg)
		impl.IndentedNormal(arg)
		impl.IndentedOk(arg)
		impl.Crossed(arg)
		if string(kept) != text+"spare" {
			t.Errorf("the argument %q was changed to %q", text+"spare", kept)
		}
	}
}

// manyLines are texts of many lines, with a fault in one of them or none.
func manyLines() []string {
	list := []string{}
	for _, f := range faultyTexts() {
		list = append(list, f.text, f.text+"\n"+strings.Repeat("- a\n", 3000), zeroElements(290)+"- "+strings.ReplaceAll(f.text, "\n", "\n  ")+"\n"+strings.Repeat("x\n", 1000))
	}
	return append(list, "", "# a\n", " a\n"+zeroElements(3000), "a\n\tb\n", "a\xff\nb", zeroElements(299), zeroPairs(299), strings.Repeat("\n", 20000), strings.Repeat("a\n", 10001))
}

// A goroutine that waits forever makes synctest.Test panic.
func TestReadIndentedLeavesNoGoroutine(t *testing.T) {
	for _, text := range append(manyLines(), indentedTexts()...) {
		synctest.Test(t, func(t *testing.T) { wantIndentedAsDocumented(t, text) })
	}
}

func TestReadIndentedOfSeveralTextsAtOnce(t *testing.T) {
	calls := sync.WaitGroup{}
	for _, text := range append(manyLines(), indentedTexts()...) {
		calls.Go(func() {
			for range 3 {
				wantIndentedAsDocumented(t, text)
			}
		})
	}
	calls.Wait()
}
