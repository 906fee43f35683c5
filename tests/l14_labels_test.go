package tests

import (
	"math/rand"
	"regexp"
	"slices"
	"strings"
	"testing"
	"unsafe"

	"loop.example/g00968/impl"
)

// The following expressions and functions say what the document says.

var (
	nameWords       = regexp.MustCompile(`\A[a-z0-9]([-a-z0-9]{0,18}[a-z0-9])?\z`)
	labelKeyWords   = regexp.MustCompile(`\A[a-zA-Z0-9]([-_./a-zA-Z0-9]{0,28}[a-zA-Z0-9])?\z`)
	labelValueWords = regexp.MustCompile(`\A([a-zA-Z0-9]([-_.a-zA-Z0-9]{0,18}[a-zA-Z0-9])?)?\z`)
)

// A wordKind is one of the three kinds of words, with the function that checks it.
type wordKind struct {
	name    string
	ok      func(string) bool
	words   *regexp.Regexp
	most    int
	letters string
	marks   string
}

func wordKinds() []wordKind {
	small, digits := "abcdefghijklmnopqrstuvwxyz", "0123456789"
	all := small + strings.ToUpper(small) + digits
	return []wordKind{
		{"NameOk", impl.NameOk, nameWords, 20, small + digits, "-"},
		{"LabelKeyOk", impl.LabelKeyOk, labelKeyWords, 30, all, "-_./"},
		{"LabelValueOk", impl.LabelValueOk, labelValueWords, 20, all, "-_."},
	}
}

func labelsByWords(list []impl.Label) bool {
	for i, label := range list {
		if !labelKeyWords.MatchString(label.Key) || !labelValueWords.MatchString(label.Value) {
			return false
		}
		for _, next := range list[i+1:] {
			if next.Key <= label.Key {
				return false
			}
		}
	}
	return len(list) <= 6
}

// sortedByWords inserts each label behind those with a smaller key.
func sortedByWords(list []impl.Label) ([]impl.Label, bool) {
	sorted := []impl.Label{}
	for _, label := range list {
		at := 0
		for at < len(sorted) && sorted[at].Key < label.Key {
			at++
		}
		sorted = slices.Insert(sorted, at, label)
	}
	if !labelsByWords(sorted) {
		return list, false
	}
	return sorted, true
}

func labelsLineByWords(list []impl.Label) string {
	if !labelsByWords(list) {
		return ""
	}
	line := ""
	for _, label := range list {
		line += "," + label.Key + "=" + label.Value
	}
	if line == "" {
		return "-"
	}
	return line[1:]
}

// readLabelsByWords goes through a line byte by byte.
func readLabelsByWords(s string) ([]impl.Label, bool) {
	if s == "-" {
		return nil, true
	}
	list, label, inValue := []impl.Label{}, impl.Label{}, false
	for _, b := range []byte(s + ",") {
		switch {
		case b == ',' && inValue:
			list = append(list, label)
			label, inValue = impl.Label{}, false
		case b == '=' && !inValue:
			inValue = true
		case b == ',' || b == '=':
			return nil, false
		case inValue:
			label.Value += string([]byte{b})
		default:
			label.Key += string([]byte{b})
		}
	}
	return list, labelsByWords(list)
}

// labelsOf takes the keys and values in turn.
func labelsOf(words ...string) []impl.Label {
	list := []impl.Label{}
	for i := 0; i < len(words); i += 2 {
		list = append(list, impl.Label{Key: words[i], Value: words[i+1]})
	}
	return list
}

// numbered are count labels, k0 to k8 with the values v0 to v8.
func numbered(count int) []impl.Label { return slices.Clone(numberedLabels[:count]) }

var numberedLabels = labelsOf("k0", "v0", "k1", "v1", "k2", "v2", "k3", "v3", "k4", "v4", "k5", "v5", "k6", "v6", "k7", "v7", "k8", "v8")

// withLabel is list with another label at one index.
func withLabel(list []impl.Label, at int, label impl.Label) []impl.Label {
	changed := slices.Clone(list)
	changed[at] = label
	return changed
}

func wantWords(t *testing.T, kind wordKind, want bool, words ...string) {
	t.Helper()
	for _, word := range words {
		if got := kind.ok(word); got != want {
			t.Errorf("%s(%.60q of %d bytes) = %v; want %v", kind.name, word, len(word), got, want)
		}
	}
}

func wantWordsAsDocumented(t *testing.T, words ...string) {
	t.Helper()
	for _, kind := range wordKinds() {
		for _, word := range words {
			wantWords(t, kind, kind.words.MatchString(word), word)
		}
	}
}

// wantLabelsOk also checks what follows: the list is its own sorted form and is read back from its line.
func wantLabelsOk(t *testing.T, lists ...[]impl.Label) {
	t.Helper()
	for _, list := range lists {
		if !impl.LabelsOk(list) {
			t.Errorf("LabelsOk(%.200q) = false; want true", list)
		}
		wantSorted(t, list, list)
		wantLine(t, list, labelsLineByWords(list))
	}
}

// wantNoLabelsOk also checks that the list has no line.
func wantNoLabelsOk(t *testing.T, lists ...[]impl.Label) {
	t.Helper()
	for _, list := range lists {
		if impl.LabelsOk(list) {
			t.Errorf("LabelsOk(%.200q) = true; want false", list)
		}
		if line := impl.LabelsLine(list); line != "" {
			t.Errorf("LabelsLine(%.200q) = %.200q; want \"\"", list, line)
		}
	}
}

func wantSorted(t *testing.T, list []impl.Label, want []impl.Label) {
	t.Helper()
	if got, ok := impl.SortLabels(list); !slices.Equal(got, want) || !ok {
		t.Errorf("SortLabels(%.200q) = %.200q, %v; want %.200q, true", list, got, ok, want)
	}
}

func wantNotSorted(t *testing.T, lists ...[]impl.Label) {
	t.Helper()
	for _, list := range lists {
		if got, ok := impl.SortLabels(list); !slices.Equal(got, list) || ok {
			t.Errorf("SortLabels(%.200q) = %.200q, %v; want the list as it was, false", list, got, ok)
		}
	}
}

func wantLabelAt(t *testing.T, list []impl.Label, key string, want string) {
	t.Helper()
	if got, ok := impl.LabelAt(list, key); got != want || !ok {
		t.Errorf("LabelAt(%.200q, %.60q) = %.60q, %v; want %.60q, true", list, key, got, ok, want)
	}
}

func wantNoLabelAt(t *testing.T, list []impl.Label, keys ...string) {
	t.Helper()
	for _, key := range keys {
		if got, ok := impl.LabelAt(list, key); got != "" || ok {
			t.Errorf("LabelAt(%.200q, %.60q) = %.60q, %v; want \"\", false", list, key, got, ok)
		}
	}
}

func wantSameLabels(t *testing.T, a []impl.Label, b []impl.Label, want bool) {
	t.Helper()
	if impl.SameLabels(a, b) != want || impl.SameLabels(b, a) != want {
		t.Errorf("SameLabels(%.200q, %.200q) = %v, swapped %v; want %v", a, b, impl.SameLabels(a, b), impl.SameLabels(b, a), want)
	}
}

// wantLine also checks that the list is read back from its line.
func wantLine(t *testing.T, list []impl.Label, want string) {
	t.Helper()
	if got := impl.LabelsLine(list); got != want {
		t.Errorf("LabelsLine(%.200q) = %.400q; want %.400q", list, got, want)
	}
	if got, ok := impl.ReadLabelsLine(want); !slices.Equal(got, list) || !ok {
		t.Errorf("ReadLabelsLine(%.400q) = %.200q, %v; want %.200q, true", want, got, ok, list)
	}
}

func wantNoLine(t *testing.T, lines ...string) {
	t.Helper()
	for _, line := range lines {
		if got, ok := impl.ReadLabelsLine(line); len(got) > 0 || ok {
			t.Errorf("ReadLabelsLine(%.400q of %d bytes) = %.200q, %v; want none, false", line, len(line), got, ok)
		}
	}
}

func wantListAsDocumented(t *testing.T, list []impl.Label) {
	t.Helper()
	if labelsByWords(list) {
		wantLabelsOk(t, list)
	} else {
		wantNoLabelsOk(t, list)
	}
	if sorted, ok := sortedByWords(list); ok {
		wantSorted(t, list, sorted)
		wantLabelsOk(t, sorted)
	} else {
		wantNotSorted(t, list)
	}
}

func wantLineAsRead(t *testing.T, line string) {
	t.Helper()
	if list, ok := readLabelsByWords(line); ok {
		wantLine(t, list, line)
	} else {
		wantNoLine(t, line)
	}
}

// badLabelKeys and badLabelValues have no error but one.
func badLabelKeys() []string {
	return []string{"", " ", "-", "_", ".", "/", "a ", " a", "a b", "a-", "-a", "a/", "/a", "a=b", "a,b", "a:b", "a\x00", "a\n", "\xc3\xa9", "a\xffb", strings.Repeat("a", 31)}
}

func badLabelValues() []string {
	return []string{" ", "-", "_", ".", "/", "a ", " a", "a b", "a-", "-a", "a/b", "a=b", "a,b", "a:b", "a\x00", "a\n", "\xc3\xa9", "a\xffb", strings.Repeat("a", 21)}
}

// goodLists are valid lists of each length.
func goodLists() [][]impl.Label {
	list := [][]impl.Label{nil, {}, labelsOf("a", ""), labelsOf("a", "", "b", ""), labelsOf("a", "1", "b", "", "c", "3"), labelsOf("a", "z", "b", "y", "c", "x"),
		// Keys are compared byte by byte, and a proper prefix is smaller.
		labelsOf("0", "", "9", "", "A", "", "Z", "", "a", "", "z", ""), labelsOf("B", "b", "a", "A"), labelsOf("a", "2", "a-b", "1", "a.b", "1", "a/b", "1", "aA", "1", "a_b", "1"), labelsOf("10", "a", "9", "b"), labelsOf("a", "1", "a0", "1", "aa", "1", "aaa", "1", "ab", "1", "b", "1"),
		labelsOf("app.kubernetes.io/name", "web-1.2_3", "zone", "EU")}
	for count := range 7 {
		list = append(list, numbered(count))
	}
	longest := numbered(6)
	for i := range longest {
		longest[i] = impl.Label{Key: longest[i].Key + strings.Repeat("/", 27) + "x", Value: strings.Repeat("V", 20)}
	}
	return append(list, longest)
}

// badLists are not valid, in any order.
func badLists() [][]impl.Label {
	list := [][]impl.Label{numbered(7), numbered(8), numbered(9)}
	for count := 1; count <= 6; count++ {
		for at := range count {
			for _, key := range badLabelKeys() {
				list = append(list, withLabel(numbered(count), at, impl.Label{Key: key, Value: "v"}))
			}
			for _, value := range badLabelValues() {
				list = append(list, withLabel(numbered(count), at, impl.Label{Key: numberedLabels[at].Key, Value: value}))
			}
		}
	}
	for count := 2; count <= 7; count++ {
		for at := range count - 1 {
			twice := numbered(count)
			list = append(list, withLabel(twice, at, twice[at+1]), withLabel(twice, at+1, twice[at]))
			list = append(list, withLabel(twice, at, impl.Label{Key: twice[at+1].Key, Value: "other"}), withLabel(twice, at+1, impl.Label{Key: twice[at].Key}))
		}
	}
	return list
}

func TestLabelsConstant(t *testing.T) {
	if impl.MaxLabels != 6 {
		t.Errorf("MaxLabels = %d; want 6", impl.MaxLabels)
	}
}

func TestWordsThatAreValid(t *testing.T) {
	kinds := wordKinds()
	wantWords(t, kinds[0], true, "a", "0", "web", "web-1", "a--b", "0-0", "1234567890", "node-pool-7", "abcdefghijklmnopqrst", "uvwxyz")
	wantWords(t, kinds[1], true, "a", "Z", "0", "app", "App", "app.kubernetes.io/name", "a/b", "a//b", "a-_./b", "X__y", "9.9", "a/b/c", "abcdefghijklmnopqrstuvwxyzABCD", "EFGHIJKLMNOPQRSTUVWXYZ01234567", "89")
	wantWords(t, kinds[2], true, "", "a", "Z", "0", "v1.2.3", "a-b", "a_b", "a-_.b", "TRUE", "2026-11-20", "abcdefghijklmnopqrst", "uvwxyzABCDEFGHIJKLMN", "OPQRSTUVWXYZ01234567", "89")
}

func TestWordsThatAreNotValid(t *testing.T) {
	kinds := wordKinds()
	wantWords(t, kinds[0], false, "", "-", "--", "---", "-a", "a-", "-a-", "A", "aB", "Ab", "a b", " a", "a ", "a_b", "a.b", "a/b", "a=b", "a\n", "\na", "a\x00", "abcdefghijklmnopqrstu")
	wantWords(t, kinds[1], false, "", "-", "_", ".", "/", "//", "a/", "/a", "a.", ".a", "a_", "_a", "a-", "-a", "a b", " a", "a ", "a=b", "a,b", "a:b", "a\\b", "a\n", "\na", "a\x00", "abcdefghijklmnopqrstuvwxyzABCDE")
	wantWords(t, kinds[2], false, "-", "_", ".", "/", "--", "a/b", "a/", "/a", "a.", ".a", "a_", "_a", "a-", "-a", " ", "a b", " a", "a ", "a=b", "a,b", "a:b", "a\\b", "a\n", "\na", "a\x00", "abcdefghijklmnopqrstu")
}

// Of the three kinds, only a value may be empty.
func TestWordsOfEachLength(t *testing.T) {
	for i, kind := range wordKinds() {
		wantWords(t, kind, i == 2, "")
		for size := 1; size <= 700; size++ {
			wantWords(t, kind, size <= kind.most, strings.Repeat("a", size), strings.Repeat("7", size))
			if size > 2 {
				wantWords(t, kind, size <= kind.most, "x"+strings.Repeat("-", size-2)+"y")
			}
		}
		wantWords(t, kind, false, strings.Repeat("a", 1<<16+1), strings.Repeat("a", 1<<20), strings.Repeat("-", 1<<20), strings.Repeat("\xff", 1<<20))
	}
}

func TestWordsOfEachByteInEachPlace(t *testing.T) {
	for _, kind := range wordKinds() {
		for size := 1; size <= kind.most+1; size++ {
			for at := range size {
				for b := range 256 {
					word := []byte(strings.Repeat("a", size))
					word[at] = byte(b)
					allowed := kind.letters
					if at > 0 && at < size-1 {
						allowed += kind.marks
					}
					wantWords(t, kind, size <= kind.most && strings.IndexByte(allowed, byte(b)) >= 0, string(word))
				}
			}
		}
	}
}

func TestWordsOfEachPairOfBytes(t *testing.T) {
	bytes := allBytes()
	for i := range bytes {
		for j := range bytes {
			wantWordsAsDocumented(t, bytes[i:i+1]+bytes[j:j+1])
		}
	}
}

func TestWordsOfShortTexts(t *testing.T) {
	wantWordsAsDocumented(t, textsOf(5, "a", "Z", "0", "-", "_", ".", "/", " ")...)
}

// The length is counted in bytes, and no letters or digits but those of ASCII are valid.
func TestWordsOutsideASCII(t *testing.T) {
	for _, letter := range []string{"\xc3\xa9", "\xc3\x9f", "\xc2\xaa", "\xc2\xb2", "\xc4\xb1", "\xc5\xbf", "\xd0\xb0", "\xd9\xa3", "\xe2\x84\xaa", "\xef\xbc\x91", "\xef\xbd\x81", "\xef\xbb\xbf", "\xef\xbf\xbd", "\xf0\x9f\x98\x80", "\xff", "\x80", "\xc1\xa1", "\xe1", "\xb0"} {
		for _, kind := range wordKinds() {
			wantWords(t, kind, false, letter, letter+letter, "a"+letter, letter+"a", "a"+letter+"a", "a-"+letter, strings.Repeat(letter, 12))
		}
	}
}

func TestLabelsOkOfValidLists(t *testing.T) {
	wantLabelsOk(t, goodLists()...)
	for _, list := range goodLists() {
		if !labelsByWords(list) {
			t.Errorf("%.200q is not valid", list)
		}
	}
}

func TestLabelsOkOfListsThatAreNotValid(t *testing.T) {
	wantNoLabelsOk(t, badLists()...)
	for _, list := range badLists() {
		if labelsByWords(list) {
			t.Errorf("%.200q is valid", list)
		}
	}
}

func TestLabelsOkOfLongLists(t *testing.T) {
	wantLabelsOk(t, numbered(impl.MaxLabels))
	wantNoLabelsOk(t, numbered(impl.MaxLabels+1))
	for _, size := range []int{10, 256, 262, 70000} {
		list := make([]impl.Label, size)
		for i := range list {
			list[i].Key = "k" + strings.Repeat("0", 6-len(impl.Decimal(i))) + impl.Decimal(i)
		}
		wantNoLabelsOk(t, list)
		wantNotSorted(t, list)
	}
}

func TestLabelsOkOfKeysInEachOrder(t *testing.T) {
	for _, list := range [][]impl.Label{numbered(2), numbered(3), numbered(4), numbered(5), numbered(6), labelsOf("A", "1", "a", "2", "aa", "0", "b", "1")} {
		for _, order := range orders(list) {
			if slices.Equal(order, list) {
				wantLabelsOk(t, order)
			} else {
				wantNoLabelsOk(t, order)
			}
		}
	}
	wantNoLabelsOk(t, labelsOf("b", "", "a", ""), labelsOf("a", "1", "A", "1"), labelsOf("aa", "", "a", ""), labelsOf("9", "", "10", ""), labelsOf("c", "", "b", "", "a", ""))
}

// Values are in no order, and may be equal.
func TestLabelsOkOfValuesInEachOrder(t *testing.T) {
	values := []string{"", "", "a", "a", "b"}
	for _, order := range orders(values) {
		wantLabelsOk(t, labelsOf("a", order[0], "b", order[1], "c", order[2], "d", order[3], "e", order[4]))
	}
}

func TestSortLabelsOfEachOrder(t *testing.T) {
	for _, list := range goodLists() {
		for _, order := range orders(list) {
			wantSorted(t, order, list)
		}
	}
}

func TestSortLabelsOfTheEmptyList(t *testing.T) {
	wantSorted(t, nil, nil)
	wantSorted(t, []impl.Label{}, nil)
	wantSorted(t, make([]impl.Label, 0, 9), nil)
}

// One error makes a list invalid wherever it stands, and the list comes back in the order that it had.
func TestSortLabelsOfListsThatAreNotValid(t *testing.T) {
	for _, list := range badLists() {
		reversed := slices.Clone(list)
		slices.Reverse(reversed)
		wantNotSorted(t, list, reversed, slices.Concat(list[1:], list[:1]), slices.Concat(list[len(list)-1:], list[:len(list)-1]))
	}
	for _, order := range orders(numbered(7)) {
		wantNotSorted(t, order)
	}
	for _, order := range orders(labelsOf("c", "1", "a", "2", "b b", "3", "d", "4")) {
		wantNotSorted(t, order)
	}
	for _, order := range orders(labelsOf("c", "1", "a", "2", "b", "-", "d", "4")) {
		wantNotSorted(t, order)
	}
}

func TestSortLabelsOfDuplicateKeys(t *testing.T) {
	for _, list := range [][]impl.Label{
		labelsOf("a", "1", "a", "1"), labelsOf("a", "1", "a", "2"), labelsOf("a", "", "a", ""), labelsOf("a", "", "a", "1"),
		labelsOf("a", "1", "b", "2", "a", "1"), labelsOf("a", "1", "b", "2", "a", "2"), labelsOf("b", "1", "b", "1", "a", "1", "c", "1"), labelsOf("b", "2", "b", "1", "a", "1", "c", "1"),
		labelsOf("a", "1", "a", "1", "a", "1"), labelsOf("a", "3", "a", "1", "a", "2"), labelsOf("a", "1", "a", "1", "b", "1", "b", "1"), labelsOf("k0", "", "k1", "", "k2", "", "k3", "", "k4", "", "k0", ""),
		labelsOf("k0", "", "k1", "", "k2", "", "k3", "", "k4", "", "k4", "x"), append(numbered(6), numbered(1)...),
	} {
		for _, order := range orders(list) {
			wantNotSorted(t, order)
			wantNoLabelsOk(t, order)
		}
	}
}

func TestSortLabelsMakesLabelsCanonical(t *testing.T) {
	for _, order := range orders(numbered(6)) {
		sorted, ok := impl.SortLabels(order)
		again, okAgain := impl.SortLabels(sorted)
		if line := impl.LabelsLine(sorted); line != "k0=v0,k1=v1,k2=v2,k3=v3,k4=v4,k5=v5" || !ok {
			t.Errorf("the line of the sorted labels %q is %q", order, line)
		}
		if !impl.SameLabels(sorted, again) || !okAgain {
			t.Errorf("sorting %q again gives %q", sorted, again)
		}
	}
}

func TestLabelAtOfEachKey(t *testing.T) {
	for _, list := range goodLists() {
		for _, label := range list {
			wantLabelAt(t, list, label.Key, label.Value)
		}
		wantNoLabelAt(t, list, "", "k", "k00", "K0", "v0", "absent", "-", " ", "k0=v0", "a ", " a", "\x00", strings.Repeat("k", 1<<16))
	}
	wantNoLabelAt(t, nil, "", "a")
	wantNoLabelAt(t, []impl.Label{}, "", "a")
	// Behind the end of a list there is no label.
	wantNoLabelAt(t, numbered(9)[:3], "k3", "k8")
}

// An absent key differs from one with an empty value.
func TestLabelAtOfEmptyValues(t *testing.T) {
	wantLabelAt(t, labelsOf("a", ""), "a", "")
	wantLabelAt(t, labelsOf("a", "", "b", "1"), "a", "")
	wantNoLabelAt(t, labelsOf("a", ""), "b", "")
}

func TestLabelAtOfDuplicateKeys(t *testing.T) {
	wantLabelAt(t, labelsOf("a", "1", "a", "2"), "a", "1")
	wantLabelAt(t, labelsOf("a", "2", "a", "1"), "a", "2")
	wantLabelAt(t, labelsOf("a", "", "a", "2"), "a", "")
	wantLabelAt(t, labelsOf("a", "2", "a", ""), "a", "2")
	wantLabelAt(t, labelsOf("b", "1", "a", "2", "c", "3", "a", "4", "a", "5"), "a", "2")
	wantLabelAt(t, labelsOf("b", "1", "a", "2", "c", "3", "a", "4", "c", "5"), "c", "3")
}

// LabelAt names no condition for the list.
func TestLabelAtOfListsThatAreNotValid(t *testing.T) {
	wantLabelAt(t, numbered(9), "k8", "v8")
	wantLabelAt(t, labelsOf("b", "1", "a", "2"), "a", "2")
	wantLabelAt(t, labelsOf("", "1", "a", "2"), "", "1")
	wantLabelAt(t, labelsOf("a b", "c d", "-", "e"), "a b", "c d")
	wantLabelAt(t, labelsOf("a\xff", "\x00", "-", strings.Repeat("e", 99)), "a\xff", "\x00")
	wantLabelAt(t, labelsOf("a\xff", "\x00", "-", strings.Repeat("e", 99)), "-", strings.Repeat("e", 99))
}

func TestSameLabelsOfEachPairOfLists(t *testing.T) {
	lists := slices.Concat(goodLists(), badLists()[:60], orders(numbered(3)))
	for _, a := range lists {
		for _, b := range lists {
			same := len(a) == len(b)
			for i := 0; same && i < len(a); i++ {
				same = a[i].Key == b[i].Key && a[i].Value == b[i].Value
			}
			wantSameLabels(t, slices.Clone(a), slices.Clone(b), same)
		}
	}
}

func TestSameLabelsOfOneChange(t *testing.T) {
	for count := 1; count <= 9; count++ {
		list := numbered(count)
		wantSameLabels(t, list, numbered(count), true)
		wantSameLabels(t, list, list, true)
		wantSameLabels(t, list, list[:count-1], false)
		wantSameLabels(t, list, list[1:], false)
		for at, label := range list {
			for _, other := range []impl.Label{{Key: label.Key, Value: ""}, {Key: label.Key, Value: "V"}, {Key: "", Value: label.Value}, {Key: "K", Value: label.Value}, {Key: label.Value, Value: label.Key}, {Key: label.Key + label.Value}, {Key: label.Key, Value: label.Value + "\x00"}, {}} {
				wantSameLabels(t, list, withLabel(list, at, other), false)
			}
			for to := range at {
				swapped := withLabel(withLabel(list, at, list[to]), to, label)
				wantSameLabels(t, list, swapped, false)
			}
		}
	}
}

func TestSameLabelsOfEmptyLists(t *testing.T) {
	wantSameLabels(t, nil, nil, true)
	wantSameLabels(t, nil, []impl.Label{}, true)
	wantSameLabels(t, []impl.Label{}, []impl.Label{}, true)
	wantSameLabels(t, nil, numbered(3)[:0], true)
	wantSameLabels(t, nil, labelsOf("", ""), false)
	wantSameLabels(t, []impl.Label{}, labelsOf("", ""), false)
	wantSameLabels(t, nil, numbered(1), false)
	// What lies behind a list does not count.
	wantSameLabels(t, numbered(5)[:3], numbered(3), true)
	wantSameLabels(t, numbered(5)[:3], slices.Concat(numbered(3), labelsOf("x", "y"))[:3], true)
}

func TestLabelsLineOfKnownLists(t *testing.T) {
	wantLine(t, nil, "-")
	wantLine(t, []impl.Label{}, "-")
	wantLine(t, labelsOf("a", "1"), "a=1")
	wantLine(t, labelsOf("a", ""), "a=")
	wantLine(t, labelsOf("a", "", "b", "2"), "a=,b=2")
	wantLine(t, labelsOf("a", "1", "b", ""), "a=1,b=")
	wantLine(t, labelsOf("a", "", "b", "", "c", ""), "a=,b=,c=")
	wantLine(t, labelsOf("B", "x", "a", "y"), "B=x,a=y")
	wantLine(t, labelsOf("app.io/name", "web-1", "zone", "EU"), "app.io/name=web-1,zone=EU")
	wantLine(t, numbered(6), "k0=v0,k1=v1,k2=v2,k3=v3,k4=v4,k5=v5")
}

// The longest line has six keys of 30 bytes and six values of 20 bytes.
func TestLabelsLineOfTheGreatestLength(t *testing.T) {
	list, parts := numbered(6), []string{}
	for i := range list {
		list[i] = impl.Label{Key: impl.Decimal(i) + strings.Repeat("k", 29), Value: strings.Repeat("v", 20)}
		parts = append(parts, list[i].Key+"="+list[i].Value)
	}
	line := strings.Join(parts, ",")
	if len(line) != 311 {
		t.Errorf("the longest line has %d bytes; want 311", len(line))
	}
	wantLine(t, list, line)
	for i, part := range parts {
		wantNoLine(t, strings.Replace(line, part, part+"v", 1), strings.Replace(line, part, impl.Decimal(i)+"k"+part[1:], 1))
		wantNoLabelsOk(t, withLabel(list, i, impl.Label{Key: list[i].Key, Value: list[i].Value + "v"}), withLabel(list, i, impl.Label{Key: list[i].Key + "k", Value: list[i].Value}))
	}
	wantNoLine(t, line+",6=", line+",", line+"v", strings.Repeat("a", 1<<20), strings.Repeat("=", 1<<20), strings.Repeat(",", 1<<20), strings.Repeat("a=,", 1<<18))
}

func TestReadLabelsLineOfTheHyphenAndTheEmptyText(t *testing.T) {
	if list, ok := impl.ReadLabelsLine("-"); len(list) != 0 || !ok {
		t.Errorf("ReadLabelsLine(\"-\") = %q, %v; want the empty list, true", list, ok)
	}
	// LabelsLine returns "" for lists that are not valid, so that there are no labels for it.
	wantNoLine(t, "", " ", "--", "- ", " -", "-,", ",-", "-,-", "-=", "=-", "-=-", "-=a", "a=-", "-,a=1", "a=1,-", "_", "\x00", "-\n", "\n")
}

func TestReadLabelsLineOfOtherLines(t *testing.T) {
	// Without a sign.
	wantNoLine(t, "a", "abc", "a,b", "a,b=1", "a=1,b", "a=1,b,c=2", "a:1", "a 1", "null")
	// With two signs.
	wantNoLine(t, "a==", "a==1", "a=1=", "a=1=2", "a=b=c", "=a=", "==", "===", "a==,b=1", "a=1,b=2=3", "a=1=b,c=2", "a=1b=2")
	// With an empty part.
	wantNoLine(t, ",", ",,", "a=1,,b=2", "a=1,,,b=2", "a=1,b=2,,", ",,a=1", "a=,,b=", "a,,b")
	// With a comma at the beginning or the end.
	wantNoLine(t, ",a=1", "a=1,", ",a=1,", "a=,", ",a=", "a=1,b=2,", ",a=1,b=2", ",=", "=,")
	// Without a key.
	wantNoLine(t, "=", "=1", "=a,b=1", "a=1,=2", "a=1,=")
	// With spaces.
	wantNoLine(t, " a=1", "a=1 ", "a =1", "a= 1", "a= ", "a=1, b=2", "a=1 ,b=2", "a=1 b=2", "a=b c", "a b=c", "a=1,\tb=2", "a=1\n", "\na=1", "a=1\r\n", "a=1\x00", "a=\xc2\xa0")
	// With other marks.
	wantNoLine(t, "a=1;b=2", "a=1/b=2", "a=x/y", "a:b=1", "a=\"1\"", "\"a\"=1", "{a=1}", "[]", "{}", "\xc3\xa9=1", "a=\xc3\xa9", "a=\xff", "\xff=a")
}

func TestReadLabelsLineOfKeysInEachOrder(t *testing.T) {
	wantNoLine(t, "a=1,a=1", "a=1,a=2", "a=,a=", "a=,a=1", "a=1,a=", "b=1,a=1", "a=1,c=1,b=1", "a=1,b=1,b=1", "a=1,b=1,a=1", "a=1,A=1", "aa=,a=", "9=,10=", "c=,b=,a=", "k5=,k4=,k3=,k2=,k1=,k0=")
	for count := 2; count <= 6; count++ {
		parts := strings.Split(labelsLineByWords(numbered(count)), ",")
		for _, order := range orders(parts) {
			line := strings.Join(order, ",")
			if slices.IsSorted(order) {
				wantLine(t, numbered(count), line)
			} else {
				wantNoLine(t, line)
			}
		}
	}
}

func TestReadLabelsLineOfManyLabels(t *testing.T) {
	line := "k0=v0,k1=v1,k2=v2,k3=v3,k4=v4,k5=v5"
	wantLine(t, numbered(6), line)
	wantNoLine(t, line+",k6=v6", line+",k6=v6,k7=v7", line+",k6=", line+","+line, line+","+strings.Repeat("x", 400)+"=", "a=,b=,c=,d=,e=,f=,g=")
	wantLine(t, labelsOf("a", "", "b", "", "c", "", "d", "", "e", "", "f", ""), "a=,b=,c=,d=,e=,f=")
}

func TestReadLabelsLineOfListsThatAreNotValid(t *testing.T) {
	for _, list := range badLists() {
		parts := []string{}
		for _, label := range list {
			parts = append(parts, label.Key+"="+label.Value)
		}
		wantLineAsRead(t, strings.Join(parts, ","))
		wantNoLine(t, strings.Join(parts, ", "), strings.Join(parts, ";"))
	}
}

func TestEachValidListIsReadBackFromItsLine(t *testing.T) {
	keys, values := []string{"0", "A", "a", "a-b", "a/b", "aa", "z.z"}, []string{"", "1", "X_y", "a-"}
	for set := range 1 << len(keys) {
		for first := range len(values) {
			list := []impl.Label{}
			for i, key := range keys {
				if set>>i&1 == 1 {
					list = append(list, impl.Label{Key: key, Value: values[(first+i)%len(values)]})
				}
			}
			wantListAsDocumented(t, list)
			slices.Reverse(list)
			wantListAsDocumented(t, list)
		}
	}
}

// shortLists are all valid lists whose keys are greater than after, with words of some texts, and whose line, without a hyphen, has at most size bytes.
func shortLists(size int, after string, texts []string) [][]impl.Label {
	lists := [][]impl.Label{{}}
	for _, key := range texts {
		if len(key)+1 > size {
			break
		}
		if key <= after || !labelKeyWords.MatchString(key) {
			continue
		}
		for _, value := range texts {
			rest := size - len(key) - 1 - len(value)
			if rest < 0 {
				break
			}
			if !labelValueWords.MatchString(value) {
				continue
			}
			for _, more := range shortLists(rest-1, key, texts) {
				lists = append(lists, slices.Concat(labelsOf(key, value), more))
			}
		}
	}
	return lists
}

func TestNoOtherLineGivesAList(t *testing.T) {
	lines := map[string][]impl.Label{}
	for _, list := range shortLists(7, "", textsOf(6, "a", "B", "-")) {
		line := labelsLineByWords(list)
		if other, twice := lines[line]; twice {
			t.Errorf("%q and %q have the same line %q", list, other, line)
		}
		lines[line] = list
		wantLine(t, list, line)
	}
	found := 0
	for _, line := range textsOf(7, "a", "B", "-", "=", ",") {
		if list, ok := lines[line]; ok {
			found++
			wantLine(t, list, line)
		} else {
			wantNoLine(t, line)
		}
	}
	if found != len(lines) || found < 100 {
		t.Errorf("of %d lines %d were found among all short texts", len(lines), found)
	}
}

func TestReadLabelsLineWithOneByteChanged(t *testing.T) {
	bytes := allBytes()
	for _, line := range []string{"-", "a=1", "a=", "a=1,b=2", "a=,b=", "x.y/z=1-2,zone=EU", "k0=v0,k1=v1,k2=v2,k3=v3,k4=v4,k5=v5"} {
		for at := range len(line) + 1 {
			for b := range bytes {
				wantLineAsRead(t, line[:at]+bytes[b:b+1]+line[at:])
				if at < len(line) {
					wantLineAsRead(t, line[:at]+bytes[b:b+1]+line[at+1:])
				}
			}
			for to := at + 1; to <= len(line); to++ {
				wantLineAsRead(t, line[:at]+line[to:])
				wantLineAsRead(t, line[:to]+line[at:])
			}
		}
	}
}

func randomLabels(r *rand.Rand) []impl.Label {
	keys := []string{"a", "b", "c", "d", "A", "Z", "0", "9", "a-b", "a.b", "a/b", "aa", "ab", "zone", "k8s.io/x", strings.Repeat("q", 30)}
	values := []string{"", "1", "2", "a", "A-b", "v1.2", "x_y", strings.Repeat("w", 20)}
	list := []impl.Label{}
	for _, at := range r.Perm(len(keys))[:r.Intn(8)] {
		list = append(list, impl.Label{Key: keys[at], Value: values[r.Intn(len(values))]})
	}
	if len(list) > 0 && r.Intn(3) == 0 {
		at := r.Intn(len(list))
		switch r.Intn(3) {
		case 0:
			list[at].Key = badLabelKeys()[r.Intn(len(badLabelKeys()))]
		case 1:
			list[at].Value = badLabelValues()[r.Intn(len(badLabelValues()))]
		default:
			list[at].Key = list[r.Intn(len(list))].Key
		}
	}
	return list
}

func TestRandomLabels(t *testing.T) {
	r := rand.New(rand.NewSource(14))
	valid := 0
	for range 20000 {
		list := randomLabels(r)
		wantListAsDocumented(t, list)
		if sorted, ok := sortedByWords(list); ok {
			valid++
			wantLineAsRead(t, labelsLineByWords(sorted))
			for _, label := range list {
				wantLabelAt(t, sorted, label.Key, label.Value)
			}
		}
	}
	if valid < 5000 || valid > 15000 {
		t.Errorf("of 20000 random lists %d are valid", valid)
	}
}

func TestRandomLabelsLines(t *testing.T) {
	r := rand.New(rand.NewSource(41))
	pieces := []string{"a", "b", "c", "a=", "b=", "c=", "a=1", "b=2", "c=3", "d=4,", ",", ",", ",", ",", "=", "-", "1", ".", "/", " "}
	for range 100000 {
		line := ""
		for range r.Intn(12) {
			line += pieces[r.Intn(len(pieces))]
		}
		wantLineAsRead(t, line)
	}
}

// inside is a copy of list between labels that do not belong to it, so that a change of these would be seen.
func inside(list []impl.Label) (all []impl.Label, arg []impl.Label) {
	spare := labelsOf("m", "before", "a", "before", "z", "behind", "b", "behind", "", "")
	all = slices.Concat(spare[:2], list, spare[2:])
	return all, all[2 : 2+len(list)]
}

func TestLabelFunctionsKeepTheirArguments(t *testing.T) {
	for _, list := range slices.Concat(goodLists(), badLists(), orders(numbered(4)), orders(labelsOf("b", "1", "a", "2", "b", "3"))) {
		all, arg := inside(list)
		kept := slices.Clone(all)
		impl.LabelsOk(arg)
		impl.SortLabels(arg)
		impl.LabelAt(arg, "k3")
		impl.SameLabels(arg, numbered(3))
		impl.SameLabels(numbered(3), arg)
		impl.LabelsLine(arg)
		if !slices.Equal(all, kept) {
			t.Errorf("the argument %q was changed to %q", kept, all)
		}
	}
}

// overwriteLabels changes all labels of a list and the capacity behind it.
func overwriteLabels(list []impl.Label) {
	list = list[:cap(list)]
	for i := range list {
		list[i] = impl.Label{Key: "changed", Value: "changed"}
	}
}

func TestSortLabelsReturnsNewMemory(t *testing.T) {
	for _, list := range slices.Concat(goodLists(), badLists(), orders(numbered(4))) {
		all, arg := inside(list)
		kept := slices.Clone(all)
		first, ok := impl.SortLabels(arg)
		second, _ := impl.SortLabels(arg)
		if overlap(spanOf(first), spanOf(all)) || overlap(spanOf(second), spanOf(all)) || overlap(spanOf(first), spanOf(second)) {
			t.Errorf("SortLabels(%q) shares memory", list)
		}
		want := slices.Clone(first)
		overwriteLabels(first)
		if !slices.Equal(all, kept) || !slices.Equal(second, want) {
			t.Errorf("a change of one result of SortLabels(%q) changed the argument to %q or the other result to %q", list, arg, second)
		}
		overwriteLabels(all)
		if !slices.Equal(second, want) {
			t.Errorf("a change of the argument %q of SortLabels changed the result to %q", list, second)
		}
		if sorted, sortedOk := sortedByWords(list); ok != sortedOk || !slices.Equal(want, sorted) {
			t.Errorf("SortLabels(%q) = %q, %v; want %q, %v", list, want, ok, sorted, sortedOk)
		}
	}
}

func TestReadLabelsLineReturnsNewMemory(t *testing.T) {
	for _, list := range goodLists() {
		line := labelsLineByWords(list)
		first, _ := impl.ReadLabelsLine(line)
		second, _ := impl.ReadLabelsLine(line)
		if overlap(spanOf(first), spanOf(second)) {
			t.Errorf("two results of ReadLabelsLine(%q) share memory", line)
		}
		overwriteLabels(first)
		if !slices.Equal(second, list) {
			t.Errorf("a change of one result of ReadLabelsLine(%q) changed the other one to %q", line, second)
		}
		wantLine(t, list, line)
	}
}

// The bytes of the arguments lie in a slice here, so that a change would be seen.
func TestLabelFunctionsKeepTheBytesOfTheirArguments(t *testing.T) {
	for _, text := range []string{"", "-", "a", "web-1", "App/x", "a=1,b=2", "a=,b=", "b=1,a=2", "a=1,a=1", "a==1", ",", " a=1", "\xff", strings.Repeat("a", 31)} {
		kept := append([]byte(text), "spare"...)
		arg := unsafe.String(unsafe.SliceData(kept), len(text))
		impl.NameOk(arg)
		impl.LabelKeyOk(arg)
		impl.LabelValueOk(arg)
		impl.LabelAt(labelsOf(arg, arg, "a", "b"), arg)
		impl.LabelsOk(labelsOf(arg, arg))
		impl.SortLabels(labelsOf("b", "", arg, arg))
		impl.LabelsLine(labelsOf(arg, arg))
		impl.ReadLabelsLine(arg)
		if string(kept) != text+"spare" {
			t.Errorf("the argument %q was changed to %q", text+"spare", kept)
		}
	}
}
