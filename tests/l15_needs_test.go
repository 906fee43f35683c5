package tests

import (
	"fmt"
	"math"
	"math/rand"
	"slices"
	"strings"
	"testing"
	"unsafe"

	"loop.example/g00968/impl"
)

// The following functions say what the document says.

func needByWords(n impl.Need) bool {
	if !labelKeyWords.MatchString(n.Key) {
		return false
	}
	for i, value := range n.Values {
		if !labelValueWords.MatchString(value) || i > 0 && value <= n.Values[i-1] {
			return false
		}
	}
	count := len(n.Values)
	return (n.Op == 1 || n.Op == 2) && count >= 1 && count <= 4 || (n.Op == 3 || n.Op == 4) && count == 0
}

func metByWords(labels []impl.Label, n impl.Need) bool {
	if !needByWords(n) {
		return false
	}
	at := slices.IndexFunc(labels, func(label impl.Label) bool { return label.Key == n.Key })
	switch {
	case n.Op == 3:
		return at >= 0
	case n.Op == 4:
		return at < 0
	case at < 0:
		return n.Op == 2
	}
	return slices.Contains(n.Values, labels[at].Value) == (n.Op == 1)
}

// beforeByWords is NeedLess.
func beforeByWords(a impl.Need, b impl.Need) bool {
	if a.Key != b.Key {
		return a.Key < b.Key
	}
	if a.Op != b.Op {
		return a.Op < b.Op
	}
	for i, value := range b.Values {
		if i == len(a.Values) {
			return true
		}
		if a.Values[i] != value {
			return a.Values[i] < value
		}
	}
	return false
}

func selectorByWords(list []impl.Need) bool {
	for i, n := range list {
		if !needByWords(n) {
			return false
		}
		for _, later := range list[i+1:] {
			if !beforeByWords(n, later) {
				return false
			}
		}
	}
	return len(list) <= 4
}

func selectsByWords(list []impl.Need, labels []impl.Label) bool {
	met := 0
	for _, n := range list {
		if metByWords(labels, n) {
			met++
		}
	}
	return met == len(list)
}

func sameNeedByWords(a impl.Need, b impl.Need) bool {
	if a.Key != b.Key || a.Op != b.Op || len(a.Values) != len(b.Values) {
		return false
	}
	for i := range a.Values {
		if a.Values[i] != b.Values[i] {
			return false
		}
	}
	return true
}

func sameNeedsByWords(a []impl.Need, b []impl.Need) bool {
	for i := 0; i < len(a) && i < len(b); i++ {
		if !sameNeedByWords(a[i], b[i]) {
			return false
		}
	}
	return len(a) == len(b)
}

// valuesOnceByWords puts each value behind the smaller ones, unless it is there already.
func valuesOnceByWords(values []string) []string {
	once := []string{}
	for _, value := range values {
		at := 0
		for at < len(once) && once[at] < value {
			at++
		}
		if at == len(once) || once[at] != value {
			once = slices.Insert(once, at, value)
		}
	}
	return once
}

func sortedNeedsByWords(list []impl.Need) ([]impl.Need, bool) {
	sorted, most := []impl.Need{}, 0
	for _, n := range list {
		most = max(most, len(n.Values))
		n.Values = valuesOnceByWords(n.Values)
		at := 0
		for at < len(sorted) && beforeByWords(sorted[at], n) {
			at++
		}
		if at == len(sorted) || !sameNeedByWords(sorted[at], n) {
			sorted = slices.Insert(sorted, at, n)
		}
	}
	if len(list) > 40 || most > 40 || !selectorByWords(sorted) {
		return list, false
	}
	return sorted, true
}

func needLineByWords(n impl.Need) string {
	if !needByWords(n) {
		return ""
	}
	line := n.Key + map[int]string{1: " in", 2: " notin", 3: " has", 4: " hasnot"}[n.Op]
	separator := " "
	for _, value := range n.Values {
		line += separator + value
		separator = ","
	}
	return line
}

func needOf(key string, op int, values ...string) impl.Need {
	return impl.Need{Key: key, Op: op, Values: slices.Clone(values)}
}

func cloneNeed(n impl.Need) impl.Need { return needOf(n.Key, n.Op, n.Values...) }

func cloneNeeds(list []impl.Need) []impl.Need {
	needs := []impl.Need{}
	for _, n := range list {
		needs = append(needs, cloneNeed(n))
	}
	return needs
}

// negationOf has the same Key and Values.
func negationOf(n impl.Need) impl.Need {
	n.Op = map[int]int{1: 2, 2: 1, 3: 4, 4: 3}[n.Op]
	return n
}

// numberedNeeds are count needs with the keys k0 to k8, of each Op in turn.
func numberedNeeds(count int) []impl.Need {
	list := []impl.Need{needOf("k0", 1, "v0"), needOf("k1", 2, "v0", "v1"), needOf("k2", 3), needOf("k3", 4), needOf("k4", 1, "", "v4"), needOf("k5", 2, ""), needOf("k6", 3), needOf("k7", 4), needOf("k8", 1, "a", "b", "c", "d")}
	return list[:count]
}

// withNeed is list with another need at one index.
func withNeed(list []impl.Need, at int, n impl.Need) []impl.Need {
	changed := cloneNeeds(list)
	changed[at] = n
	return changed
}

// withValue is list with one more value at one index.
func withValue(list []string, at int, value string) []string {
	return slices.Concat(list[:at], []string{value}, list[at:])
}

// manyValues are count strictly ascending values.
func manyValues(count int) []string {
	values := []string{}
	for i := range count {
		values = append(values, "v"+strings.Repeat("0", 6-len(impl.Decimal(i)))+impl.Decimal(i))
	}
	return values
}

// cycle repeats the elements of list until there are count.
func cycle[T any](count int, list ...T) []T {
	cycled := []T{}
	for i := range count {
		cycled = append(cycled, list[i%len(list)])
	}
	return cycled
}

func wrongOps() []int {
	ops := []int{0, -1, -2, -3, -4, 5, 6, 7, 8, 9, 10, 16, 40, 1 << 16, 1 << 32, math.MaxInt, math.MinInt, math.MinInt + 1}
	for _, bits := range []int{8, 16, 32, 62} {
		for op := 1; op <= 4; op++ {
			ops = append(ops, 1<<bits+op, -1<<bits+op)
		}
	}
	return ops
}

func goodKeys() []string {
	return []string{"0", "9", "A", "Z", "a", "a-b", "a.b", "a/b", "aa", "app.kubernetes.io/name", "z_z", strings.Repeat("q", 30)}
}

// goodValues are lists of Values of each allowed length.
func goodValues() [][]string {
	return [][]string{
		{""}, {"a"}, {"0"}, {"Z"}, {"v1.2_3-x"}, {strings.Repeat("w", 20)},
		{"", "a"}, {"a", "b"}, {"A", "a"}, {"10", "9"}, {"a", "aa"}, {"a", "a-a"},
		{"", "a", "b"}, {"0", "A", "a"}, {"a", "aa", "aaa"}, {"a-a", "a.a", "a_a"},
		{"", "0", "A", "a"}, {"a", "b", "c", "d"}, {"a", "a-b", "aa", "b"}, {strings.Repeat("a", 20), strings.Repeat("b", 20), strings.Repeat("c", 20), strings.Repeat("d", 20)},
	}
}

func goodNeeds() []impl.Need {
	list := []impl.Need{}
	for _, key := range goodKeys() {
		for op := 1; op <= 2; op++ {
			for _, values := range goodValues() {
				list = append(list, needOf(key, op, values...))
			}
		}
		for op := 3; op <= 4; op++ {
			list = append(list, impl.Need{Key: key, Op: op}, impl.Need{Key: key, Op: op, Values: []string{}}, impl.Need{Key: key, Op: op, Values: manyValues(9)[:0]})
		}
	}
	return list
}

// aroundValue are lists of count Values in which bad stands at the index at between valid ones and is the only error. There is none where too few valid values are smaller or greater.
func aroundValue(bad string, count int, at int) []string {
	smaller, greater := []string{}, []string{}
	for _, value := range []string{"", "0", "1", "2", "a", "a0", "a1", "az", "b", "c", "d", "zzz"} {
		if value < bad {
			smaller = append(smaller, value)
		} else {
			greater = append(greater, value)
		}
	}
	if len(smaller) < at || len(greater) < count-at-1 {
		return nil
	}
	return slices.Concat(smaller[:at], []string{bad}, greater[:count-at-1])
}

// badValues are lists of Values that NdIn and NdNotIn do not accept, with one error each.
func badValues() [][]string {
	list := [][]string{nil, {}, manyValues(5), manyValues(6), manyValues(40), manyValues(41), manyValues(256), manyValues(257), withValue(manyValues(4), 0, "")}
	for count := 1; count <= 4; count++ {
		for at := range count {
			for _, bad := range append(badLabelValues(), "v-", "a1-", "b b", "b/b", "b=b", "b,b", "b\xff") {
				if values := aroundValue(bad, count, at); values != nil {
					list = append(list, values)
				}
			}
		}
	}
	for count := 1; count <= 3; count++ {
		for at := range count {
			list = append(list, withValue(manyValues(count), at, manyValues(count)[at]))
		}
	}
	return append(list, []string{"", ""}, []string{"b", "a"}, []string{"a", ""}, []string{"a", "A"}, []string{"aa", "a"}, []string{"9", "10"}, []string{"b", "a", "c"}, []string{"a", "c", "b"}, []string{"c", "b", "a"}, []string{"a", "b", "a"}, []string{"a", "b", "d", "c"}, []string{"b", "a", "c", "d"}, []string{"a", "c", "b", "d"}, []string{"d", "c", "b", "a"}, []string{"b", "c", "d", "a"})
}

// badNeeds are not valid, nearly all of them by one error alone.
func badNeeds() []impl.Need {
	list := []impl.Need{{}}
	for _, key := range badLabelKeys() {
		list = append(list, needOf(key, 1, "a"), needOf(key, 2, "a", "b"), needOf(key, 3), needOf(key, 4))
	}
	for _, op := range wrongOps() {
		list = append(list, needOf("a", op), needOf("a", op, "x"), needOf("a", op, ""), needOf("a", op, "x", "y"), needOf("a", op, manyValues(4)...), needOf("a", op, manyValues(5)...))
	}
	for _, values := range badValues() {
		list = append(list, needOf("a", 1, values...), needOf("a", 2, values...))
	}
	for _, values := range append(goodValues(), manyValues(5), manyValues(40), manyValues(41), []string{"-"}, []string{"b", "a"}) {
		list = append(list, needOf("a", 3, values...), needOf("a", 4, values...))
	}
	return list
}

// goodSelectors are valid lists of each length.
func goodSelectors() [][]impl.Need {
	list := [][]impl.Need{nil, {}, numberedNeeds(9)[:0], numberedNeeds(9)[5:9], numberedNeeds(9)[2:5],
		// Of needs with the same Key, the Op counts, and then the Values.
		{needOf("a", 1, "x"), needOf("a", 2, "x"), needOf("a", 3), needOf("a", 4)},
		{needOf("a", 1, "y"), needOf("a", 2, "x"), needOf("b", 1, "a")},
		{needOf("a", 1, ""), needOf("a", 1, "", "x"), needOf("a", 1, "x"), needOf("a", 1, "x", "y")},
		{needOf("a", 2, "x"), needOf("a", 2, "x", "y"), needOf("a", 2, "x", "y", "z"), needOf("a", 2, "x", "z")},
		{needOf("A", 4), needOf("a", 3), needOf("aa", 2, "x"), needOf("b", 1, "x")},
		{needOf("10", 3), needOf("9", 3)}, {needOf("a", 3), needOf("a-b", 3), needOf("a0", 3), needOf("aa", 3)},
		{needOf("a", 1, "x"), needOf("a", 4)}, {needOf("a", 1, "10"), needOf("a", 1, "9")}}
	for count := range 5 {
		list = append(list, numberedNeeds(count))
	}
	return append(list, []impl.Need{needOf("a", 1, "")}, []impl.Need{needOf("a", 2, "", "0", "A", "a")}, []impl.Need{{Key: "a", Op: 3, Values: []string{}}}, []impl.Need{{Key: "a", Op: 4}})
}

// badSelectors are ascending, but not valid, also when the Values are sorted.
func badSelectors() [][]impl.Need {
	list := [][]impl.Need{numberedNeeds(5), numberedNeeds(6), numberedNeeds(9)}
	for count := 1; count <= 4; count++ {
		for at := range count {
			key := numberedNeeds(count)[at].Key
			for _, n := range []impl.Need{needOf(key, 1), needOf(key, 2), needOf(key, 3, "a"), needOf(key, 4, ""), needOf(key, 0), needOf(key, 5), needOf(key, 0, "a"), needOf(key, 5, "a"), needOf(key, 1, "-"), needOf(key, 2, "a", "b b"), needOf(key, 1, manyValues(5)...), needOf(key, 2, manyValues(40)...), needOf(key+"-", 3), needOf(key+" ", 1, "a"), needOf(key+"\xff", 4), needOf(key+"=", 2, "a"), needOf(key+strings.Repeat("x", 29), 3)} {
				list = append(list, withNeed(numberedNeeds(count), at, n))
			}
		}
		list = append(list, withNeed(numberedNeeds(count), 0, needOf("", 3)), withNeed(numberedNeeds(count), count-1, needOf("\xff", 3)), withNeed(numberedNeeds(count), 0, impl.Need{}))
	}
	return list
}

// someLabels are lists of labels for the keys of the needs above, also ones that are not valid.
func someLabels() [][]impl.Label {
	list := [][]impl.Label{nil, {}, labelsOf("a", ""), labelsOf("a", "a"), labelsOf("a", "b"), labelsOf("a", "x"), labelsOf("a", "absent"), labelsOf("b", "a"), labelsOf("A", "a"), labelsOf("aa", "a"), labelsOf("k0", "v0", "k2", "v1"), labelsOf("k1", "v1", "k4", ""), labelsOf("k0", "v0", "k1", "v9", "k2", ""), numbered(6), numbered(9)[3:],
		labelsOf("a", "a", "a", "b"), labelsOf("a", "absent", "a", "a"), labelsOf("k0", "v1", "k0", "v0"), labelsOf("b", "1", "a", "a"), labelsOf("", ""), labelsOf("", "a", "a", "-"), labelsOf("a\xff", "a"), labelsOf("a", "a b")}
	for _, key := range goodKeys() {
		list = append(list, labelsOf(key, ""), labelsOf(key, "a"), labelsOf(key, "absent"))
	}
	return list
}

// shown is what a message says of needs, of a long list only the first ones.
func shown(needs ...impl.Need) string {
	text := ""
	for _, n := range needs[:min(len(needs), 6)] {
		text += fmt.Sprintf("{%.60q %d %.60q}", n.Key, n.Op, n.Values[:min(len(n.Values), 6)])
	}
	return text
}

func wantNeedOk(t *testing.T, want bool, needs ...impl.Need) {
	t.Helper()
	for _, n := range needs {
		if got := impl.NeedOk(n); got != want {
			t.Errorf("NeedOk(%s with %d Values) = %v; want %v", shown(n), len(n.Values), got, want)
		}
	}
}

// wantMet also checks that of a valid need and its negation exactly one is met.
func wantMet(t *testing.T, labels []impl.Label, n impl.Need, want bool) {
	t.Helper()
	if got := impl.NeedMet(labels, n); got != want {
		t.Errorf("NeedMet(%.200q, %s) = %v; want %v", labels, shown(n), got, want)
	}
	if not := negationOf(n); needByWords(n) && impl.NeedMet(labels, not) == want {
		t.Errorf("NeedMet(%.200q, %s) = %v, as of Op %d", labels, shown(not), want, n.Op)
	}
}

func wantBefore(t *testing.T, a impl.Need, b impl.Need) {
	t.Helper()
	if !impl.NeedLess(a, b) || impl.NeedLess(b, a) {
		t.Errorf("NeedLess(%s, %s) = %v, swapped %v; want true, swapped false", shown(a), shown(b), impl.NeedLess(a, b), impl.NeedLess(b, a))
	}
	wantNeitherBefore(t, a, cloneNeed(a))
	wantNeitherBefore(t, b, cloneNeed(b))
}

func wantNeitherBefore(t *testing.T, a impl.Need, b impl.Need) {
	t.Helper()
	if impl.NeedLess(a, b) || impl.NeedLess(b, a) {
		t.Errorf("NeedLess(%s, %s) = %v, swapped %v; want false", shown(a), shown(b), impl.NeedLess(a, b), impl.NeedLess(b, a))
	}
}

// wantSelectorOk also checks that a valid list is its own sorted form.
func wantSelectorOk(t *testing.T, want bool, lists ...[]impl.Need) {
	t.Helper()
	for _, list := range lists {
		if got := impl.SelectorOk(list); got != want {
			t.Errorf("SelectorOk(%s of %d) = %v; want %v", shown(list...), len(list), got, want)
		}
		if want {
			wantNeedsSorted(t, list, list)
		}
	}
}

func wantSelects(t *testing.T, list []impl.Need, labels []impl.Label, want bool) {
	t.Helper()
	if got := impl.Selects(list, labels); got != want {
		t.Errorf("Selects(%s, %.200q) = %v; want %v", shown(list...), labels, got, want)
	}
}

func wantNeedsSorted(t *testing.T, list []impl.Need, want []impl.Need) {
	t.Helper()
	if got, ok := impl.SortNeeds(list); !sameNeedsByWords(got, want) || !ok {
		t.Errorf("SortNeeds(%s of %d) = %s, %v; want %s, true", shown(list...), len(list), shown(got...), ok, shown(want...))
	}
}

func wantNeedsNotSorted(t *testing.T, lists ...[]impl.Need) {
	t.Helper()
	for _, list := range lists {
		if got, ok := impl.SortNeeds(list); !sameNeedsByWords(got, list) || ok {
			t.Errorf("SortNeeds(%s of %d) = %s, %v; want the list as it was, false", shown(list...), len(list), shown(got...), ok)
		}
	}
}

func wantNeedsSortedAsDocumented(t *testing.T, list []impl.Need) {
	t.Helper()
	if sorted, ok := sortedNeedsByWords(list); ok {
		wantNeedsSorted(t, list, sorted)
		wantSelectorOk(t, true, sorted)
	} else {
		wantNeedsNotSorted(t, list)
	}
	wantSelectorOk(t, selectorByWords(list), list)
}

func wantNeedLine(t *testing.T, n impl.Need, want string) {
	t.Helper()
	if got := impl.NeedLine(n); got != want {
		t.Errorf("NeedLine(%s) = %.200q; want %.200q", shown(n), got, want)
	}
}

func wantSameNeeds(t *testing.T, a []impl.Need, b []impl.Need, want bool) {
	t.Helper()
	if impl.SameNeeds(a, b) != want || impl.SameNeeds(b, a) != want {
		t.Errorf("SameNeeds(%s, %s) = %v, swapped %v; want %v", shown(a...), shown(b...), impl.SameNeeds(a, b), impl.SameNeeds(b, a), want)
	}
}

func TestNeedConstants(t *testing.T) {
	got := []int{impl.NdIn, impl.NdNotIn, impl.NdHas, impl.NdHasNot, impl.MaxNeeds, impl.MaxValues}
	if want := []int{1, 2, 3, 4, 4, 4}; !slices.Equal(got, want) {
		t.Errorf("NdIn to MaxValues = %v; want %v", got, want)
	}
}

func TestNeedsOfTheTestsAreAsNamed(t *testing.T) {
	for _, n := range goodNeeds() {
		if !needByWords(n) {
			t.Errorf("%s is not valid", shown(n))
		}
	}
	for _, n := range badNeeds() {
		if needByWords(n) {
			t.Errorf("%s is valid", shown(n))
		}
	}
	for _, list := range goodSelectors() {
		if !selectorByWords(list) {
			t.Errorf("%s is not valid", shown(list...))
		}
	}
	for _, list := range badSelectors() {
		if selectorByWords(list) {
			t.Errorf("%s is valid", shown(list...))
		}
	}
}

func TestNeedOkOfValidNeeds(t *testing.T) {
	wantNeedOk(t, true, goodNeeds()...)
	wantNeedOk(t, true, numberedNeeds(9)...)
	wantNeedOk(t, true, needOf("a", impl.NdIn, "x"), needOf("a", impl.NdNotIn, "x"), needOf("a", impl.NdHas), needOf("a", impl.NdHasNot))
}

func TestNeedOkOfNeedsThatAreNotValid(t *testing.T) {
	wantNeedOk(t, false, badNeeds()...)
}

func TestNeedOkOfEachNumberOfValues(t *testing.T) {
	for count := range 300 {
		values := manyValues(count)
		some, none := count >= 1 && count <= impl.MaxValues, count == 0
		wantNeedOk(t, some, needOf("a", impl.NdIn, values...), needOf("a", impl.NdNotIn, values...))
		wantNeedOk(t, none, needOf("a", impl.NdHas, values...), needOf("a", impl.NdHasNot, values...))
		wantNeedOk(t, false, needOf("a", 0, values...), needOf("a", 5, values...))
	}
	wantNeedOk(t, false, needOf("a", 1, manyValues(70000)...), needOf("a", 3, manyValues(70000)...))
}

func TestNeedOkOfNilAndEmptyValues(t *testing.T) {
	for _, values := range [][]string{nil, {}, manyValues(5)[:0], make([]string, 0, 9)} {
		for op := range 6 {
			wantNeedOk(t, op == 3 || op == 4, impl.Need{Key: "a", Op: op, Values: values})
		}
	}
}

func TestNeedOkOfEachOp(t *testing.T) {
	for op := -300; op <= 300; op++ {
		wantNeedOk(t, op == 1 || op == 2, needOf("a", op, "x"))
		wantNeedOk(t, op == 3 || op == 4, needOf("a", op))
	}
	for _, op := range wrongOps() {
		wantNeedOk(t, false, needOf("a", op), needOf("a", op, "x"))
	}
}

func TestNeedOkOfEachKey(t *testing.T) {
	keys := slices.Concat(goodKeys(), badLabelKeys(), textsOf(3, "a", "Z", "0", "-", "_", ".", "/", " "))
	for size := range 70 {
		keys = append(keys, strings.Repeat("k", size), "k"+strings.Repeat("/", size)+"k")
	}
	for _, key := range keys {
		valid := labelKeyWords.MatchString(key)
		wantNeedOk(t, valid, needOf(key, 1, "x"), needOf(key, 2, "x", "y"), needOf(key, 3), needOf(key, 4))
		wantNeedOk(t, false, needOf(key, 1), needOf(key, 2), needOf(key, 3, "x"), needOf(key, 4, "x"), needOf(key, 0), needOf(key, 5, "x"))
	}
}

// A value that is not valid is the only error, in each place of lists of each length.
func TestNeedOkOfAValueThatIsNotValidInEachPlace(t *testing.T) {
	for count := 1; count <= 4; count++ {
		for at := range count {
			tried := 0
			for _, bad := range append(badLabelValues(), "v-", "a1-", "b b", "b/b") {
				values := aroundValue(bad, count, at)
				if values == nil {
					continue
				}
				tried++
				wantNeedOk(t, false, needOf("a", 1, values...), needOf("a", 2, values...))
			}
			if tried < 4 {
				t.Errorf("at %d of %d Values only %d were tried", at, count, tried)
			}
		}
	}
}

func TestNeedOkOfValuesInEachOrder(t *testing.T) {
	for _, values := range goodValues() {
		for _, order := range orders(values) {
			wantNeedOk(t, slices.Equal(order, values), needOf("a", 1, order...), needOf("a", 2, order...))
		}
	}
}

func TestNeedOkOfEqualValues(t *testing.T) {
	for _, values := range goodValues() {
		for at, value := range values {
			for _, twice := range [][]string{withValue(values, at, value), append(slices.Clone(values), value), withValue(values, 0, value)} {
				wantNeedOk(t, false, needOf("a", 1, twice...), needOf("a", 2, twice...))
			}
		}
	}
	wantNeedOk(t, false, needOf("a", 1, "", ""), needOf("a", 1, "a", "a"), needOf("a", 1, "a", "a", "a"), needOf("a", 1, "", "", "a"), needOf("a", 1, "a", "a", "b", "b"))
}

// The empty text is a valid value, and differs from none at all.
func TestNeedOkOfTheEmptyValue(t *testing.T) {
	wantNeedOk(t, true, needOf("a", 1, ""), needOf("a", 2, ""), needOf("a", 1, "", "a"), needOf("a", 2, "", "0", "A", "a"))
	wantNeedOk(t, false, needOf("a", 3, ""), needOf("a", 4, ""), needOf("a", 0, ""), needOf("a", 5, ""), needOf("a", 1, "a", ""), needOf("a", 2, "a", "", "b"), needOf("a", 1, "", "a", "b", "c", "d"))
}

func TestNeedOkOfShortValues(t *testing.T) {
	texts := textsOf(2, "a", "Z", "-", "/")
	for _, first := range texts {
		for _, second := range texts {
			for op := 1; op <= 4; op++ {
				for _, n := range []impl.Need{needOf("a", op, first), needOf("a", op, first, second), needOf("a", op, "", first, second), needOf("a", op, first, second, "zz")} {
					wantNeedOk(t, needByWords(n), n)
				}
			}
		}
	}
}

func TestNeedMetOfALabelWithAValueAmongTheValues(t *testing.T) {
	for _, values := range goodValues() {
		for _, value := range values {
			for _, labels := range [][]impl.Label{labelsOf("a", value), labelsOf("A", "absent", "a", value), labelsOf("a", value, "b", "absent"), labelsOf("0", "", "a", value, "aa", "")} {
				wantMet(t, labels, needOf("a", impl.NdIn, values...), true)
				wantMet(t, labels, needOf("a", impl.NdNotIn, values...), false)
				wantMet(t, labels, needOf("a", impl.NdHas), true)
				wantMet(t, labels, needOf("a", impl.NdHasNot), false)
			}
		}
	}
}

func TestNeedMetOfALabelWithAnotherValue(t *testing.T) {
	for _, values := range goodValues() {
		for _, value := range []string{"", "a", "b", "x", "absent", "a a", "-", values[0] + "x", strings.ToUpper(values[0]) + ".", strings.Join(values, ","), "zzz", "a\x00", strings.Repeat("w", 21)} {
			if slices.Contains(values, value) {
				continue
			}
			for _, labels := range [][]impl.Label{labelsOf("a", value), labelsOf("A", values[0], "a", value), labelsOf("a", value, "b", values[0]), labelsOf("a", value, "aa", values[0])} {
				wantMet(t, labels, needOf("a", impl.NdIn, values...), false)
				wantMet(t, labels, needOf("a", impl.NdNotIn, values...), true)
				wantMet(t, labels, needOf("a", impl.NdHas), true)
				wantMet(t, labels, needOf("a", impl.NdHasNot), false)
			}
		}
	}
}

// An absent label differs from one with an empty value.
func TestNeedMetOfAnAbsentLabel(t *testing.T) {
	for _, values := range goodValues() {
		for _, labels := range [][]impl.Label{nil, {}, labelsOf("a", values[0])[:0], labelsOf("A", values[0]), labelsOf("aa", values[0], "b", values[0]), labelsOf("", values[0]), labelsOf(values[0], "a"), labelsOf("a ", values[0]), labelsOf("a\x00", "")} {
			if slices.ContainsFunc(labels, func(label impl.Label) bool { return label.Key == "a" }) {
				continue
			}
			wantMet(t, labels, needOf("a", impl.NdIn, values...), false)
			wantMet(t, labels, needOf("a", impl.NdNotIn, values...), true)
			wantMet(t, labels, needOf("a", impl.NdHas), false)
			wantMet(t, labels, needOf("a", impl.NdHasNot), true)
		}
	}
}

func TestNeedMetOfEmptyValues(t *testing.T) {
	for _, labels := range [][]impl.Label{labelsOf("a", ""), labelsOf("0", "x", "a", "")} {
		wantMet(t, labels, needOf("a", impl.NdIn, ""), true)
		wantMet(t, labels, needOf("a", impl.NdIn, "", "x"), true)
		wantMet(t, labels, needOf("a", impl.NdIn, "x"), false)
		wantMet(t, labels, needOf("a", impl.NdNotIn, ""), false)
		wantMet(t, labels, needOf("a", impl.NdHas), true)
		wantMet(t, labels, needOf("a", impl.NdHasNot), false)
	}
	wantMet(t, nil, needOf("a", impl.NdIn, ""), false)
	wantMet(t, nil, needOf("a", impl.NdNotIn, ""), true)
	wantMet(t, labelsOf("a", "x"), needOf("a", impl.NdIn, ""), false)
}

// LabelAt returns the first label with a key.
func TestNeedMetOfLabelsWithTheSameKeyTwice(t *testing.T) {
	for _, labels := range [][]impl.Label{labelsOf("a", "x", "a", "y"), labelsOf("b", "y", "a", "x", "b", "y", "a", "y"), labelsOf("a", "x", "a", "y", "a", "x"), labelsOf("a", "x", "a", "")} {
		wantMet(t, labels, needOf("a", impl.NdIn, "x"), true)
		wantMet(t, labels, needOf("a", impl.NdIn, "y"), false)
		wantMet(t, labels, needOf("a", impl.NdIn, "", "y"), false)
		wantMet(t, labels, needOf("a", impl.NdIn, "x", "y"), true)
		wantMet(t, labels, needOf("a", impl.NdIn, "z"), false)
		wantMet(t, labels, needOf("a", impl.NdHas), true)
		wantMet(t, labels, needOf("a", impl.NdHasNot), false)
	}
}

func TestNeedMetOfNeedsThatAreNotValid(t *testing.T) {
	for _, n := range badNeeds() {
		for _, labels := range [][]impl.Label{nil, labelsOf("a", "a"), labelsOf("a", "x"), labelsOf("a", ""), labelsOf("b", "x"), labelsOf(n.Key, "a"), labelsOf(n.Key, "absent"), labelsOf(n.Key, strings.Join(n.Values, ","))} {
			wantMet(t, labels, n, false)
			wantSelects(t, []impl.Need{n}, labels, false)
		}
		for _, value := range n.Values[:min(len(n.Values), 6)] {
			wantMet(t, labelsOf(n.Key, value), n, false)
		}
	}
}

// No condition is named for the labels.
func TestNeedMetOfLabelsThatAreNotValid(t *testing.T) {
	wantMet(t, numbered(9), needOf("k8", impl.NdIn, "v8"), true)
	wantMet(t, numbered(9), needOf("k8", impl.NdHasNot), false)
	wantMet(t, labelsOf("b", "1", "a", "2"), needOf("a", impl.NdIn, "2"), true)
	wantMet(t, labelsOf("", "1", "a", "2"), needOf("a", impl.NdIn, "2"), true)
	wantMet(t, labelsOf("a", "-"), needOf("a", impl.NdNotIn, "2"), true)
	wantMet(t, labelsOf("a", "-"), needOf("a", impl.NdHas), true)
	for _, labels := range append(badLists()[:200], someLabels()...) {
		for _, n := range []impl.Need{needOf("k0", 1, "v0"), needOf("k2", 1, "", "v"), needOf("k1", 3), needOf("k6", 4), needOf("a", 2, "a", "b")} {
			wantMet(t, labels, n, metByWords(labels, n))
		}
	}
}

func TestOfANeedAndItsNegationExactlyOneIsMet(t *testing.T) {
	for _, labels := range append(someLabels(), goodLists()...) {
		for _, n := range slices.Concat(goodNeeds(), numberedNeeds(9)) {
			not := negationOf(n)
			if impl.NeedMet(labels, n) == impl.NeedMet(labels, not) {
				t.Errorf("NeedMet(%.200q, %s) = %v, as of Op %d", labels, shown(n), impl.NeedMet(labels, n), not.Op)
			}
			if impl.Selects([]impl.Need{n}, labels) == impl.Selects([]impl.Need{not}, labels) {
				t.Errorf("Selects(%s, %.200q) = %v, as of Op %d", shown(n), labels, impl.Selects([]impl.Need{n}, labels), not.Op)
			}
			both := []impl.Need{n, not}
			slices.SortFunc(both, func(a, b impl.Need) int { return a.Op - b.Op })
			wantSelectorOk(t, true, both)
			wantSelects(t, both, labels, false)
		}
	}
}

func TestNeedMetOfShortLists(t *testing.T) {
	labels := [][]impl.Label{{}}
	single := []impl.Label{}
	for _, key := range []string{"a", "b", "ab"} {
		for _, value := range []string{"", "x", "y", "z", "x-"} {
			single = append(single, impl.Label{Key: key, Value: value})
		}
	}
	for _, first := range single {
		labels = append(labels, []impl.Label{first})
		for _, second := range single {
			labels = append(labels, []impl.Label{first, second})
		}
	}
	values := [][]string{{}}
	for from := 0; len(values[from]) < 3; from++ {
		for _, value := range []string{"", "x", "y", "x-"} {
			values = append(values, append(slices.Clone(values[from]), value))
		}
	}
	for _, list := range values {
		for op := range 6 {
			n := needOf("a", op, list...)
			wantNeedOk(t, needByWords(n), n)
			for _, l := range labels {
				wantMet(t, l, n, metByWords(l, n))
			}
		}
	}
}

// orderedNeeds are strictly ascending, also where they are not valid.
func orderedNeeds() []impl.Need {
	list := []impl.Need{}
	for _, key := range []string{"", "A", "a", "a\x00", "a b", "a-", "a-b", "aa", "b", "\xff"} {
		for _, op := range []int{math.MinInt, -1, 0, 1, 2, 3, 4, 5, 10, 257, math.MaxInt} {
			for _, values := range [][]string{nil, {""}, {"", ""}, {"", "a"}, {"A"}, {"a"}, {"a", ""}, {"a", "a"}, {"a", "a", "a"}, {"a", "b"}, {"a\x00"}, {"a,b"}, {"a.b"}, {"aa"}, {"b"}, {"b", "a"}} {
				list = append(list, needOf(key, op, values...))
			}
		}
	}
	return list
}

func TestNeedLessOfEachPairOfNeeds(t *testing.T) {
	list := orderedNeeds()
	for i, a := range list {
		for j, b := range list {
			if impl.NeedLess(a, b) != (i < j) {
				t.Fatalf("NeedLess(%s, %s) = %v; want %v", shown(a), shown(b), i >= j, i < j)
			}
		}
	}
}

func TestNeedLessOfOneDifference(t *testing.T) {
	wantBefore(t, needOf("a", 1, "x"), needOf("b", 1, "x"))
	wantBefore(t, needOf("a", 1, "x"), needOf("aa", 1, "x"))
	wantBefore(t, needOf("A", 3), needOf("a", 3))
	wantBefore(t, needOf("10", 3), needOf("9", 3))
	wantBefore(t, needOf("a", 1, "x"), needOf("a", 2, "x"))
	wantBefore(t, needOf("a", 3), needOf("a", 4))
	wantBefore(t, needOf("a", 1, "x"), needOf("a", 1, "y"))
	wantBefore(t, needOf("a", 1, "10"), needOf("a", 1, "9"))
	wantBefore(t, needOf("a", 1, "A"), needOf("a", 1, "a"))
	wantBefore(t, needOf("a", 1, ""), needOf("a", 1, "a"))
	wantBefore(t, needOf("a", 1, "a"), needOf("a", 1, "aa"))
	for at := range 4 {
		smaller, greater := manyValues(4), manyValues(4)
		greater[at] += "x"
		for op := 1; op <= 2; op++ {
			wantBefore(t, needOf("a", op, smaller...), needOf("a", op, greater...))
			wantBefore(t, needOf("a", op, smaller[:at+1]...), needOf("a", op, greater[:at+1]...))
		}
	}
}

// The first difference counts, and no later one.
func TestNeedLessOfTwoDifferences(t *testing.T) {
	wantBefore(t, needOf("a", 4), needOf("b", 1, "x"))
	wantBefore(t, needOf("a", 2, "z"), needOf("b", 1, "a"))
	wantBefore(t, needOf("a", 2, "z"), needOf("b", 2, "a"))
	wantBefore(t, needOf("a", 1, "z"), needOf("a", 2, "a"))
	wantBefore(t, needOf("a", 2, "z"), needOf("a", 3))
	wantBefore(t, needOf("a", 1, "x", "y", "z"), needOf("a", 1, "y"))
	wantBefore(t, needOf("a", 1, "", "z"), needOf("a", 1, "a"))
	wantBefore(t, needOf("a", 1, "a", "z"), needOf("a", 1, "aa", "b"))
	wantBefore(t, needOf("a", 1, "x", "y", "zz"), needOf("a", 1, "x", "z", "za"))
	wantBefore(t, needOf("aa", 1, "x"), needOf("b", 1))
}

func TestNeedLessOfAPrefix(t *testing.T) {
	for count := range 7 {
		for shorter := range count {
			for op := range 6 {
				wantBefore(t, needOf("a", op, manyValues(shorter)...), needOf("a", op, manyValues(count)...))
			}
		}
	}
	wantBefore(t, impl.Need{Key: "a", Op: 1, Values: nil}, needOf("a", 1, ""))
	wantBefore(t, impl.Need{Key: "a", Op: 1, Values: []string{}}, needOf("a", 1, ""))
	wantBefore(t, needOf("a", 1, "x"), needOf("a", 1, "x", ""))
}

func TestNeedLessOfEqualNeeds(t *testing.T) {
	for _, n := range slices.Concat(goodNeeds(), badNeeds()) {
		wantNeitherBefore(t, n, n)
		wantNeitherBefore(t, n, cloneNeed(n))
	}
	wantNeitherBefore(t, impl.Need{Key: "a", Op: 3, Values: nil}, impl.Need{Key: "a", Op: 3, Values: []string{}})
	// What lies behind the Values does not count.
	wantNeitherBefore(t, impl.Need{Key: "a", Op: 1, Values: []string{"x", "y"}[:1]}, impl.Need{Key: "a", Op: 1, Values: []string{"x", "a"}[:1]})
}

func TestNeedLessOfNeedsThatAreNotValid(t *testing.T) {
	wantBefore(t, impl.Need{}, needOf("", 1))
	wantBefore(t, impl.Need{}, needOf("a", 3))
	wantBefore(t, needOf("", 9, "z"), needOf("a", 1, "a"))
	wantBefore(t, needOf("a", math.MinInt), needOf("a", math.MaxInt))
	wantBefore(t, needOf("a", -1), needOf("a", 1, "x"))
	wantBefore(t, needOf("a", 4), needOf("a", 5))
	wantBefore(t, needOf("a", 3), needOf("a", 3, "x"))
	wantBefore(t, needOf("a", 1, "b", "a"), needOf("a", 1, "b", "b"))
	wantBefore(t, needOf("a", 1, "a b"), needOf("a", 1, "a\xff"))
	list := badNeeds()
	for i := 0; i < len(list); i += 3 {
		for j := 0; j < len(list); j += 5 {
			if got, want := impl.NeedLess(list[i], list[j]), beforeByWords(list[i], list[j]); got != want {
				t.Errorf("NeedLess(%s, %s) = %v; want %v", shown(list[i]), shown(list[j]), got, want)
			}
		}
	}
}

func TestSelectorOkOfValidLists(t *testing.T) {
	wantSelectorOk(t, true, goodSelectors()...)
	for _, n := range goodNeeds() {
		wantSelectorOk(t, true, []impl.Need{n})
	}
}

func TestSelectorOkOfListsThatAreNotValid(t *testing.T) {
	wantSelectorOk(t, false, badSelectors()...)
	for _, n := range badNeeds() {
		wantSelectorOk(t, false, []impl.Need{n})
	}
}

func TestSelectorOkOfEachNumberOfNeeds(t *testing.T) {
	all := []impl.Need{}
	for _, value := range manyValues(70000) {
		all = append(all, needOf("a", 1, value))
	}
	for _, count := range []int{0, 1, 2, 3, 4, 5, 6, 7, 8, 40, 41, 255, 256, 257, 260, 65536, 65540, 70000} {
		wantSelectorOk(t, count <= impl.MaxNeeds, all[:count])
	}
	for count := range 10 {
		wantSelectorOk(t, count <= impl.MaxNeeds, numberedNeeds(count))
	}
}

func TestSelectorOkOfNeedsInEachOrder(t *testing.T) {
	for _, list := range goodSelectors() {
		for _, order := range orders(list) {
			wantSelectorOk(t, sameNeedsByWords(order, list), order)
		}
	}
}

func TestSelectorOkOfEqualNeeds(t *testing.T) {
	for _, list := range goodSelectors() {
		for at, n := range list {
			twice := slices.Insert(cloneNeeds(list), at, cloneNeed(n))
			wantSelectorOk(t, false, twice, twice[at:at+2], twice[:at+2], twice[at:])
		}
	}
	wantSelectorOk(t, false, []impl.Need{{Key: "a", Op: 3}, {Key: "a", Op: 3, Values: []string{}}})
}

func TestSelectorOkOfDescendingNeeds(t *testing.T) {
	wantSelectorOk(t, false, []impl.Need{needOf("b", 3), needOf("a", 3)}, []impl.Need{needOf("a", 4), needOf("a", 3)}, []impl.Need{needOf("a", 1, "y"), needOf("a", 1, "x")}, []impl.Need{needOf("a", 1, "x", "y"), needOf("a", 1, "x")},
		[]impl.Need{needOf("a", 3), needOf("c", 3), needOf("b", 3)}, []impl.Need{needOf("b", 3), needOf("a", 3), needOf("c", 3)}, []impl.Need{needOf("a", 3), needOf("b", 3), needOf("d", 3), needOf("c", 3)}, []impl.Need{needOf("a", 2, "x"), needOf("a", 1, "y")}, []impl.Need{needOf("b", 1, "a"), needOf("a", 2, "b")})
}

func TestSelectsOfTheEmptyList(t *testing.T) {
	for _, labels := range someLabels() {
		wantSelects(t, nil, labels, true)
		wantSelects(t, []impl.Need{}, labels, true)
		wantSelects(t, numberedNeeds(4)[:0], labels, true)
	}
}

func TestSelectsOfEachSetOfNeedsThatAreMet(t *testing.T) {
	labels := labelsOf("k0", "v0", "k2", "", "k4", "v4")
	for count := 1; count <= 6; count++ {
		for set := range 1 << count {
			list := cloneNeeds(numberedNeeds(count))
			for i := range list {
				met := metByWords(labels, list[i])
				if met != (set>>i&1 == 1) {
					list[i] = negationOf(list[i])
				}
			}
			wantSelects(t, list, labels, set == 1<<count-1)
		}
	}
}

func TestSelectsOfOneNeedThatIsNotMet(t *testing.T) {
	labels := labelsOf("k0", "v0", "k1", "v7", "k2", "x")
	wantSelects(t, numberedNeeds(4), labels, true)
	for at, unmet := range []impl.Need{needOf("k0", 1, "v1"), needOf("k1", 2, "v7"), needOf("k2", 4), needOf("k3", 3)} {
		wantSelects(t, withNeed(numberedNeeds(4), at, unmet), labels, false)
		wantSelects(t, []impl.Need{unmet}, labels, false)
	}
	wantSelects(t, numberedNeeds(4), nil, false)
	wantSelects(t, numberedNeeds(4)[3:], nil, true)
}

func TestSelectsOfListsWithANeedThatIsNotValid(t *testing.T) {
	labels := labelsOf("a", "x", "k0", "v0", "k1", "v7", "k2", "x")
	for count := 1; count <= 4; count++ {
		for at := range count {
			wantSelects(t, numberedNeeds(count), labels, true)
			for _, n := range badNeeds() {
				wantSelects(t, withNeed(numberedNeeds(count), at, n), labels, false)
			}
		}
	}
}

// Only the needs have to be valid, not the list of them.
func TestSelectsOfListsThatAreNotValid(t *testing.T) {
	labels := labelsOf("k0", "v0", "k1", "v7", "k2", "x", "k4", "v4", "k5", "x", "k6", "", "k8", "d")
	wantSelects(t, numberedNeeds(9), labels, true)
	wantSelects(t, cycle(100, numberedNeeds(9)...), labels, true)
	wantSelects(t, append(cycle(100, numberedNeeds(9)...), needOf("k9", 3)), labels, false)
	for _, order := range orders(numberedNeeds(5)) {
		wantSelects(t, order, labels, true)
		wantSelects(t, order, labels[1:], false)
	}
	wantSelects(t, []impl.Need{needOf("k0", 3), needOf("k0", 3)}, labels, true)
}

func TestSelectsOfEachListAndLabels(t *testing.T) {
	selected := 0
	for _, labels := range append(someLabels(), goodLists()...) {
		for _, list := range append(goodSelectors(), badSelectors()...) {
			want := selectsByWords(list, labels)
			wantSelects(t, list, labels, want)
			if want && len(list) > 0 {
				selected++
			}
		}
	}
	if selected < 100 {
		t.Errorf("only %d lists of needs are met", selected)
	}
}

func TestSortNeedsOfTheEmptyList(t *testing.T) {
	wantNeedsSorted(t, nil, nil)
	wantNeedsSorted(t, []impl.Need{}, nil)
	wantNeedsSorted(t, make([]impl.Need, 0, 9), nil)
	wantNeedsSorted(t, numberedNeeds(9)[:0], nil)
}

func TestSortNeedsOfEachOrder(t *testing.T) {
	for _, list := range goodSelectors() {
		for _, order := range orders(list) {
			wantNeedsSorted(t, order, list)
		}
	}
}

func TestSortNeedsOfValuesInEachOrder(t *testing.T) {
	for _, values := range goodValues() {
		for _, order := range orders(values) {
			for op := 1; op <= 2; op++ {
				wantNeedsSorted(t, []impl.Need{needOf("a", op, order...)}, []impl.Need{needOf("a", op, values...)})
				wantNeedsSorted(t, []impl.Need{needOf("b", 3), needOf("a", op, order...)}, []impl.Need{needOf("a", op, values...), needOf("b", 3)})
			}
		}
	}
}

func TestSortNeedsOfDuplicateValues(t *testing.T) {
	for _, values := range [][]string{{"x", "x"}, {"", ""}, {"x", "y", "x"}, {"y", "x", "x"}, {"y", "x", "y"}, {"x", "x", "x"}, {"z", "", "z", ""}, {"b", "a", "b", "a", "b"}, {"d", "c", "b", "a", "d"}, {"a", "b", "c", "d", "d"}} {
		for _, order := range orders(values) {
			for op := 1; op <= 2; op++ {
				wantNeedsSorted(t, []impl.Need{needOf("a", op, order...)}, []impl.Need{needOf("a", op, valuesOnceByWords(values)...)})
			}
		}
	}
	// In more than one need.
	wantNeedsSorted(t, []impl.Need{needOf("b", 2, "y", "x", "y"), needOf("a", 1, "", "z", "")}, []impl.Need{needOf("a", 1, "", "z"), needOf("b", 2, "x", "y")})
	// Values that differ are no duplicates.
	wantNeedsSorted(t, []impl.Need{needOf("a", 1, "aa", "a", "A")}, []impl.Need{needOf("a", 1, "A", "a", "aa")})
}

func TestSortNeedsOfDuplicateNeeds(t *testing.T) {
	for _, list := range goodSelectors() {
		for at, n := range list {
			twice := append(cloneNeeds(list), cloneNeed(n))
			for _, order := range orders(twice) {
				wantNeedsSorted(t, order, list)
			}
			wantNeedsSorted(t, slices.Insert(cloneNeeds(list), at, n, n, n), list)
		}
	}
	wantNeedsSorted(t, []impl.Need{{Key: "a", Op: 3}, {Key: "a", Op: 3, Values: []string{}}}, []impl.Need{needOf("a", 3)})
	wantNeedsSorted(t, cycle(12, numberedNeeds(4)...), numberedNeeds(4))
	// Needs that differ in one field are no duplicates.
	list := []impl.Need{needOf("a", 1, "x"), needOf("a", 1, "y"), needOf("a", 2, "x"), needOf("b", 1, "x")}
	wantNeedsSorted(t, cycle(8, list...), list)
}

func TestSortNeedsOfNeedsThatAreEqualOnceTheirValuesAreSorted(t *testing.T) {
	one := needOf("a", 1, "x", "y")
	for _, order := range orders([]impl.Need{needOf("a", 1, "x", "y"), needOf("a", 1, "y", "x"), needOf("a", 1, "y", "x", "y"), needOf("a", 1, "x", "x", "y"), needOf("a", 1, "x", "y", "y", "x", "y")}) {
		wantNeedsSorted(t, order, []impl.Need{one})
		wantNeedsSorted(t, append(order, needOf("a", 2, "y", "x"), needOf("a", 1, "y", "y")), []impl.Need{one, needOf("a", 1, "y"), needOf("a", 2, "x", "y")})
	}
	wantNeedsSorted(t, []impl.Need{needOf("a", 1, "x", "x"), needOf("a", 1, "x")}, []impl.Need{needOf("a", 1, "x")})
	// The order of the needs is that of the sorted Values.
	wantNeedsSorted(t, []impl.Need{needOf("a", 1, "z", "x"), needOf("a", 1, "y")}, []impl.Need{needOf("a", 1, "x", "z"), needOf("a", 1, "y")})
	wantNeedsSorted(t, []impl.Need{needOf("a", 1, "y"), needOf("a", 1, "z", "x")}, []impl.Need{needOf("a", 1, "x", "z"), needOf("a", 1, "y")})
	wantNeedsSorted(t, []impl.Need{needOf("a", 1, "x", "y"), needOf("a", 1, "x", "x")}, []impl.Need{needOf("a", 1, "x"), needOf("a", 1, "x", "y")})
}

func TestSortNeedsOfManyNeeds(t *testing.T) {
	for distinct := 1; distinct <= 4; distinct++ {
		list := numberedNeeds(distinct)
		slices.Reverse(list)
		for _, count := range []int{distinct, 5, 7, 8, 39, 40, 41, 42, 80, 256, 1000} {
			cycled := cycle(max(count, distinct), list...)
			if count <= 40 {
				wantNeedsSorted(t, cycled, numberedNeeds(distinct))
			} else {
				wantNeedsNotSorted(t, cycled)
			}
		}
	}
	same := []impl.Need{needOf("a", 2, "y", "x"), needOf("a", 2, "x", "y", "x"), needOf("a", 2, "x", "y")}
	wantNeedsSorted(t, cycle(40, same...), same[2:])
	wantNeedsNotSorted(t, cycle(41, same...))
	wantNeedsSorted(t, cycle(40, numberedNeeds(1)...), numberedNeeds(1))
	wantNeedsNotSorted(t, cycle(41, numberedNeeds(1)...))
}

func TestSortNeedsOfManyValues(t *testing.T) {
	for distinct := 1; distinct <= 4; distinct++ {
		values := manyValues(distinct)
		slices.Reverse(values)
		for _, count := range []int{distinct, 5, 8, 39, 40, 41, 42, 80, 256, 1000} {
			for at := range 4 {
				many := cycle(max(count, distinct), values...)
				list := withNeed(numberedNeeds(4), at, needOf("k"+impl.Decimal(at), 1+at%2, many...))
				slices.Reverse(list)
				if count <= 40 {
					wantNeedsSorted(t, list, withNeed(numberedNeeds(4), at, needOf("k"+impl.Decimal(at), 1+at%2, manyValues(distinct)...)))
				} else {
					wantNeedsNotSorted(t, list)
				}
			}
		}
	}
	wantNeedsSorted(t, []impl.Need{needOf("a", 1, cycle(40, "x")...)}, []impl.Need{needOf("a", 1, "x")})
	wantNeedsNotSorted(t, []impl.Need{needOf("a", 1, cycle(41, "x")...)})
	// The limit is one of each need, not of all together.
	wantNeedsSorted(t, cycle(40, needOf("a", 1, cycle(40, "y", "x")...)), []impl.Need{needOf("a", 1, "x", "y")})
	wantNeedsNotSorted(t, append(cycle(39, needOf("a", 1, cycle(40, "y", "x")...)), needOf("a", 1, cycle(41, "y", "x")...)))
}

func TestSortNeedsOfResultsWithTooManyNeeds(t *testing.T) {
	for _, order := range orders(numberedNeeds(5)) {
		wantNeedsNotSorted(t, order, append(cloneNeeds(order), order...))
	}
	for count := 5; count <= 9; count++ {
		reversed := numberedNeeds(count)
		slices.Reverse(reversed)
		wantNeedsNotSorted(t, reversed, cycle(40, reversed...))
	}
	all := []impl.Need{}
	for _, value := range manyValues(300) {
		all = append(all, needOf("a", 1, value))
	}
	slices.Reverse(all)
	wantNeedsNotSorted(t, all[:5], all[:39], all[:40], all[:41], all[:256], all[:258], all)
}

func TestSortNeedsOfResultsWithTooManyValues(t *testing.T) {
	for _, order := range orders([]string{"v", "w", "x", "y", "z"}) {
		for op := 1; op <= 2; op++ {
			wantNeedsNotSorted(t, []impl.Need{needOf("a", op, order...)}, []impl.Need{needOf("b", 3), needOf("a", op, order...), needOf("b", 3)}, []impl.Need{needOf("b", 1, "y", "x", "x"), needOf("a", op, append(order, order...)...)})
		}
	}
	for _, count := range []int{5, 6, 39, 40, 41, 256, 258} {
		values := manyValues(count)
		slices.Reverse(values)
		wantNeedsNotSorted(t, []impl.Need{needOf("a", 1, values...)}, []impl.Need{needOf("b", 4), needOf("a", 2, values...)})
	}
}

// Each list has one error, which also stays when the list is in another order.
func TestSortNeedsOfListsThatAreNotValid(t *testing.T) {
	for _, list := range badSelectors() {
		reversed := cloneNeeds(list)
		slices.Reverse(reversed)
		wantNeedsNotSorted(t, list, reversed, slices.Concat(list[1:], list[:1]), slices.Concat(reversed[1:], reversed[:1]), append(cloneNeeds(list), list...))
	}
	for _, n := range badNeeds() {
		if sorted := valuesOnceByWords(n.Values); needByWords(needOf(n.Key, n.Op, sorted...)) && len(n.Values) <= 40 {
			wantNeedsSorted(t, []impl.Need{n, n}, []impl.Need{needOf(n.Key, n.Op, sorted...)})
			continue
		}
		wantNeedsNotSorted(t, []impl.Need{n}, []impl.Need{needOf("b", 2, "y", "x", "y"), n, needOf("0", 3)}, []impl.Need{needOf("b", 3), needOf("a", 3), n, n})
	}
}

// A need without Values remains without them, and keeps no others.
func TestSortNeedsOfNeedsWithoutValues(t *testing.T) {
	for op := 3; op <= 4; op++ {
		for _, values := range [][]string{nil, {}, manyValues(9)[:0]} {
			wantNeedsSorted(t, []impl.Need{{Key: "b", Op: op, Values: values}, {Key: "a", Op: op, Values: values}}, []impl.Need{needOf("a", op), needOf("b", op)})
		}
		for _, values := range append(goodValues(), cycle(40, "x"), cycle(41, "x"), []string{"x", "x"}, []string{"y", "x"}) {
			wantNeedsNotSorted(t, []impl.Need{needOf("a", op, values...)}, []impl.Need{needOf("b", 3), needOf("a", op, values...)})
		}
	}
}

func TestSortNeedsMakesNeedsCanonical(t *testing.T) {
	for _, order := range orders([]impl.Need{needOf("b", 1, "y", "x"), needOf("a", 3), needOf("b", 1, "x", "y", "x"), needOf("a", 2, "", "")}) {
		sorted, ok := impl.SortNeeds(order)
		lines := []string{}
		for _, n := range sorted {
			lines = append(lines, impl.NeedLine(n))
		}
		if want := []string{"a notin ", "a has", "b in x,y"}; !slices.Equal(lines, want) || !ok {
			t.Errorf("the lines of the sorted needs %s are %q; want %q", shown(order...), lines, want)
		}
		again, okAgain := impl.SortNeeds(sorted)
		if !impl.SameNeeds(sorted, again) || !okAgain {
			t.Errorf("sorting %s again gives %s", shown(sorted...), shown(again...))
		}
	}
}

func TestSortingNeedsDoesNotChangeWhatTheySelect(t *testing.T) {
	for _, list := range goodSelectors() {
		for _, order := range orders(list) {
			sorted, _ := impl.SortNeeds(order)
			for _, labels := range someLabels() {
				wantSelects(t, sorted, labels, selectsByWords(order, labels))
			}
		}
	}
}

func TestNeedLineOfKnownNeeds(t *testing.T) {
	wantNeedLine(t, needOf("a", impl.NdIn, "x"), "a in x")
	wantNeedLine(t, needOf("a", impl.NdIn, "x", "y"), "a in x,y")
	wantNeedLine(t, needOf("a", impl.NdNotIn, "x"), "a notin x")
	wantNeedLine(t, needOf("a", impl.NdNotIn, "x", "y", "z"), "a notin x,y,z")
	wantNeedLine(t, needOf("a", impl.NdHas), "a has")
	wantNeedLine(t, needOf("a", impl.NdHasNot), "a hasnot")
	wantNeedLine(t, needOf("app.io/Name", impl.NdIn, "A", "b-c", "d_e", "f.g"), "app.io/Name in A,b-c,d_e,f.g")
	wantNeedLine(t, needOf("has", impl.NdHas), "has has")
	wantNeedLine(t, needOf("in", impl.NdIn, "in", "notin"), "in in in,notin")
	wantNeedLine(t, impl.Need{Key: "a", Op: impl.NdHas, Values: []string{}}, "a has")
}

// An empty value adds nothing, but what separates it is there.
func TestNeedLineOfTheEmptyValue(t *testing.T) {
	wantNeedLine(t, needOf("a", impl.NdIn, ""), "a in ")
	wantNeedLine(t, needOf("a", impl.NdNotIn, ""), "a notin ")
	wantNeedLine(t, needOf("a", impl.NdIn, "", "x"), "a in ,x")
	wantNeedLine(t, needOf("a", impl.NdNotIn, "", "x", "y", "z"), "a notin ,x,y,z")
}

func TestNeedLineOfTheGreatestLength(t *testing.T) {
	values := []string{}
	for _, letter := range []string{"a", "b", "c", "d"} {
		values = append(values, strings.Repeat(letter, 20))
	}
	key := strings.Repeat("k", 30)
	line := key + " notin " + strings.Join(values, ",")
	if len(line) != 120 {
		t.Errorf("the longest line has %d bytes; want 120", len(line))
	}
	wantNeedLine(t, needOf(key, impl.NdNotIn, values...), line)
	wantNeedLine(t, needOf(key+"k", impl.NdNotIn, values...), "")
	wantNeedLine(t, needOf(key, impl.NdNotIn, append(values, "e")...), "")
	wantNeedLine(t, needOf(key, impl.NdNotIn, append(values[:3:3], values[3]+"d")...), "")
}

func TestNeedLineOfEachNeed(t *testing.T) {
	for _, n := range goodNeeds() {
		wantNeedLine(t, n, needLineByWords(n))
	}
	for _, n := range badNeeds() {
		wantNeedLine(t, n, "")
	}
}

func TestNeedLineDiffersForDifferentNeeds(t *testing.T) {
	needs := map[string]impl.Need{}
	for _, n := range goodNeeds() {
		line := impl.NeedLine(n)
		if other, twice := needs[line]; twice && !sameNeedByWords(n, other) {
			t.Errorf("%s and %s have the same line %q", shown(n), shown(other), line)
		}
		needs[line] = n
	}
}

func TestSameNeedsOfEachPairOfLists(t *testing.T) {
	lists := slices.Concat(goodSelectors(), badSelectors(), orders(numberedNeeds(4)))
	for _, a := range lists {
		for _, b := range lists {
			wantSameNeeds(t, a, b, sameNeedsByWords(a, b))
		}
		wantSameNeeds(t, a, cloneNeeds(a), true)
	}
}

func TestSameNeedsOfOneChange(t *testing.T) {
	for count := 1; count <= 9; count++ {
		list := numberedNeeds(count)
		wantSameNeeds(t, list, numberedNeeds(count), true)
		wantSameNeeds(t, list, list, true)
		wantSameNeeds(t, list, list[:count-1], false)
		wantSameNeeds(t, list, list[1:], false)
		for at, n := range list {
			for _, other := range changesOf(n) {
				wantSameNeeds(t, list, withNeed(list, at, other), false)
			}
			for to := range at {
				wantSameNeeds(t, list, withNeed(withNeed(list, at, list[to]), to, n), false)
			}
		}
	}
}

// changesOf differ from n in one field, or in one of its Values.
func changesOf(n impl.Need) []impl.Need {
	list := []impl.Need{{}, needOf("", n.Op, n.Values...), needOf(n.Key+"x", n.Op, n.Values...), needOf(strings.ToUpper(n.Key), n.Op, n.Values...), needOf(n.Key, n.Op+1, n.Values...), needOf(n.Key, 0, n.Values...), needOf(n.Key, n.Op+1<<32, n.Values...), needOf(n.Key, -n.Op, n.Values...),
		needOf(n.Key, n.Op, append(slices.Clone(n.Values), "")...), needOf(n.Key, n.Op, append(slices.Clone(n.Values), "z")...)}
	for at := range n.Values {
		for _, value := range []string{n.Values[at] + "x", n.Values[at] + "\x00", "zz"} {
			changed := cloneNeed(n)
			changed.Values[at] = value
			list = append(list, changed)
		}
		list = append(list, needOf(n.Key, n.Op, n.Values[:at]...), needOf(n.Key, n.Op, slices.Concat(n.Values[:at], n.Values[at+1:])...), needOf(n.Key, n.Op, withValue(n.Values, at, n.Values[at])...))
	}
	if len(n.Values) > 1 {
		swapped := cloneNeed(n)
		slices.Reverse(swapped.Values)
		list = append(list, swapped, needOf(n.Key, n.Op, strings.Join(n.Values, ",")), needOf(n.Key, n.Op, strings.Join(n.Values, "")))
	}
	return list
}

func TestSameNeedsOfEmptyLists(t *testing.T) {
	wantSameNeeds(t, nil, nil, true)
	wantSameNeeds(t, nil, []impl.Need{}, true)
	wantSameNeeds(t, []impl.Need{}, []impl.Need{}, true)
	wantSameNeeds(t, nil, numberedNeeds(3)[:0], true)
	wantSameNeeds(t, nil, []impl.Need{{}}, false)
	wantSameNeeds(t, []impl.Need{}, []impl.Need{{}}, false)
	wantSameNeeds(t, nil, numberedNeeds(1), false)
	// The same holds for the Values.
	wantSameNeeds(t, []impl.Need{{Key: "a", Op: 3, Values: nil}}, []impl.Need{{Key: "a", Op: 3, Values: []string{}}}, true)
	wantSameNeeds(t, []impl.Need{{}}, []impl.Need{{Values: []string{}}}, true)
	wantSameNeeds(t, []impl.Need{{}}, []impl.Need{{Values: []string{""}}}, false)
	wantSameNeeds(t, []impl.Need{{Values: []string{}}}, []impl.Need{{Values: []string{""}}}, false)
	// What lies behind a list does not count.
	wantSameNeeds(t, numberedNeeds(5)[:3], numberedNeeds(3), true)
	wantSameNeeds(t, []impl.Need{{Key: "a", Op: 1, Values: manyValues(5)[:3]}}, []impl.Need{needOf("a", 1, manyValues(3)...)}, true)
}

func TestSameNeedsOfNeedsThatAreNotValid(t *testing.T) {
	list := badNeeds()
	for i, n := range list {
		wantSameNeeds(t, []impl.Need{n}, []impl.Need{cloneNeed(n)}, true)
		other := list[(i+1)%len(list)]
		wantSameNeeds(t, []impl.Need{n}, []impl.Need{other}, sameNeedByWords(n, other))
	}
	// Values are compared as they are, not sorted.
	wantSameNeeds(t, []impl.Need{needOf("a", 1, "y", "x")}, []impl.Need{needOf("a", 1, "x", "y")}, false)
	wantSameNeeds(t, []impl.Need{needOf("a", 1, "x", "x")}, []impl.Need{needOf("a", 1, "x")}, false)
}

func randomNeed(r *rand.Rand) impl.Need {
	keys, values := []string{"a", "a", "b", "aa", "app.io/x"}, []string{"", "x", "x", "y", "y", "z", "X", "xx"}
	n := impl.Need{Key: keys[r.Intn(len(keys))], Op: 1 + r.Intn(4)}
	for count := r.Intn(6); n.Op <= 2 && len(n.Values) <= count; {
		n.Values = append(n.Values, values[r.Intn(len(values))])
	}
	return n
}

func randomNeeds(r *rand.Rand) []impl.Need {
	list := []impl.Need{}
	for range r.Intn(7) {
		if len(list) > 0 && r.Intn(3) == 0 {
			n := cloneNeed(list[r.Intn(len(list))])
			r.Shuffle(len(n.Values), func(i, j int) { n.Values[i], n.Values[j] = n.Values[j], n.Values[i] })
			list = append(list, n)
			continue
		}
		list = append(list, randomNeed(r))
	}
	if len(list) > 0 && r.Intn(4) == 0 {
		list[r.Intn(len(list))] = badNeeds()[r.Intn(len(badNeeds()))]
	}
	return list
}

func TestRandomNeeds(t *testing.T) {
	r := rand.New(rand.NewSource(15))
	sortable, selected := 0, 0
	for range 5000 {
		list := randomNeeds(r)
		wantNeedsSortedAsDocumented(t, list)
		if sorted, ok := sortedNeedsByWords(list); ok && len(sorted) > 1 {
			sortable++
			list = sorted
		}
		for _, n := range list {
			wantNeedOk(t, needByWords(n), n)
			wantNeedLine(t, n, needLineByWords(n))
		}
		for range 4 {
			labels := randomLabels(r)
			want := selectsByWords(list, labels)
			wantSelects(t, list, labels, want)
			if want && len(list) > 1 {
				selected++
			}
			for _, n := range list {
				wantMet(t, labels, n, metByWords(labels, n))
			}
		}
	}
	if sortable < 1000 || selected < 100 {
		t.Errorf("only %d random lists were sorted, and %d selected", sortable, selected)
	}
}

// roomyNeeds is a copy of list in which all needs lie in one array and all Values in another one, each followed by something that does not belong to it.
func roomyNeeds(list []impl.Need) (all []impl.Need, values []string, arg []impl.Need) {
	for _, n := range list {
		values = append(append(values, n.Values...), "zz", "spare", "")
	}
	at := 0
	for _, n := range list {
		all = append(all, impl.Need{Key: n.Key, Op: n.Op, Values: values[at : at+len(n.Values)]})
		at += len(n.Values) + 3
	}
	all = append(all, needOf("z", 3), needOf("a", 1, "spare", "a"), impl.Need{})
	return all, values, all[:len(list)]
}

// sortableNeeds are lists for SortNeeds, of which it rejects some.
func sortableNeeds() [][]impl.Need {
	lists := slices.Concat(goodSelectors(), badSelectors(), orders(numberedNeeds(4)))
	lists = append(lists, cycle(40, numberedNeeds(4)...), cycle(41, numberedNeeds(4)...), numberedNeeds(9),
		[]impl.Need{needOf("b", 1, "y", "x", "y"), needOf("a", 2, "z", "y", "x"), needOf("b", 1, "x", "y")},
		[]impl.Need{needOf("b", 1, "y", "x", "y"), needOf("a", 2, "z", "y", "-")},
		[]impl.Need{needOf("b", 2, cycle(40, "y", "x")...), needOf("a", 1, cycle(40, "x")...)},
		[]impl.Need{needOf("b", 2, cycle(41, "y", "x")...), needOf("a", 1, "y", "x")})
	for _, n := range badNeeds() {
		lists = append(lists, []impl.Need{needOf("b", 1, "y", "x", "y"), n, needOf("b", 1, "x", "y")})
	}
	return lists
}

func TestNeedFunctionsKeepTheirArguments(t *testing.T) {
	for _, list := range sortableNeeds() {
		all, values, arg := roomyNeeds(list)
		keptAll, keptValues := cloneNeeds(all), slices.Clone(values)
		labelsAll, labels := inside(labelsOf("a", "x", "b", "y"))
		keptLabels := slices.Clone(labelsAll)
		impl.SelectorOk(arg)
		impl.Selects(arg, labels)
		impl.SortNeeds(arg)
		impl.SameNeeds(arg, numberedNeeds(3))
		impl.SameNeeds(numberedNeeds(3), arg)
		for i, n := range arg {
			impl.NeedOk(n)
			impl.NeedMet(labels, n)
			impl.NeedLess(n, arg[0])
			impl.NeedLess(arg[i], arg[len(arg)-1])
			impl.NeedLine(n)
		}
		if !sameNeedsByWords(all, keptAll) || !slices.Equal(values, keptValues) || !slices.Equal(labelsAll, keptLabels) {
			t.Errorf("the needs %s were changed to %s, the values %.300q to %.300q or the labels %q to %q", shown(keptAll...), shown(all...), keptValues, values, keptLabels, labelsAll)
		}
	}
}

// needSpans is the memory of all slices in list, with the capacity behind them.
func needSpans(list []impl.Need) []span {
	spans := []span{spanOf(list)}
	for _, n := range list {
		spans = append(spans, spanOf(n.Values))
	}
	return slices.DeleteFunc(spans, func(s span) bool { return s.from == s.to })
}

// anyOverlap tells whether two results overlap, or a result and another span.
func anyOverlap(results []span, others []span) bool {
	for i, s := range results {
		if slices.ContainsFunc(slices.Concat(results[i+1:], others), func(other span) bool { return overlap(s, other) }) {
			return true
		}
	}
	return false
}

// overwriteNeeds changes all needs of a list, their Values and the capacity behind both.
func overwriteNeeds(list []impl.Need) {
	list = list[:cap(list)]
	for i := range list {
		values := list[i].Values[:cap(list[i].Values)]
		for j := range values {
			values[j] = "changed"
		}
		list[i] = needOf("changed", 9, "changed")
	}
}

func TestSortNeedsReturnsNewMemory(t *testing.T) {
	for _, list := range sortableNeeds() {
		all, values, arg := roomyNeeds(list)
		keptAll, keptValues := cloneNeeds(all), slices.Clone(values)
		first, ok := impl.SortNeeds(arg)
		second, _ := impl.SortNeeds(arg)
		others := append(needSpans(all), spanOf(values))
		if anyOverlap(needSpans(first), append(others, needSpans(second)...)) || anyOverlap(needSpans(second), others) {
			t.Errorf("SortNeeds(%s) shares memory", shown(list...))
		}
		want := cloneNeeds(first)
		overwriteNeeds(first)
		if !sameNeedsByWords(all, keptAll) || !slices.Equal(values, keptValues) || !sameNeedsByWords(second, want) {
			t.Errorf("a change of one result of SortNeeds(%s) changed the argument to %s or the other result to %s", shown(list...), shown(arg...), shown(second...))
		}
		overwriteNeeds(all)
		if !sameNeedsByWords(second, want) {
			t.Errorf("a change of the argument %s of SortNeeds changed the result to %s", shown(list...), shown(second...))
		}
		if sorted, sortedOk := sortedNeedsByWords(list); ok != sortedOk || !sameNeedsByWords(want, sorted) {
			t.Errorf("SortNeeds(%s) = %s, %v; want %s, %v", shown(list...), shown(want...), ok, shown(sorted...), sortedOk)
		}
	}
}

// The Values of several needs of an argument may be the same memory, those of a result may not.
func TestSortNeedsOfNeedsThatShareTheirValues(t *testing.T) {
	values := []string{"y", "x", "y", "z"}
	shared := []impl.Need{{Key: "b", Op: 1, Values: values}, {Key: "a", Op: 2, Values: values}, {Key: "a", Op: 1, Values: values[:2]}, {Key: "b", Op: 1, Values: values}}
	rejected := append(slices.Clone(shared), impl.Need{Key: "c", Op: 3, Values: values})
	wantNeedsSorted(t, shared, []impl.Need{needOf("a", 1, "x", "y"), needOf("a", 2, "x", "y", "z"), needOf("b", 1, "x", "y", "z")})
	wantNeedsNotSorted(t, rejected, cycle(41, shared...))
	for _, list := range [][]impl.Need{shared, rejected, cycle(41, shared...)} {
		got, _ := impl.SortNeeds(list)
		if anyOverlap(needSpans(got), needSpans(list)) {
			t.Errorf("the result %s of SortNeeds(%s) shares memory", shown(got...), shown(list...))
		}
	}
	if !slices.Equal(values, []string{"y", "x", "y", "z"}) {
		t.Errorf("the values were changed to %q", values)
	}
}

// The bytes of the arguments lie in a slice here, so that a change would be seen.
func TestNeedFunctionsKeepTheBytesOfTheirArguments(t *testing.T) {
	for _, text := range []string{"", "-", "a", "web-1", "App/x", "a b", "\xff", strings.Repeat("a", 31)} {
		kept := append([]byte(text), "spare"...)
		arg := unsafe.String(unsafe.SliceData(kept), len(text))
		n := needOf(arg, 1, arg, "b", arg)
		impl.NeedOk(n)
		impl.NeedMet(labelsOf(arg, arg), n)
		impl.NeedLess(n, needOf(arg, 1, arg, "a"))
		impl.SelectorOk([]impl.Need{n, n})
		impl.Selects([]impl.Need{n}, labelsOf(arg, arg))
		impl.SortNeeds([]impl.Need{needOf("z", 1, "b", arg), n})
		impl.NeedLine(needOf("a", 2, arg))
		impl.NeedLine(needOf(arg, 3))
		impl.SameNeeds([]impl.Need{n}, []impl.Need{n})
		if string(kept) != text+"spare" {
			t.Errorf("the argument %q was changed to %q", text+"spare", kept)
		}
	}
}
