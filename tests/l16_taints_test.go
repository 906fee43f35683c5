package tests

import (
	"fmt"
	"math"
	"math/rand"
	"slices"
	"strings"
	"testing"
	"unsafe"

	"loop.example/g00968/impl"
)

// The following functions say what the document says.

func taintByWords(t impl.Taint) bool {
	return labelKeyWords.MatchString(t.Key) && labelValueWords.MatchString(t.Value) && (t.Effect == 1 || t.Effect == 2)
}

func toleranceByWords(t impl.Tolerance) bool {
	keyOk := labelKeyWords.MatchString(t.Key) || t.Key == "" && !t.Equal
	valueOk := labelValueWords.MatchString(t.Value) && (t.Equal || t.Value == "")
	return keyOk && valueOk && t.Effect >= 0 && t.Effect <= 2
}

func taintBeforeByWords(a impl.Taint, b impl.Taint) bool {
	if a.Key != b.Key {
		return a.Key < b.Key
	}
	if a.Value != b.Value {
		return a.Value < b.Value
	}
	return a.Effect < b.Effect
}

func toleranceBeforeByWords(a impl.Tolerance, b impl.Tolerance) bool {
	if a.Key != b.Key {
		return a.Key < b.Key
	}
	if a.Equal != b.Equal {
		return b.Equal
	}
	if a.Value != b.Value {
		return a.Value < b.Value
	}
	return a.Effect < b.Effect
}

func toleratesByWords(t impl.Tolerance, x impl.Taint) bool {
	if !toleranceByWords(t) || !taintByWords(x) {
		return false
	}
	if t.Key != "" && t.Key != x.Key {
		return false
	}
	if t.Equal && t.Value != x.Value {
		return false
	}
	return t.Effect == 0 || t.Effect == x.Effect
}

func untoleratedByWords(list []impl.Tolerance, taints []impl.Taint, effect int) int {
	count := 0
	for _, x := range taints {
		tolerated := 0
		for _, t := range list {
			if toleratesByWords(t, x) {
				tolerated++
			}
		}
		if tolerated == 0 && x.Effect == effect {
			count++
		}
	}
	return count
}

// A listKind is either taints or tolerations, with the functions that check and sort them and some of each.
type listKind[T comparable] struct {
	name     string
	ok       func(T) bool
	listOk   func([]T) bool
	sort     func([]T) ([]T, bool)
	okWords  func(T) bool
	before   func(a, b T) bool
	numbered func(count int) []T // strictly ascending, and valid one by one
	ordered  func() []T          // strictly ascending, and valid one by one
	lists    func() [][]T        // valid
	bad      func() []T          // not valid, by one error each
}

func taintKind() listKind[impl.Taint] {
	return listKind[impl.Taint]{"Taint", impl.TaintOk, impl.TaintsOk, impl.SortTaints, taintByWords, taintBeforeByWords, numberedTaints, orderedTaints, goodTaintLists, badTaints}
}

func toleranceKind() listKind[impl.Tolerance] {
	return listKind[impl.Tolerance]{"Tolerance", impl.ToleranceOk, impl.TolerancesOk, impl.SortTolerances, toleranceByWords, toleranceBeforeByWords, numberedTolerances, orderedTolerances, goodToleranceLists, badTolerances}
}

func (k listKind[T]) listByWords(list []T) bool {
	for i, element := range list {
		if !k.okWords(element) {
			return false
		}
		for _, later := range list[i+1:] {
			if !k.before(element, later) {
				return false
			}
		}
	}
	return len(list) <= 4
}

// onceByWords puts each element behind the smaller ones, unless it is there already.
func (k listKind[T]) onceByWords(list []T) []T {
	once := []T{}
	for _, element := range list {
		at := 0
		for at < len(once) && k.before(once[at], element) {
			at++
		}
		if at == len(once) || once[at] != element {
			once = slices.Insert(once, at, element)
		}
	}
	return once
}

func (k listKind[T]) sortedByWords(list []T) ([]T, bool) {
	if len(list) > 40 {
		return list, false
	}
	if once := k.onceByWords(list); k.listByWords(once) {
		return once, true
	}
	return list, false
}

// around are count elements in which bad stands at the index at between valid ones and is the only error. There is none where too few valid elements are smaller or greater.
func (k listKind[T]) around(bad T, count int, at int) []T {
	smaller, greater := []T{}, []T{}
	for _, element := range k.ordered() {
		if k.before(element, bad) {
			smaller = append(smaller, element)
		} else {
			greater = append(greater, element)
		}
	}
	if len(smaller) < at || len(greater) < count-at-1 {
		return nil
	}
	return slices.Concat(smaller[:at], []T{bad}, greater[:count-at-1])
}

// badLists are strictly ascending lists of each length, but not valid, nearly all of them by one error alone.
func (k listKind[T]) badLists() [][]T {
	lists := [][]T{k.numbered(5), k.numbered(6), k.numbered(40), k.ordered()[:5]}
	for _, bad := range k.bad() {
		for count := 1; count <= 4; count++ {
			for at := range count {
				if list := k.around(bad, count, at); list != nil {
					lists = append(lists, list)
				}
			}
		}
	}
	return lists
}

func (k listKind[T]) wantOk(t *testing.T, want bool, elements ...T) {
	t.Helper()
	for _, element := range elements {
		if got := k.ok(element); got != want {
			t.Errorf("%sOk(%+.80v) = %v; want %v", k.name, element, got, want)
		}
	}
}

// wantListOk also checks that a valid list is its own sorted form.
func (k listKind[T]) wantListOk(t *testing.T, want bool, lists ...[]T) {
	t.Helper()
	for _, list := range lists {
		if got := k.listOk(list); got != want {
			t.Errorf("%ssOk(%s) = %v; want %v", k.name, listed(list), got, want)
		}
		if want {
			k.wantSorted(t, list, list)
		}
	}
}

func (k listKind[T]) wantSorted(t *testing.T, list []T, want []T) {
	t.Helper()
	if got, ok := k.sort(list); !slices.Equal(got, want) || !ok {
		t.Errorf("Sort%ss(%s) = %s, %v; want %s, true", k.name, listed(list), listed(got), ok, listed(want))
	}
}

func (k listKind[T]) wantNotSorted(t *testing.T, lists ...[]T) {
	t.Helper()
	for _, list := range lists {
		if got, ok := k.sort(list); !slices.Equal(got, list) || ok {
			t.Errorf("Sort%ss(%s) = %s, %v; want the list as it was, false", k.name, listed(list), listed(got), ok)
		}
	}
}

func (k listKind[T]) wantAsDocumented(t *testing.T, list []T) {
	t.Helper()
	k.wantListOk(t, k.listByWords(list), list)
	if sorted, ok := k.sortedByWords(list); ok {
		k.wantSorted(t, list, sorted)
	} else {
		k.wantNotSorted(t, list)
	}
}

// listed is what a message says of a list, of a long one only the first elements.
func listed[T any](list []T) string {
	return fmt.Sprintf("%+.80v of %d", list[:min(len(list), 6)], len(list))
}

// withElement is list with another element at one index.
func withElement[T any](list []T, at int, element T) []T {
	changed := slices.Clone(list)
	changed[at] = element
	return changed
}

// reversed is list from its end to its beginning.
func reversed[T any](list []T) []T {
	changed := slices.Clone(list)
	slices.Reverse(changed)
	return changed
}

func taintOf(key string, value string, effect int) impl.Taint {
	return impl.Taint{Key: key, Value: value, Effect: effect}
}

// withKey and withPair are the two forms of a toleration, without and with Equal.
func withKey(key string, effect int) impl.Tolerance {
	return impl.Tolerance{Key: key, Effect: effect}
}

func withPair(key string, value string, effect int) impl.Tolerance {
	return impl.Tolerance{Key: key, Equal: true, Value: value, Effect: effect}
}

func numberedTaints(count int) []impl.Taint {
	list := []impl.Taint{}
	for i, value := range manyValues(count) {
		list = append(list, taintOf(value, "", 1+i%2))
	}
	return list
}

func numberedTolerances(count int) []impl.Tolerance {
	list := []impl.Tolerance{}
	for i, value := range manyValues(count) {
		list = append(list, impl.Tolerance{Key: value, Equal: i%4 > 1, Effect: i % 3})
	}
	return list
}

// taintValues are strictly ascending and valid.
func taintValues() []string {
	return []string{"", "0", "9", "A", "a", "a-b", "aa", strings.Repeat("w", 20), "x", "y"}
}

func orderedTaints() []impl.Taint {
	list := []impl.Taint{}
	for _, key := range slices.Sorted(slices.Values(goodKeys())) {
		for _, value := range taintValues() {
			list = append(list, taintOf(key, value, 1), taintOf(key, value, 2))
		}
	}
	return list
}

func orderedTolerances() []impl.Tolerance {
	list := []impl.Tolerance{withKey("", 0), withKey("", 1), withKey("", 2)}
	for _, key := range slices.Sorted(slices.Values(goodKeys())) {
		list = append(list, withKey(key, 0), withKey(key, 1), withKey(key, 2))
		for _, value := range taintValues() {
			list = append(list, withPair(key, value, 0), withPair(key, value, 1), withPair(key, value, 2))
		}
	}
	return list
}

// wrongEffects are none of 0, 1 and 2, also where only their lowest bits count.
func wrongEffects() []int {
	effects := []int{-1, -2, -3, 3, 4, 5, 6, 10, 16, 1 << 16, 1 << 32, math.MaxInt, math.MinInt, math.MinInt + 1}
	for _, bits := range []int{8, 16, 32, 62} {
		for effect := range 3 {
			effects = append(effects, 1<<bits+effect, -1<<bits+effect)
		}
	}
	return effects
}

func badTaints() []impl.Taint {
	list := []impl.Taint{taintOf("a", "x", 0), taintOf("a", "", 0)}
	for _, effect := range wrongEffects() {
		list = append(list, taintOf("a", "x", effect), taintOf("a", "", effect))
	}
	for _, key := range badLabelKeys() {
		list = append(list, taintOf(key, "x", 1), taintOf(key, "", 2))
	}
	for _, value := range badLabelValues() {
		list = append(list, taintOf("a", value, 1), taintOf("b", value, 2))
	}
	return list
}

func badTolerances() []impl.Tolerance {
	list := []impl.Tolerance{}
	for _, effect := range wrongEffects() {
		list = append(list, withKey("", effect), withKey("a", effect), withPair("a", "", effect), withPair("a", "x", effect))
	}
	// The first key is empty, which only a toleration without Equal may have.
	for i, key := range badLabelKeys() {
		list = append(list, withPair(key, "x", 0), withPair(key, "", 1), withPair(key, "", 2))
		if i > 0 {
			list = append(list, withKey(key, 0), withKey(key, 1), withKey(key, 2))
		}
	}
	for _, value := range badLabelValues() {
		list = append(list, withPair("a", value, 0), withPair("b", value, 2), impl.Tolerance{Key: "a", Value: value, Effect: 1}, impl.Tolerance{Value: value})
	}
	for _, value := range taintValues()[1:] {
		list = append(list, impl.Tolerance{Key: "a", Value: value}, impl.Tolerance{Key: "b", Value: value, Effect: 2}, impl.Tolerance{Value: value, Effect: 1})
	}
	return list
}

// goodTaintLists are valid lists of each length, some of which differ in one field alone.
func goodTaintLists() [][]impl.Taint {
	lists := [][]impl.Taint{nil, {}, make([]impl.Taint, 0, 9), orderedTaints()[:0],
		{taintOf("A", "x", 1), taintOf("a", "x", 1), taintOf("aa", "x", 1), taintOf("b", "x", 1)}, {taintOf("10", "", 2), taintOf("9", "", 2)}, {taintOf("a", "", 1), taintOf("a-b", "", 1), taintOf("a/b", "", 1), taintOf("a0", "", 1)},
		{taintOf("a", "", 1), taintOf("a", "A", 1), taintOf("a", "a", 1), taintOf("a", "aa", 1)}, {taintOf("a", "10", 2), taintOf("a", "9", 2)},
		{taintOf("a", "x", 1), taintOf("a", "x", 2)}, {taintOf("a", "", 1), taintOf("a", "", 2)}, {taintOf("a", "x", 1), taintOf("a", "x", 2), taintOf("b", "x", 1), taintOf("b", "x", 2)},
		// The first difference counts, and no later one.
		{taintOf("a", "y", 2), taintOf("b", "x", 1)}, {taintOf("a", "x", 2), taintOf("a", "y", 1)}, {taintOf("a", "x", 2), taintOf("b", "x", 1)}, {taintOf("a", "y", 1), taintOf("b", "", 2)},
		{taintOf("a", "", 1), taintOf("a", "", 2), taintOf("a", "x", 1), taintOf("b", "", 1)}}
	for count := range 5 {
		lists = append(lists, numberedTaints(count), orderedTaints()[:count], orderedTaints()[19:19+count])
	}
	return lists
}

// goodToleranceLists are valid lists of each length, some of which differ in one field alone.
func goodToleranceLists() [][]impl.Tolerance {
	lists := [][]impl.Tolerance{nil, {}, make([]impl.Tolerance, 0, 9), orderedTolerances()[:0],
		{withKey("", 0), withKey("a", 0), withKey("aa", 0), withKey("b", 0)}, {withPair("A", "x", 1), withPair("a", "x", 1), withPair("a-b", "x", 1), withPair("b", "x", 1)}, {withKey("10", 2), withKey("9", 2)},
		{withKey("a", 0), withPair("a", "", 0)}, {withKey("a", 1), withPair("a", "", 1)}, {withKey("a", 2), withPair("a", "", 2)},
		{withPair("a", "", 1), withPair("a", "A", 1), withPair("a", "a", 1), withPair("a", "aa", 1)}, {withPair("a", "10", 0), withPair("a", "9", 0)},
		{withKey("", 0), withKey("", 1), withKey("", 2)}, {withKey("a", 0), withKey("a", 1), withKey("a", 2)}, {withPair("a", "x", 0), withPair("a", "x", 1), withPair("a", "x", 2)},
		// The first difference counts, and no later one.
		{withPair("a", "y", 2), withKey("b", 0)}, {withKey("", 2), withPair("a", "", 0)}, {withKey("a", 2), withPair("a", "", 0)}, {withKey("a", 2), withPair("a", "x", 1)}, {withPair("a", "x", 2), withPair("a", "y", 0)}, {withPair("a", "y", 2), withPair("b", "", 0)}, {withKey("a", 2), withKey("b", 0)}, {withPair("a", "x", 2), withPair("b", "x", 0)},
		{withKey("", 1), withKey("a", 2), withPair("a", "x", 0), withKey("b", 0)}}
	for count := range 5 {
		lists = append(lists, numberedTolerances(count), orderedTolerances()[:count], orderedTolerances()[35:35+count])
	}
	return lists
}

func TestTaintConstants(t *testing.T) {
	got := []int{impl.EfNever, impl.EfSoft, impl.MaxTaints}
	if want := []int{1, 2, 4}; !slices.Equal(got, want) {
		t.Errorf("EfNever to MaxTaints = %v; want %v", got, want)
	}
}

func (k listKind[T]) areAsNamed(t *testing.T) {
	t.Helper()
	for i, element := range k.ordered() {
		if !k.okWords(element) || i > 0 && !k.before(k.ordered()[i-1], element) {
			t.Errorf("%+v is not valid or in its place", element)
		}
	}
	for _, element := range k.bad() {
		if k.okWords(element) {
			t.Errorf("%+v is valid", element)
		}
	}
	for _, list := range k.lists() {
		if !k.listByWords(list) {
			t.Errorf("%+v is not valid", list)
		}
	}
	for _, list := range k.badLists() {
		if k.listByWords(list) {
			t.Errorf("%+v is valid", list)
		}
	}
}

func TestTaintsOfTheTestsAreAsNamed(t *testing.T) {
	taintKind().areAsNamed(t)
	toleranceKind().areAsNamed(t)
}

func TestTaintOkOfValidTaints(t *testing.T) {
	k := taintKind()
	k.wantOk(t, true, k.ordered()...)
	k.wantOk(t, true, k.numbered(9)...)
	k.wantOk(t, true, taintOf("a", "x", impl.EfNever), taintOf("a", "x", impl.EfSoft), taintOf("a", "", impl.EfNever), taintOf("app.io/Name", "v1.2_3-x", impl.EfSoft))
}

func TestTaintOkOfTaintsThatAreNotValid(t *testing.T) {
	k := taintKind()
	k.wantOk(t, false, k.bad()...)
	k.wantOk(t, false, impl.Taint{}, taintOf("", "", 1), taintOf("a", "", 0), taintOf("", "x", 2), taintOf("-", "-", 9))
}

func TestTaintOkOfEachEffect(t *testing.T) {
	for effect := -300; effect <= 300; effect++ {
		taintKind().wantOk(t, effect == 1 || effect == 2, taintOf("a", "x", effect), taintOf("a", "", effect))
		taintKind().wantOk(t, false, taintOf("", "x", effect), taintOf("a", "-", effect))
	}
	for _, effect := range wrongEffects() {
		taintKind().wantOk(t, false, taintOf("a", "x", effect), taintOf("a", "", effect))
	}
}

// wordsOfEachLength are valid up to some length.
func wordsOfEachLength() []string {
	words := []string{}
	for size := range 70 {
		words = append(words, strings.Repeat("k", size), "k"+strings.Repeat("-", size)+"k")
	}
	return append(words, strings.Repeat("k", 256), strings.Repeat("k", 256+20), strings.Repeat("k", 1<<16+1))
}

func TestTaintOkOfEachKeyAndValue(t *testing.T) {
	words := slices.Concat(goodKeys(), taintValues(), badLabelKeys(), badLabelValues(), wordsOfEachLength(), textsOf(3, "a", "Z", "0", "-", "_", ".", "/", " "))
	for _, word := range words {
		keyOk, valueOk := labelKeyWords.MatchString(word), labelValueWords.MatchString(word)
		for effect := 1; effect <= 2; effect++ {
			taintKind().wantOk(t, keyOk, taintOf(word, "x", effect), taintOf(word, "", effect))
			taintKind().wantOk(t, valueOk, taintOf("a", word, effect))
			taintKind().wantOk(t, keyOk && valueOk, taintOf(word, word, effect))
		}
		taintKind().wantOk(t, false, taintOf(word, "x", 0), taintOf("a", word, 3), taintOf("", word, 1), taintOf(word, "-", 1))
	}
}

func TestTaintOkOfKeysAndValuesAtTheirLimit(t *testing.T) {
	k := taintKind()
	key, value := strings.Repeat("k", 30), strings.Repeat("v", 20)
	k.wantOk(t, true, taintOf(key, value, 1), taintOf(key, value, 2), taintOf(key, "", 1), taintOf("a", value, 2))
	k.wantOk(t, false, taintOf(key+"k", value, 1), taintOf(key, value+"v", 1), taintOf(key+"k", "", 2), taintOf("a", value+"v", 2), taintOf(value, key, 1))
}

func TestToleranceOkOfValidTolerations(t *testing.T) {
	k := toleranceKind()
	k.wantOk(t, true, k.ordered()...)
	k.wantOk(t, true, k.numbered(9)...)
	k.wantOk(t, true, impl.Tolerance{}, withKey("", impl.EfNever), withKey("a", impl.EfSoft), withPair("a", "x", impl.EfNever), withPair("a", "", impl.EfSoft))
}

func TestToleranceOkOfTolerationsThatAreNotValid(t *testing.T) {
	k := toleranceKind()
	k.wantOk(t, false, k.bad()...)
	k.wantOk(t, false, impl.Tolerance{Equal: true}, impl.Tolerance{Value: "x"}, impl.Tolerance{Effect: 3}, withPair("", "x", 1), impl.Tolerance{Key: "a", Value: "x"})
}

// Without a key, Equal may not be set, and without Equal, there may be no value.
func TestToleranceOkOfKeysAndValuesThatAreEmpty(t *testing.T) {
	k := toleranceKind()
	for effect := range 3 {
		k.wantOk(t, true, impl.Tolerance{Key: "", Equal: false, Value: "", Effect: effect}, impl.Tolerance{Key: "a", Equal: false, Value: "", Effect: effect}, impl.Tolerance{Key: "a", Equal: true, Value: "", Effect: effect}, impl.Tolerance{Key: "a", Equal: true, Value: "x", Effect: effect})
		k.wantOk(t, false, impl.Tolerance{Key: "", Equal: true, Value: "", Effect: effect}, impl.Tolerance{Key: "", Equal: true, Value: "x", Effect: effect}, impl.Tolerance{Key: "", Equal: false, Value: "x", Effect: effect}, impl.Tolerance{Key: "a", Equal: false, Value: "x", Effect: effect})
	}
}

func TestToleranceOkOfEachEffect(t *testing.T) {
	k := toleranceKind()
	for effect := -300; effect <= 300; effect++ {
		k.wantOk(t, effect >= 0 && effect <= 2, withKey("", effect), withKey("a", effect), withPair("a", "", effect), withPair("a", "x", effect))
		k.wantOk(t, false, withPair("", "", effect), withKey("-", effect), withPair("a", "-", effect), impl.Tolerance{Key: "a", Value: "x", Effect: effect})
	}
	for _, effect := range wrongEffects() {
		k.wantOk(t, false, withKey("", effect), withKey("a", effect), withPair("a", "", effect), withPair("a", "x", effect))
	}
}

func TestToleranceOkOfEachKeyAndValue(t *testing.T) {
	k := toleranceKind()
	words := slices.Concat(goodKeys(), taintValues(), badLabelKeys(), badLabelValues(), wordsOfEachLength(), textsOf(3, "a", "Z", "0", "-", "_", ".", "/", " "))
	for _, word := range words {
		keyOk, valueOk := labelKeyWords.MatchString(word), labelValueWords.MatchString(word)
		for effect := range 3 {
			k.wantOk(t, keyOk, withPair(word, "x", effect), withPair(word, "", effect))
			k.wantOk(t, keyOk || word == "", withKey(word, effect))
			k.wantOk(t, valueOk, withPair("a", word, effect))
			k.wantOk(t, keyOk && valueOk, withPair(word, word, effect))
			k.wantOk(t, word == "", impl.Tolerance{Key: "a", Value: word, Effect: effect}, impl.Tolerance{Value: word, Effect: effect}, impl.Tolerance{Key: word, Value: word, Effect: effect})
		}
	}
}

func TestToleranceOkOfKeysAndValuesAtTheirLimit(t *testing.T) {
	k := toleranceKind()
	key, value := strings.Repeat("k", 30), strings.Repeat("v", 20)
	k.wantOk(t, true, withKey(key, 0), withKey(key, 2), withPair(key, value, 0), withPair(key, value, 2), withPair("a", value, 1))
	k.wantOk(t, false, withKey(key+"k", 0), withPair(key+"k", value, 1), withPair(key, value+"v", 1), withPair("a", value+"v", 0), withPair(value, key, 2))
}

func (k listKind[T]) validLists(t *testing.T) {
	t.Helper()
	k.wantListOk(t, true, k.lists()...)
	for _, element := range k.ordered() {
		k.wantListOk(t, true, []T{element})
	}
	for at := range len(k.ordered()) - 3 {
		k.wantListOk(t, true, k.ordered()[at:at+4], k.ordered()[at:at+3], k.ordered()[at:at+2])
	}
}

func TestTaintsOkOfValidLists(t *testing.T) { taintKind().validLists(t) }

func TestTolerancesOkOfValidLists(t *testing.T) { toleranceKind().validLists(t) }

func (k listKind[T]) listsThatAreNotValid(t *testing.T) {
	t.Helper()
	k.wantListOk(t, false, k.badLists()...)
	for _, element := range k.bad() {
		k.wantListOk(t, false, []T{element})
	}
	for count := 1; count <= 4; count++ {
		for at := range count {
			for _, list := range [][]T{k.numbered(count), k.ordered()[5 : 5+count]} {
				k.wantListOk(t, true, list)
				for _, element := range k.bad() {
					k.wantListOk(t, false, withElement(list, at, element))
				}
			}
		}
	}
}

func TestTaintsOkOfListsThatAreNotValid(t *testing.T) { taintKind().listsThatAreNotValid(t) }

func TestTolerancesOkOfListsThatAreNotValid(t *testing.T) { toleranceKind().listsThatAreNotValid(t) }

func (k listKind[T]) eachNumberOfElements(t *testing.T) {
	t.Helper()
	all := k.numbered(70000)
	for _, count := range []int{0, 1, 2, 3, 4, 5, 6, 7, 8, 9, 39, 40, 41, 255, 256, 257, 260, 65536, 65540, 70000} {
		k.wantListOk(t, count <= impl.MaxTaints, all[:count])
		if count > impl.MaxTaints {
			k.wantNotSorted(t, all[:count], reversed(all[:count]))
		}
	}
	for count := range 10 {
		k.wantListOk(t, count <= impl.MaxTaints, k.ordered()[:count], k.ordered()[20:20+count])
	}
}

func TestTaintsOkOfEachNumberOfTaints(t *testing.T) { taintKind().eachNumberOfElements(t) }

func TestTolerancesOkOfEachNumberOfTolerations(t *testing.T) {
	toleranceKind().eachNumberOfElements(t)
}

// eachPair also covers pairs of equal elements and those that differ in one field alone.
func (k listKind[T]) eachPair(t *testing.T) {
	t.Helper()
	list := k.ordered()
	for i, a := range list {
		for j, b := range list {
			pair := []T{a, b}
			if got := k.listOk(pair); got != (i < j) {
				t.Fatalf("%ssOk(%+v) = %v; want %v", k.name, pair, got, i < j)
			}
			want := []T{list[min(i, j)], list[max(i, j)]}
			if i == j {
				want = want[:1]
			}
			if got, ok := k.sort(pair); !slices.Equal(got, want) || !ok {
				t.Fatalf("Sort%ss(%+v) = %+v, %v; want %+v, true", k.name, pair, got, ok, want)
			}
		}
	}
}

func TestTaintsOkOfEachPair(t *testing.T) { taintKind().eachPair(t) }

func TestTolerancesOkOfEachPair(t *testing.T) { toleranceKind().eachPair(t) }

func (k listKind[T]) eachOrder(t *testing.T) {
	t.Helper()
	for _, list := range k.lists() {
		for _, order := range orders(list) {
			k.wantListOk(t, slices.Equal(order, list), order)
			k.wantSorted(t, order, list)
		}
	}
}

func TestSortTaintsOfEachOrder(t *testing.T) { taintKind().eachOrder(t) }

func TestSortTolerancesOfEachOrder(t *testing.T) { toleranceKind().eachOrder(t) }

func (k listKind[T]) equalElements(t *testing.T) {
	t.Helper()
	for _, list := range k.lists() {
		for at, element := range list {
			twice := slices.Insert(slices.Clone(list), at, element)
			k.wantListOk(t, false, twice, twice[at:at+2], twice[:at+2], twice[at:])
			k.wantSorted(t, slices.Insert(slices.Clone(list), at, element, element, element), list)
			for _, order := range orders(twice) {
				k.wantSorted(t, order, list)
			}
		}
		if len(list) > 0 {
			k.wantSorted(t, cycle(12, list...), list)
			k.wantSorted(t, cycle(40, reversed(list)...), list)
			k.wantNotSorted(t, cycle(41, list...))
		}
	}
}

func TestSortTaintsOfEqualTaints(t *testing.T) { taintKind().equalElements(t) }

func TestSortTolerancesOfEqualTolerations(t *testing.T) { toleranceKind().equalElements(t) }

func TestTaintsOkOfTaintsThatDifferInOneField(t *testing.T) {
	k := taintKind()
	for _, other := range []impl.Taint{taintOf("b", "x", 1), taintOf("ab", "x", 1), taintOf("a", "xx", 1), taintOf("a", "y", 1), taintOf("a", "x", 2)} {
		k.wantListOk(t, true, []impl.Taint{taintOf("a", "x", 1), other})
		k.wantListOk(t, false, []impl.Taint{other, taintOf("a", "x", 1)}, []impl.Taint{taintOf("a", "x", 1), taintOf("a", "x", 1), other}, []impl.Taint{taintOf("a", "x", 1), other, other})
		k.wantSorted(t, []impl.Taint{other, taintOf("a", "x", 1), other}, []impl.Taint{taintOf("a", "x", 1), other})
	}
	k.wantListOk(t, true, []impl.Taint{taintOf("a", "", 1), taintOf("a", "x", 1)})
}

func TestTolerancesOkOfTolerationsThatDifferInOneField(t *testing.T) {
	k := toleranceKind()
	for _, pair := range [][]impl.Tolerance{{withKey("", 1), withKey("a", 1)}, {withKey("a", 1), withKey("b", 1)}, {withPair("a", "x", 1), withPair("ab", "x", 1)}, {withKey("a", 1), withPair("a", "", 1)}, {withPair("a", "x", 1), withPair("a", "xx", 1)}, {withPair("a", "", 1), withPair("a", "x", 1)}, {withPair("a", "x", 0), withPair("a", "x", 1)}, {withKey("a", 1), withKey("a", 2)}, {withKey("", 0), withKey("", 2)}} {
		smaller, greater := pair[0], pair[1]
		k.wantListOk(t, true, pair)
		k.wantListOk(t, false, reversed(pair), []impl.Tolerance{smaller, smaller, greater}, []impl.Tolerance{smaller, greater, greater})
		k.wantSorted(t, []impl.Tolerance{greater, smaller, greater}, pair)
	}
}

// The limit is checked before duplicates are removed.
func (k listKind[T]) manyElements(t *testing.T) {
	t.Helper()
	for distinct := 1; distinct <= 4; distinct++ {
		for _, count := range []int{distinct, 5, 8, 39, 40, 41, 42, 80, 256, 260, 1000} {
			many := cycle(max(count, distinct), reversed(k.numbered(distinct))...)
			if count <= 40 {
				k.wantSorted(t, many, k.numbered(distinct))
			} else {
				k.wantNotSorted(t, many)
			}
			k.wantListOk(t, len(many) == 1, many)
		}
	}
}

func TestSortTaintsOfManyTaints(t *testing.T) { taintKind().manyElements(t) }

func TestSortTolerancesOfManyTolerations(t *testing.T) { toleranceKind().manyElements(t) }

func (k listKind[T]) resultsThatAreTooLong(t *testing.T) {
	t.Helper()
	for _, list := range [][]T{k.numbered(5), k.ordered()[:5], k.ordered()[33:38]} {
		for _, order := range orders(list) {
			k.wantNotSorted(t, order, append(slices.Clone(order), order[0]))
		}
	}
	for count := 5; count <= 40; count++ {
		k.wantNotSorted(t, k.numbered(count), reversed(k.numbered(count)), cycle(40, reversed(k.numbered(count))...))
	}
}

func TestSortTaintsOfResultsThatAreTooLong(t *testing.T) { taintKind().resultsThatAreTooLong(t) }

func TestSortTolerancesOfResultsThatAreTooLong(t *testing.T) {
	toleranceKind().resultsThatAreTooLong(t)
}

// sortListsThatAreNotValid expects each list in the order that it had.
func (k listKind[T]) sortListsThatAreNotValid(t *testing.T) {
	t.Helper()
	for _, list := range k.badLists() {
		k.wantNotSorted(t, list, reversed(list), append(list[1:len(list):len(list)], list[0]), append(slices.Clone(list), list...))
	}
	good := k.numbered(3)
	for _, bad := range k.bad() {
		k.wantNotSorted(t, []T{bad}, []T{bad, bad}, []T{good[1], good[0], good[1], bad}, []T{bad, good[2], good[0]}, []T{good[2], bad, good[2]}, append(cycle(39, good[1], good[0]), bad), append([]T{bad}, cycle(39, good...)...))
	}
}

func TestSortTaintsOfListsThatAreNotValid(t *testing.T) { taintKind().sortListsThatAreNotValid(t) }

func TestSortTolerancesOfListsThatAreNotValid(t *testing.T) {
	toleranceKind().sortListsThatAreNotValid(t)
}

func (k listKind[T]) sortedAgain(t *testing.T) {
	t.Helper()
	for _, list := range k.lists() {
		for _, order := range orders(append(slices.Clone(list), list[:min(1, len(list))]...)) {
			sorted, ok := k.sort(order)
			again, okAgain := k.sort(sorted)
			if !ok || !okAgain || !slices.Equal(again, list) || !k.listOk(again) {
				t.Errorf("sorting %+v twice gives %+v, %v and %+v, %v", order, sorted, ok, again, okAgain)
			}
		}
	}
}

func TestSortTaintsMakesTaintsCanonical(t *testing.T) { taintKind().sortedAgain(t) }

func TestSortTolerancesMakesTolerationsCanonical(t *testing.T) { toleranceKind().sortedAgain(t) }

func (k listKind[T]) randomList(r *rand.Rand, all []T, bad []T) []T {
	list := []T{}
	for range r.Intn(7) {
		switch {
		case len(list) > 0 && r.Intn(3) == 0:
			list = append(list, list[r.Intn(len(list))])
		case r.Intn(25) == 0:
			list = append(list, bad[r.Intn(len(bad))])
		default:
			list = append(list, all[r.Intn(len(all))])
		}
	}
	return list
}

func (k listKind[T]) randomLists(t *testing.T) {
	t.Helper()
	r := rand.New(rand.NewSource(16))
	all, bad := k.ordered(), k.bad()
	sorted, rejected := 0, 0
	for range 20000 {
		list := k.randomList(r, all, bad)
		k.wantAsDocumented(t, list)
		if _, ok := k.sortedByWords(list); !ok {
			rejected++
		} else if len(list) > 1 {
			sorted++
		}
	}
	if sorted < 5000 || rejected < 3000 {
		t.Errorf("only %d random lists were sorted and %d rejected", sorted, rejected)
	}
}

func TestRandomTaints(t *testing.T) { taintKind().randomLists(t) }

func TestRandomTolerations(t *testing.T) { toleranceKind().randomLists(t) }

func wantTolerates(t *testing.T, want bool, tolerance impl.Tolerance, taints ...impl.Taint) {
	t.Helper()
	for _, x := range taints {
		if got := impl.Tolerates(tolerance, x); got != want {
			t.Errorf("Tolerates(%+.80v, %+.80v) = %v; want %v", tolerance, x, got, want)
		}
	}
}

func TestToleratesWithoutAKeyAndWithoutAnEffect(t *testing.T) {
	wantTolerates(t, true, impl.Tolerance{}, orderedTaints()...)
	wantTolerates(t, true, impl.Tolerance{}, numberedTaints(300)...)
	wantTolerates(t, false, impl.Tolerance{}, badTaints()...)
	for _, taints := range goodTaintLists() {
		for effect := -1; effect <= 3; effect++ {
			wantUntolerated(t, []impl.Tolerance{{}}, taints, effect, 0)
		}
	}
}

func TestToleratesWithoutAKeyAndWithAnEffect(t *testing.T) {
	for _, x := range orderedTaints() {
		wantTolerates(t, x.Effect == impl.EfNever, withKey("", impl.EfNever), x)
		wantTolerates(t, x.Effect == impl.EfSoft, withKey("", impl.EfSoft), x)
	}
	wantTolerates(t, false, withKey("", 1), badTaints()...)
	wantTolerates(t, false, withKey("", 2), badTaints()...)
}

func TestToleratesOfEachCombination(t *testing.T) {
	for effect := 1; effect <= 2; effect++ {
		same := taintOf("a", "x", effect)
		for _, of := range []int{0, effect, 3 - effect} {
			applies := of != 3-effect
			wantTolerates(t, applies, withKey("", of), same, taintOf("b", "y", effect))
			wantTolerates(t, applies, withKey("a", of), same, taintOf("a", "y", effect), taintOf("a", "", effect))
			wantTolerates(t, applies, withPair("a", "x", of), same)
			wantTolerates(t, applies, withPair("a", "", of), taintOf("a", "", effect))
			wantTolerates(t, false, withKey("b", of), same, taintOf("A", "x", effect), taintOf("x", "b", effect), taintOf("bb", "x", effect))
			wantTolerates(t, false, withPair("a", "x", of), taintOf("a", "y", effect), taintOf("a", "", effect), taintOf("a", "X", effect), taintOf("a", "xx", effect), taintOf("b", "x", effect), taintOf("x", "a", effect))
			wantTolerates(t, false, withPair("a", "", of), same, taintOf("b", "", effect))
			wantTolerates(t, false, withPair("", "x", of), same)
			wantTolerates(t, false, withPair("", "", of), taintOf("a", "", effect))
		}
	}
}

// someTolerances and someTaints agree in some fields, and some are not valid.
func someTolerances() []impl.Tolerance {
	list := []impl.Tolerance{}
	for _, key := range []string{"", "a", "b", "A", "a-"} {
		for _, value := range []string{"", "x", "y", "x y"} {
			for effect := -1; effect <= 3; effect++ {
				list = append(list, impl.Tolerance{Key: key, Value: value, Effect: effect}, withPair(key, value, effect))
			}
		}
	}
	return list
}

func someTaints() []impl.Taint {
	list := []impl.Taint{}
	for _, key := range []string{"", "a", "b", "A", "a-"} {
		for _, value := range []string{"", "x", "y", "x y"} {
			for effect := -1; effect <= 3; effect++ {
				list = append(list, taintOf(key, value, effect))
			}
		}
	}
	return list
}

func TestToleratesOfEachPair(t *testing.T) {
	for _, tolerance := range slices.Concat(someTolerances(), orderedTolerances()) {
		for _, x := range slices.Concat(someTaints(), orderedTaints()) {
			if got, want := impl.Tolerates(tolerance, x), toleratesByWords(tolerance, x); got != want {
				t.Fatalf("Tolerates(%+v, %+v) = %v; want %v", tolerance, x, got, want)
			}
		}
	}
}

// The fields agree, as far as they can, so that only the toleration or the taint is at fault.
func TestToleratesOfTolerationsAndTaintsThatAreNotValid(t *testing.T) {
	for _, tolerance := range badTolerances() {
		wantTolerates(t, false, tolerance, taintOf(tolerance.Key, tolerance.Value, tolerance.Effect), taintOf(tolerance.Key, tolerance.Value, 1), taintOf("a", tolerance.Value, 1), taintOf("a", "x", 1), taintOf("a", "", 2), taintOf("b", "x", max(tolerance.Effect, 1)))
	}
	for _, x := range badTaints() {
		for _, tolerance := range []impl.Tolerance{{}, withKey("", x.Effect), withKey(x.Key, 0), withKey(x.Key, x.Effect), withPair(x.Key, x.Value, 0), withPair(x.Key, x.Value, x.Effect), withKey("a", 0), withPair("a", "x", 0)} {
			wantTolerates(t, false, tolerance, x)
		}
	}
	wantTolerates(t, false, impl.Tolerance{}, impl.Taint{})
}

func TestATaintIsToleratedByThatOfItsKeyValueAndEffect(t *testing.T) {
	for i, x := range orderedTaints() {
		for j, other := range orderedTaints() {
			wantTolerates(t, i == j, withPair(x.Key, x.Value, x.Effect), other)
		}
		for of := range 3 {
			want := of == 0 || of == x.Effect
			wantTolerates(t, want, withPair(x.Key, x.Value, of), x)
			wantTolerates(t, want, withKey(x.Key, of), x)
			wantTolerates(t, want, withKey("", of), x)
		}
	}
}

func wantUntolerated(t *testing.T, list []impl.Tolerance, taints []impl.Taint, effect int, want int) {
	t.Helper()
	if got := impl.Untolerated(list, taints, effect); got != want {
		t.Errorf("Untolerated(%s, %s, %d) = %d; want %d", listed(list), listed(taints), effect, got, want)
	}
}

func TestUntoleratedOfEachEffect(t *testing.T) {
	taints := []impl.Taint{taintOf("a", "x", 1), taintOf("a", "x", 2), taintOf("b", "y", 1), taintOf("c", "", 1)}
	for _, c := range []struct {
		list        []impl.Tolerance
		never, soft int
	}{
		{nil, 3, 1},
		{[]impl.Tolerance{}, 3, 1},
		{[]impl.Tolerance{{}}, 0, 0},
		{[]impl.Tolerance{withKey("", 1)}, 0, 1},
		{[]impl.Tolerance{withKey("", 2)}, 3, 0},
		{[]impl.Tolerance{withKey("a", 0)}, 2, 0},
		{[]impl.Tolerance{withKey("a", 1)}, 2, 1},
		{[]impl.Tolerance{withKey("a", 2)}, 3, 0},
		{[]impl.Tolerance{withPair("a", "x", 0)}, 2, 0},
		{[]impl.Tolerance{withPair("a", "y", 0)}, 3, 1},
		{[]impl.Tolerance{withPair("c", "", 0)}, 2, 1},
		{[]impl.Tolerance{withKey("d", 0)}, 3, 1},
		{[]impl.Tolerance{withKey("a", 1), withPair("b", "y", 1)}, 1, 1},
		{[]impl.Tolerance{withKey("a", 0), withPair("a", "x", 0), withPair("a", "x", 1)}, 2, 0},
		{[]impl.Tolerance{withKey("d", 0), withKey("a", 0), withPair("b", "x", 0), withKey("c", 1)}, 1, 0},
		{[]impl.Tolerance{withKey("a", 0), withKey("b", 0), withKey("c", 0)}, 0, 0},
	} {
		wantUntolerated(t, c.list, taints, impl.EfNever, c.never)
		wantUntolerated(t, c.list, taints, impl.EfSoft, c.soft)
		wantUntolerated(t, reversed(c.list), reversed(taints), impl.EfNever, c.never)
		wantUntolerated(t, reversed(c.list), reversed(taints), impl.EfSoft, c.soft)
		for _, effect := range append(wrongEffects(), 0) {
			wantUntolerated(t, c.list, taints, effect, 0)
		}
	}
	wantUntolerated(t, nil, taints[:1], impl.EfSoft, 0)
	wantUntolerated(t, nil, taints[1:2], impl.EfNever, 0)
}

func TestUntoleratedOfNoTaints(t *testing.T) {
	for _, taints := range [][]impl.Taint{nil, {}, numberedTaints(4)[:0]} {
		for effect := -1; effect <= 3; effect++ {
			wantUntolerated(t, nil, taints, effect, 0)
			wantUntolerated(t, []impl.Tolerance{}, taints, effect, 0)
			wantUntolerated(t, numberedTolerances(4), taints, effect, 0)
			wantUntolerated(t, badTolerances(), taints, effect, 0)
		}
	}
}

func TestUntoleratedOfNoTolerations(t *testing.T) {
	for _, list := range [][]impl.Tolerance{nil, {}, numberedTolerances(4)[:0]} {
		for count := range 9 {
			wantUntolerated(t, list, numberedTaints(count), 1, (count+1)/2)
			wantUntolerated(t, list, numberedTaints(count), 2, count/2)
			wantUntolerated(t, list, numberedTaints(count), 0, 0)
		}
	}
}

// Each taint counts, also where it is there twice.
func TestUntoleratedOfTheSameTaintTwice(t *testing.T) {
	x, y := taintOf("a", "x", 1), taintOf("b", "y", 1)
	for count := 1; count <= 9; count++ {
		wantUntolerated(t, nil, cycle(count, x), 1, count)
		wantUntolerated(t, []impl.Tolerance{withKey("b", 0)}, cycle(count, x), 1, count)
		wantUntolerated(t, []impl.Tolerance{withKey("a", 0)}, cycle(count, x), 1, 0)
		wantUntolerated(t, []impl.Tolerance{withKey("b", 0), withKey("b", 0)}, cycle(2*count, x, y), 1, count)
		wantUntolerated(t, nil, cycle(2*count, x, taintOf("a", "x", 2)), 1, count)
		wantUntolerated(t, nil, cycle(300*count, x, y), 1, 300*count)
	}
}

// Of a list that is not valid each element counts on its own: no toleration applies to a taint that is not valid, and none that is not valid applies.
func TestUntoleratedOfListsThatAreNotValid(t *testing.T) {
	all := []impl.Tolerance{{}, withKey("", 1), withKey("a", 0), withPair("a", "x", 1)}
	for _, x := range badTaints() {
		wantUntolerated(t, nil, []impl.Taint{x}, x.Effect, 1)
		wantUntolerated(t, append(all, withKey(x.Key, x.Effect), withPair(x.Key, x.Value, 0)), []impl.Taint{x, x}, x.Effect, 2)
		wantUntolerated(t, all, []impl.Taint{taintOf("a", "x", 1), x, taintOf("a", "x", 2)}, x.Effect, 1)
		if x.Effect != 1 {
			wantUntolerated(t, nil, []impl.Taint{x, taintOf("a", "x", 1), x}, 1, 1)
		}
	}
	for _, bad := range badTolerances() {
		for effect := 1; effect <= 2; effect++ {
			taints := []impl.Taint{taintOf("a", "", effect), taintOf("a", "x", effect), taintOf("b", bad.Value, effect)}
			wantUntolerated(t, []impl.Tolerance{bad}, taints, effect, 3)
			wantUntolerated(t, []impl.Tolerance{bad, withKey("a", effect), bad}, taints, effect, 1)
			wantUntolerated(t, []impl.Tolerance{bad, withKey("a", effect), withKey("b", 0)}, taints[:2], effect, 0)
		}
	}
	wantUntolerated(t, nil, []impl.Taint{{}}, 0, 1)
	wantUntolerated(t, []impl.Tolerance{{}}, []impl.Taint{{}, {}}, 0, 2)
	// Lists in no order, of more than MaxTaints elements.
	wantUntolerated(t, reversed(numberedTolerances(9)), reversed(numberedTaints(40)), 1, untoleratedByWords(numberedTolerances(9), numberedTaints(40), 1))
	wantUntolerated(t, append(numberedTolerances(300), impl.Tolerance{}), numberedTaints(300), 2, 0)
}

// shortListsOf are all lists of up to count elements.
func shortListsOf[T any](count int, elements ...T) [][]T {
	lists, level := [][]T{{}}, [][]T{{}}
	for range count {
		next := [][]T{}
		for _, list := range level {
			for _, element := range elements {
				next = append(next, append(slices.Clone(list), element))
			}
		}
		lists, level = append(lists, next...), next
	}
	return lists
}

// An additional toleration stands in each place of each list.
func TestAnAdditionalTolerationNeverIncreasesTheUntolerated(t *testing.T) {
	tolerances := []impl.Tolerance{{}, withKey("", 1), withKey("a", 0), withKey("a", 2), withPair("a", "x", 0), withPair("a", "x", 1), withPair("b", "", 2), withPair("", "x", 0), withKey("b", 3)}
	taints := []impl.Taint{taintOf("a", "x", 1), taintOf("a", "x", 2), taintOf("a", "y", 1), taintOf("b", "", 2), taintOf("b", "x", 1), taintOf("b", "", 0), taintOf("", "x", 1)}
	lower := 0
	for _, some := range shortListsOf(3, taints...) {
		for effect := range 4 {
			for _, list := range shortListsOf(2, tolerances...) {
				want := untoleratedByWords(list, some, effect)
				wantUntolerated(t, list, some, effect, want)
				if len(list) > 1 {
					continue
				}
				before := impl.Untolerated(list, some, effect)
				for _, more := range tolerances {
					for at := range len(list) + 1 {
						after := impl.Untolerated(slices.Insert(slices.Clone(list), at, more), some, effect)
						if after > before {
							t.Errorf("with %+v at %d, Untolerated(%+v, %+v, %d) is %d in place of %d", more, at, list, some, effect, after, before)
						}
						if after < before {
							lower++
						}
					}
				}
			}
		}
	}
	if lower < 1000 {
		t.Errorf("only %d tolerations lowered the number of untolerated taints", lower)
	}
}

func TestRandomTolerationsAreAdded(t *testing.T) {
	r := rand.New(rand.NewSource(61))
	tolerances := append(someTolerances(), slices.Repeat(slices.DeleteFunc(someTolerances(), func(t impl.Tolerance) bool { return !toleranceByWords(t) }), 20)...)
	taints := append(someTaints(), slices.Repeat(slices.DeleteFunc(someTaints(), func(x impl.Taint) bool { return !taintByWords(x) }), 20)...)
	lower := 0
	for range 2000 {
		list, some := []impl.Tolerance{}, []impl.Taint{}
		for range 6 {
			some = append(some, taints[r.Intn(len(taints))])
		}
		effect := 1 + r.Intn(2)
		before := len(some)
		for range 12 {
			after := impl.Untolerated(list, some, effect)
			if after > before || after != untoleratedByWords(list, some, effect) {
				t.Errorf("Untolerated(%s, %s, %d) = %d; want %d, and without the last toleration it is %d", listed(list), listed(some), effect, after, untoleratedByWords(list, some, effect), before)
			}
			if after < before && len(list) > 0 {
				lower++
			}
			before = after
			list = append(list, tolerances[r.Intn(len(tolerances))])
		}
	}
	if lower < 2000 {
		t.Errorf("only %d tolerations lowered the number of untolerated taints", lower)
	}
}

// Sorting keeps what a list of tolerations tolerates.
func TestSortingTolerationsDoesNotChangeWhatTheyTolerate(t *testing.T) {
	taints := append(someTaints(), orderedTaints()...)
	for _, list := range goodToleranceLists() {
		for _, order := range orders(list) {
			sorted, _ := impl.SortTolerances(append(slices.Clone(order), order...))
			for effect := range 3 {
				wantUntolerated(t, sorted, taints, effect, untoleratedByWords(order, taints, effect))
			}
		}
	}
}

// between is a copy of list between elements that do not belong to it, so that a change of these would be seen.
func between[T any](list []T, spare []T) (all []T, arg []T) {
	all = slices.Concat(spare[2:], list, spare)
	return all, all[len(spare)-2 : len(spare)-2+len(list)]
}

func spareTaints() []impl.Taint {
	return []impl.Taint{taintOf("z", "behind", 2), taintOf("a", "behind", 1), taintOf("m", "before", 1), taintOf("a", "before", 1), {}}
}

func spareTolerances() []impl.Tolerance {
	return []impl.Tolerance{withPair("z", "behind", 2), withPair("a", "behind", 1), withPair("m", "before", 0), withKey("a", 1), {}}
}

// sortable are lists for the function that sorts them, of which it rejects some.
func (k listKind[T]) sortable() [][]T {
	lists := slices.Concat(k.lists(), k.badLists()[:40], orders(k.numbered(4)), orders(k.numbered(5))[:30])
	for _, order := range orders(k.ordered()[3:6]) {
		lists = append(lists, append(order, order[1], order[0]), cycle(40, order...), cycle(41, order...))
	}
	for _, bad := range k.bad() {
		lists = append(lists, []T{k.numbered(2)[1], bad, k.numbered(1)[0], k.numbered(2)[1]})
	}
	return lists
}

func TestTaintFunctionsKeepTheirArguments(t *testing.T) {
	taints, tolerances := taintKind().sortable(), toleranceKind().sortable()
	for i := range max(len(taints), len(tolerances)) {
		allTaints, taintsArg := between(taints[i%len(taints)], spareTaints())
		allTolerances, listArg := between(tolerances[i%len(tolerances)], spareTolerances())
		keptTaints, keptTolerances := slices.Clone(allTaints), slices.Clone(allTolerances)
		impl.TaintsOk(taintsArg)
		impl.TolerancesOk(listArg)
		impl.Untolerated(listArg, taintsArg, 1)
		impl.Untolerated(listArg, taintsArg, 2)
		impl.SortTaints(taintsArg)
		impl.SortTolerances(listArg)
		if !slices.Equal(allTaints, keptTaints) || !slices.Equal(allTolerances, keptTolerances) {
			t.Errorf("the taints %+v were changed to %+v or the tolerations %+v to %+v", keptTaints, allTaints, keptTolerances, allTolerances)
		}
	}
}

// overwriteList changes all elements and the capacity behind them.
func overwriteList[T any](list []T, changed T) {
	list = list[:cap(list)]
	for i := range list {
		list[i] = changed
	}
}

func (k listKind[T]) newMemory(t *testing.T, spare []T) {
	t.Helper()
	var changed T
	for _, list := range k.sortable() {
		all, arg := between(list, spare)
		kept := slices.Clone(all)
		first, ok := k.sort(arg)
		second, _ := k.sort(arg)
		if anyOverlap([]span{spanOf(first), spanOf(second)}, []span{spanOf(all)}) {
			t.Errorf("Sort%ss(%s) shares memory", k.name, listed(list))
		}
		want := slices.Clone(first)
		overwriteList(first, changed)
		if !slices.Equal(all, kept) || !slices.Equal(second, want) {
			t.Errorf("a change of one result of Sort%ss(%s) changed the argument to %s or the other result to %s", k.name, listed(list), listed(arg), listed(second))
		}
		overwriteList(all, changed)
		if !slices.Equal(second, want) {
			t.Errorf("a change of the argument %s of Sort%ss changed the result to %s", listed(list), k.name, listed(second))
		}
		if sorted, sortedOk := k.sortedByWords(list); ok != sortedOk || !slices.Equal(want, sorted) {
			t.Errorf("Sort%ss(%s) = %s, %v; want %s, %v", k.name, listed(list), listed(want), ok, listed(sorted), sortedOk)
		}
	}
}

func TestSortTaintsReturnsNewMemory(t *testing.T) { taintKind().newMemory(t, spareTaints()) }

func TestSortTolerancesReturnsNewMemory(t *testing.T) {
	toleranceKind().newMemory(t, spareTolerances())
}

// The bytes of the arguments lie in a slice here, so that a change would be seen.
func TestTaintFunctionsKeepTheBytesOfTheirArguments(t *testing.T) {
	for _, text := range []string{"", "-", "a", "web-1", "App/x", "a b", "ÿ", strings.Repeat("a", 21), strings.Repeat("a", 31)} {
		kept := append([]byte(text), "spare"...)
		arg := unsafe.String(unsafe.SliceData(kept), len(text))
		x, tolerance := taintOf(arg, arg, 1), withPair(arg, arg, 1)
		impl.TaintOk(x)
		impl.ToleranceOk(tolerance)
		impl.Tolerates(tolerance, x)
		impl.Untolerated([]impl.Tolerance{withKey(arg, 0), tolerance}, []impl.Taint{x, x}, 1)
		impl.SortTaints([]impl.Taint{taintOf("z", arg, 1), x, x})
		impl.SortTolerances([]impl.Tolerance{withKey("z", 1), tolerance, withKey(arg, 0), tolerance})
		impl.TaintsOk([]impl.Taint{x, x})
		impl.TolerancesOk([]impl.Tolerance{tolerance, tolerance})
		if string(kept) != text+"spare" {
			t.Errorf("the argument %q was changed to %q", text+"spare", kept)
		}
	}
}
