package tests

import (
	"fmt"
	"math"
	"math/rand"
	"reflect"
	"slices"
	"strconv"
	"strings"
	"testing"
	"unsafe"

	"loop.example/g00968/impl"
)

// The following functions say what the document says. They read on behind a fault, because of all faults the first one counts.

type faultsInOrder struct{ list []impl.Fault }

func (f *faultsInOrder) add(wrong bool, code int, path string) {
	if wrong {
		f.list = append(f.list, impl.Fault{Code: code, Path: path})
	}
}

func (f *faultsInOrder) addFault(fault impl.Fault) { f.add(fault.Code != 0, fault.Code, fault.Path) }

func unlessFaulty[T any](f faultsInOrder, value T) (T, impl.Fault) {
	if len(f.list) > 0 {
		var zero T
		return zero, f.list[0]
	}
	return value, impl.Fault{}
}

// text returns the Text at key, and whether there is such a key.
func (f *faultsInOrder) text(tree impl.Tree, path string, key string, required bool, ok func(string) bool) (string, bool) {
	value, there := valueByWords(tree, key)
	at := pathByWords(path, key)
	f.add(required && !there, 12, at)
	f.add(there && value.Kind != 4, 11, at)
	f.add(there && !ok(value.Text), 14, at)
	return value.Text, there
}

func (f *faultsInOrder) number(tree impl.Tree, key string, reader fieldReader) int {
	value, there := valueByWords(tree, key)
	result, code := reader.absent, reader.absentCode
	if there {
		result, code = reader.byWords(value)
	}
	f.add(code != 0, code, key)
	return result.Num
}

func (f *faultsInOrder) kids(tree impl.Tree, path string, key string) []impl.Tree {
	value, there := valueByWords(tree, key)
	f.add(there && value.Kind != 5, 11, pathByWords(path, key))
	f.add(len(value.Kids) > 40, 16, pathByWords(path, key))
	return value.Kids
}

// eachByWords also sorts what it has read.
func eachByWords[T any](f *faultsInOrder, list []impl.Tree, path string, read func(impl.Tree, string) (T, impl.Fault), sort func([]T) ([]T, bool)) []T {
	unsorted := []T{}
	for i, tree := range list {
		element, fault := read(tree, fmt.Sprintf("%s[%d]", path, i))
		f.addFault(fault)
		unsorted = append(unsorted, element)
	}
	sorted, ok := sort(unsorted)
	f.add(!ok, 16, path)
	return sorted
}

func labelsInByWords(tree impl.Tree, path string) ([]impl.Label, impl.Fault) {
	f, list := faultsInOrder{}, []impl.Label{}
	f.add(tree.Kind != 6 || len(tree.Keys) != len(tree.Kids), 11, path)
	f.add(len(tree.Keys) > 6, 16, path)
	for i := range min(len(tree.Keys), len(tree.Kids)) {
		key, value := tree.Keys[i], tree.Kids[i]
		f.add(value.Kind != 4, 11, pathByWords(path, key))
		f.add(!labelKeyWords.MatchString(key) || !labelValueWords.MatchString(value.Text), 14, pathByWords(path, key))
		list = append(list, impl.Label{Key: key, Value: value.Text})
	}
	return unlessFaulty(f, list)
}

func needInByWords(tree impl.Tree, path string) (impl.Need, impl.Fault) {
	f, at := faultsInOrder{}, pathByWords(path, "values")
	f.addFault(unknownByWords(tree, path, []string{"key", "op", "values"}))
	key, _ := f.text(tree, path, "key", true, labelKeyWords.MatchString)
	op, _ := f.text(tree, path, "op", true, func(word string) bool { return opsOfWords()[word] != 0 })
	values := []string{}
	for i, value := range f.kids(tree, path, "values") {
		f.add(value.Kind != 4, 11, at+"["+strconv.Itoa(i)+"]")
		f.add(!labelValueWords.MatchString(value.Text), 14, at+"["+strconv.Itoa(i)+"]")
		values = append(values, value.Text)
	}
	n := needOf(key, opsOfWords()[op], valuesOnceByWords(values)...)
	f.add(len(n.Values) == 0 && (op == "in" || op == "notin"), 14, at)
	f.add(len(n.Values) != 0 && (op == "has" || op == "hasnot"), 14, at)
	f.add(len(n.Values) > 4, 16, at)
	return unlessFaulty(f, n)
}

func opsOfWords() map[string]int {
	return map[string]int{"in": 1, "notin": 2, "has": 3, "hasnot": 4}
}

func needsInByWords(list []impl.Tree, path string) ([]impl.Need, impl.Fault) {
	f := faultsInOrder{}
	needs := eachByWords(&f, list, path, needInByWords, sortedNeedsByWords)
	return unlessFaulty(f, needs)
}

func effectsOfWords() map[string]int { return map[string]int{"never": 1, "soft": 2} }

func (f *faultsInOrder) effect(tree impl.Tree, path string, required bool) int {
	word, _ := f.text(tree, path, "effect", required, func(word string) bool { return effectsOfWords()[word] != 0 })
	return effectsOfWords()[word]
}

func taintInByWords(tree impl.Tree, path string) (impl.Taint, impl.Fault) {
	f, x := faultsInOrder{}, impl.Taint{}
	f.addFault(unknownByWords(tree, path, []string{"effect", "key", "value"}))
	x.Key, _ = f.text(tree, path, "key", true, labelKeyWords.MatchString)
	x.Value, _ = f.text(tree, path, "value", false, labelValueWords.MatchString)
	x.Effect = f.effect(tree, path, true)
	return unlessFaulty(f, x)
}

func toleranceInByWords(tree impl.Tree, path string) (impl.Tolerance, impl.Fault) {
	f, x := faultsInOrder{}, impl.Tolerance{}
	f.addFault(unknownByWords(tree, path, []string{"effect", "key", "value"}))
	x.Key, _ = f.text(tree, path, "key", false, func(key string) bool { return key == "" || labelKeyWords.MatchString(key) })
	x.Value, x.Equal = f.text(tree, path, "value", false, func(value string) bool { return x.Key != "" && labelValueWords.MatchString(value) })
	x.Effect = f.effect(tree, path, false)
	return unlessFaulty(f, x)
}

func (f *faultsInOrder) labels(tree impl.Tree) []impl.Label {
	value, there := valueByWords(tree, "labels")
	if !there {
		return nil
	}
	f.add(value.Kind != 6, 11, "labels")
	labels, fault := labelsInByWords(value, "labels")
	f.addFault(fault)
	return labels
}

func podInByWords(tree impl.Tree, _ string) (impl.Pod, impl.Fault) {
	f, p := faultsInOrder{}, impl.Pod{}
	f.addFault(unknownByWords(tree, "", []string{"cpu", "kind", "labels", "mem", "name", "needs", "rank", "tolerances"}))
	f.text(tree, "", "kind", true, func(word string) bool { return word == "pod" })
	p.Name, _ = f.text(tree, "", "name", true, nameWords.MatchString)
	p.Labels = f.labels(tree)
	p.Cpu, p.Mem = f.number(tree, "cpu", amountReader()), f.number(tree, "mem", amountReader())
	p.Rank = f.number(tree, "rank", wholeReader(0, 1000, 0))
	p.Needs = eachByWords(&f, f.kids(tree, "", "needs"), "needs", needInByWords, sortedNeedsByWords)
	p.Tolerances = eachByWords(&f, f.kids(tree, "", "tolerances"), "tolerances", toleranceInByWords, toleranceKind().sortedByWords)
	return unlessFaulty(f, p)
}

func hostInByWords(tree impl.Tree, _ string) (impl.Host, impl.Fault) {
	f, h := faultsInOrder{}, impl.Host{}
	f.addFault(unknownByWords(tree, "", []string{"cpu", "kind", "labels", "mem", "name", "slots", "taints"}))
	f.text(tree, "", "kind", true, func(word string) bool { return word == "host" })
	h.Name, _ = f.text(tree, "", "name", true, nameWords.MatchString)
	h.Labels = f.labels(tree)
	h.Cpu, h.Mem = f.number(tree, "cpu", amountReader()), f.number(tree, "mem", amountReader())
	h.Slots = f.number(tree, "slots", wholeReader(1, 20, 20))
	h.Taints = eachByWords(&f, f.kids(tree, "", "taints"), "taints", taintInByWords, taintKind().sortedByWords)
	return unlessFaulty(f, h)
}

// A reading is what one function of the chapter reads. NeedsIn gets the Kids of a tree, and PodIn and HostIn have the empty path only.
type reading[T any] struct {
	name      string
	paths     []string
	read      func(tree impl.Tree, path string) (T, impl.Fault)
	byWords   func(tree impl.Tree, path string) (T, impl.Fault)
	clone     func(T) T // copies all lists, and an empty one becomes nil
	spans     func(T) []span
	overwrite func(T)
	full      func() impl.Tree   // valid, with all fields
	mistakes  func() [][]mistake // for full, field by field in the order of the chapter
	good      func() []impl.Tree // valid
}

// anyReading has the checks of a reading, whatever it reads.
type anyReading interface {
	wantNotRead(t *testing.T, tree impl.Tree, code int, at string)
	wantAsDocumented(t *testing.T, tree impl.Tree, path string)
	wantFaultOf(t *testing.T, tree impl.Tree, at string)
	byWordsOf(tree impl.Tree) (any, impl.Fault)
	fullTree() impl.Tree
	mistakesInOrder() [][]mistake
	goodTrees() []impl.Tree
	pathsOf() []string
	named() string
	wantOwnMemory(t *testing.T, tree impl.Tree)
}

func (k reading[T]) byWordsOf(tree impl.Tree) (any, impl.Fault) { return k.byWords(tree, "") }

func (k reading[T]) fullTree() impl.Tree { return k.full() }

func (k reading[T]) mistakesInOrder() [][]mistake { return k.mistakes() }

func (k reading[T]) goodTrees() []impl.Tree { return k.good() }

func (k reading[T]) pathsOf() []string { return k.paths }

func (k reading[T]) named() string { return k.name }

func labelsReading() reading[[]impl.Label] {
	return reading[[]impl.Label]{name: "LabelsIn", paths: fieldPaths(), read: impl.LabelsIn, byWords: labelsInByWords,
		clone:     func(list []impl.Label) []impl.Label { return slices.Concat(list) },
		spans:     func(list []impl.Label) []span { return podSpans(impl.Pod{Labels: list}) },
		overwrite: overwriteLabels, full: func() impl.Tree { return mapOf("app rev tier", textOf("web"), textOf(""), textOf("9")) }, mistakes: labelMistakes, good: goodLabelTrees}
}

func needReading() reading[impl.Need] {
	return reading[impl.Need]{name: "NeedIn", paths: fieldPaths(), read: impl.NeedIn, byWords: needInByWords,
		clone:     func(n impl.Need) impl.Need { return clonePod(impl.Pod{Needs: []impl.Need{n}}).Needs[0] },
		spans:     func(n impl.Need) []span { return needSpans([]impl.Need{n})[1:] },
		overwrite: func(n impl.Need) { overwriteList(n.Values, "changed") }, full: fullNeed, mistakes: needMistakes, good: goodNeedTrees}
}

func needsReading() reading[[]impl.Need] {
	return reading[[]impl.Need]{name: "NeedsIn", paths: fieldPaths(),
		read:      func(tree impl.Tree, path string) ([]impl.Need, impl.Fault) { return impl.NeedsIn(tree.Kids, path) },
		byWords:   func(tree impl.Tree, path string) ([]impl.Need, impl.Fault) { return needsInByWords(tree.Kids, path) },
		clone:     func(list []impl.Need) []impl.Need { return clonePod(impl.Pod{Needs: list}).Needs },
		spans:     needSpans,
		overwrite: overwriteNeeds, full: func() impl.Tree { return listOf(fullNeed(), needTree(needOf("gpu", 3)), fullNeed()) }, mistakes: needsMistakes, good: goodNeedsTrees}
}

func taintReading() reading[impl.Taint] {
	return reading[impl.Taint]{name: "TaintIn", paths: fieldPaths(), read: impl.TaintIn, byWords: taintInByWords,
		clone: func(x impl.Taint) impl.Taint { return x }, spans: func(impl.Taint) []span { return nil }, overwrite: func(impl.Taint) {}, full: fullTaint, mistakes: taintMistakes, good: goodTaintTrees}
}

func toleranceReading() reading[impl.Tolerance] {
	return reading[impl.Tolerance]{name: "ToleranceIn", paths: fieldPaths(), read: impl.ToleranceIn, byWords: toleranceInByWords,
		clone: func(x impl.Tolerance) impl.Tolerance { return x }, spans: func(impl.Tolerance) []span { return nil }, overwrite: func(impl.Tolerance) {}, full: fullTaint, mistakes: toleranceMistakes, good: goodToleranceTrees}
}

func podReading() reading[impl.Pod] {
	return reading[impl.Pod]{name: "PodIn", paths: []string{""},
		read:    func(tree impl.Tree, _ string) (impl.Pod, impl.Fault) { return impl.PodIn(tree) },
		byWords: podInByWords, clone: clonePod, spans: podSpans, overwrite: overwritePod, full: func() impl.Tree { return podTree(untidyPod()) }, mistakes: podMistakes, good: goodPodTrees}
}

func hostReading() reading[impl.Host] {
	return reading[impl.Host]{name: "HostIn", paths: []string{""},
		read:    func(tree impl.Tree, _ string) (impl.Host, impl.Fault) { return impl.HostIn(tree) },
		byWords: hostInByWords, clone: cloneHost, spans: hostSpans, overwrite: overwriteHost, full: func() impl.Tree { return hostTree(untidyHost()) }, mistakes: hostMistakes, good: goodHostTrees}
}

func readings() []anyReading {
	return []anyReading{labelsReading(), needReading(), needsReading(), taintReading(), toleranceReading(), podReading(), hostReading()}
}

// The following functions check one call.

func (k reading[T]) wantRead(t *testing.T, tree impl.Tree, want T) {
	t.Helper()
	for _, path := range k.paths {
		if got, fault := k.read(tree, path); fault != (impl.Fault{}) || !reflect.DeepEqual(k.clone(got), k.clone(want)) {
			t.Errorf("%s(%s, %.40q) = %s, %s; want %s and no fault", k.name, brief(tree), path, told(got), shownFault(fault), told(want))
		}
	}
}

func (k reading[T]) wantFault(t *testing.T, tree impl.Tree, path string, code int, at string) {
	t.Helper()
	var zero T
	if got, fault := k.read(tree, path); fault != (impl.Fault{Code: code, Path: at}) || !reflect.DeepEqual(k.clone(got), zero) {
		t.Errorf("%s(%s, %.40q) = %s, %s; want the zero value and code %d at %.60q", k.name, brief(tree), path, told(got), shownFault(fault), code, at)
	}
}

// wantNotRead is for each path, in place of which the location has @.
func (k reading[T]) wantNotRead(t *testing.T, tree impl.Tree, code int, at string) {
	t.Helper()
	for _, path := range k.paths {
		k.wantFault(t, tree, path, code, behind(path, at))
	}
}

func (k reading[T]) wantAsDocumented(t *testing.T, tree impl.Tree, path string) {
	t.Helper()
	want, wantFault := k.byWords(tree, path)
	if got, fault := k.read(tree, path); fault != wantFault || !reflect.DeepEqual(k.clone(got), k.clone(want)) {
		t.Errorf("%s(%s, %.40q) = %s, %s; want %s, %s", k.name, brief(tree), path, told(got), shownFault(fault), told(want), shownFault(wantFault))
	}
}

// behind puts a path in place of the @ with which a location begins.
func behind(path string, at string) string {
	rest, isBehind := strings.CutPrefix(at, "@")
	switch {
	case !isBehind:
		return at
	case path == "":
		return strings.TrimPrefix(rest, ".")
	}
	return path + rest
}

// The following functions make trees.

// A mistake is one wrong value in a map, or a key that is not there, and the fault that it gives. The @ of its location stands for the path of the map.
type mistake struct {
	key   string
	value impl.Tree
	gone  bool
	code  int
	at    string
}

func (m mistake) in(tree impl.Tree) impl.Tree {
	if m.gone {
		return without(tree, m.key)
	}
	return with(tree, m.key, m.value)
}

// with and without keep the order of the other keys. A new key stands at its position.
func with(tree impl.Tree, key string, value impl.Tree) impl.Tree {
	at := slices.Index(tree.Keys, key)
	if at < 0 {
		at = 0
		for at < len(tree.Keys) && tree.Keys[at] < key {
			at++
		}
		tree.Keys = slices.Insert(slices.Clone(tree.Keys), at, key)
		tree.Kids = slices.Insert(slices.Clone(tree.Kids), min(at, len(tree.Kids)), value)
	} else if at < len(tree.Kids) {
		tree.Kids = withElement(tree.Kids, at, value)
	}
	return tree
}

func without(tree impl.Tree, key string) impl.Tree {
	if at := slices.Index(tree.Keys, key); at >= 0 && at < len(tree.Kids) {
		tree.Keys = slices.Delete(slices.Clone(tree.Keys), at, at+1)
		tree.Kids = slices.Delete(slices.Clone(tree.Kids), at, at+1)
	}
	return tree
}

// fieldsOf is a map of keys and values in turn.
func fieldsOf(words ...string) impl.Tree {
	tree := mapOf("")
	for i := 0; i < len(words); i += 2 {
		tree = with(tree, words[i], textOf(words[i+1]))
	}
	return tree
}

func textsIn(texts ...string) impl.Tree {
	tree := listOf()
	for _, text := range texts {
		tree.Kids = append(tree.Kids, textOf(text))
	}
	return tree
}

func listIn[T any](list []T, treeOf func(T) impl.Tree) impl.Tree {
	tree := listOf()
	for _, element := range list {
		tree.Kids = append(tree.Kids, treeOf(element))
	}
	return tree
}

// labelTree keeps the order of the labels, also if one key stands there twice.
func labelTree(list []impl.Label) impl.Tree {
	tree := mapOf("")
	for _, label := range list {
		tree.Keys = append(tree.Keys, label.Key)
		tree.Kids = append(tree.Kids, textOf(label.Value))
	}
	return tree
}

// wordOf is the word of a number, and a question mark if it has none.
func wordOf(n int, words map[string]int) string {
	for word, number := range words {
		if number == n {
			return word
		}
	}
	return "?"
}

func needTree(n impl.Need) impl.Tree {
	tree := fieldsOf("key", n.Key, "op", wordOf(n.Op, opsOfWords()))
	if len(n.Values) > 0 {
		tree = with(tree, "values", textsIn(n.Values...))
	}
	return tree
}

func taintTree(x impl.Taint) impl.Tree {
	tree := fieldsOf("key", x.Key, "effect", wordOf(x.Effect, effectsOfWords()))
	if x.Value != "" {
		tree = with(tree, "value", textOf(x.Value))
	}
	return tree
}

func toleranceTree(x impl.Tolerance) impl.Tree {
	tree := mapOf("")
	if x.Key != "" {
		tree = with(tree, "key", textOf(x.Key))
	}
	if x.Equal || x.Value != "" {
		tree = with(tree, "value", textOf(x.Value))
	}
	if x.Effect != 0 {
		tree = with(tree, "effect", textOf(wordOf(x.Effect, effectsOfWords())))
	}
	return tree
}

func podTree(p impl.Pod) impl.Tree {
	tree := fieldsOf("kind", "pod", "name", p.Name, "cpu", strconv.Itoa(p.Cpu)+"m", "mem", strconv.Itoa(p.Mem)+"m")
	tree = with(tree, "labels", labelTree(p.Labels))
	tree = with(tree, "needs", listIn(p.Needs, needTree))
	tree = with(tree, "tolerances", listIn(p.Tolerances, toleranceTree))
	return with(tree, "rank", intOf(p.Rank))
}

func hostTree(h impl.Host) impl.Tree {
	tree := fieldsOf("kind", "host", "name", h.Name, "cpu", strconv.Itoa(h.Cpu)+"m", "mem", strconv.Itoa(h.Mem)+"m")
	tree = with(tree, "labels", labelTree(h.Labels))
	tree = with(tree, "taints", listIn(h.Taints, taintTree))
	return with(tree, "slots", intOf(h.Slots))
}

func fullNeed() impl.Tree { return needTree(needOf("zone", 1, "d", "a", "c", "a")) }

func fullTaint() impl.Tree { return fieldsOf("effect", "soft", "key", "gpu", "value", "a1") }

// The following functions make mistakes.

func unknownKeys(keys ...string) []mistake {
	list := []mistake{}
	for i, key := range keys {
		list = append(list, mistake{key: key, value: valuesOf(1 + i%6)[i%2], code: 13, at: "@." + key})
	}
	return list
}

func missing(key string) []mistake {
	return []mistake{{key: key, gone: true, code: 12, at: "@." + key}}
}

// wrongKinds are values of all kinds but the given ones.
func wrongKinds(key string, kinds ...int) []mistake {
	list := []mistake{}
	for _, kind := range treeKinds() {
		for _, value := range valuesOf(kind) {
			if !slices.Contains(kinds, kind) {
				list = append(list, mistake{key: key, value: value, code: 11, at: "@." + key})
			}
		}
	}
	return list
}

func wrongTexts(key string, texts ...string) []mistake {
	list := []mistake{}
	for _, text := range texts {
		list = append(list, mistake{key: key, value: textOf(text), code: 14, at: "@." + key})
	}
	return list
}

func wrongValue(key string, value impl.Tree, code int, at string) mistake {
	return mistake{key: key, value: value, code: code, at: at}
}

func wrongKey(key string) []mistake {
	return slices.Concat(missing(key), wrongKinds(key, 4), wrongTexts(key, badLabelKeys()...))
}

func wrongWords() []string {
	return []string{"", " ", "?", "-", "0", "1", "2", "3", "4", "In", "IN", "in ", " in", "i", "inn", "not", "not in", "notIn", "notin,", "Has", "has not", "hasNot", "hasnt", "ha", "exists", "Never", "NEVER", "never ", " never", "neve", "nevers", "Soft", "soft ", " soft", "sof", "softly", "any", "null", "pod", "\xff", "in\x00", "soft\x00", strings.Repeat("never", 100)}
}

func labelMistakes() [][]mistake {
	list := []mistake{}
	for _, key := range badLabelKeys() {
		list = append(list, mistake{key: key, value: textOf("x"), code: 14, at: "@." + key}, mistake{key: key, value: nullOf(), code: 11, at: "@." + key})
	}
	for _, key := range labelsReading().full().Keys {
		list = slices.Concat(list, wrongKinds(key, 4), wrongTexts(key, badLabelValues()...))
	}
	return [][]mistake{list}
}

func needMistakes() [][]mistake {
	values := append(wrongKinds("values", 5), mistake{key: "values", gone: true, code: 14, at: "@.values"}, wrongValue("values", listOf(), 14, "@.values"))
	for _, count := range []int{41, 42, 300} {
		values = append(values, wrongValue("values", textsIn(cycle(count, "a")...), 16, "@.values"), wrongValue("values", listIn(make([]int, count), intOf), 16, "@.values"))
	}
	for count := 5; count <= 40; count++ {
		values = append(values, wrongValue("values", textsIn(reversed(manyValues(count))...), 16, "@.values"))
	}
	for count := range 5 {
		for at := range count + 1 {
			place := fmt.Sprintf("@.values[%d]", at)
			for _, value := range badLabelValues() {
				values = append(values, wrongValue("values", textsIn(slices.Insert(cycle(count, "b", "a"), at, value)...), 14, place))
			}
			for _, m := range wrongKinds("", 4) {
				values = append(values, wrongValue("values", listOf(slices.Insert(textsIn(cycle(count, "b", "a")...).Kids, at, m.value)...), 11, place))
			}
		}
	}
	return [][]mistake{unknownKeys("", " key", "Key", "effect", "ke", "keys", "kez", "ops", "opt", "value", "valuez", "zz"), wrongKey("key"), slices.Concat(missing("op"), wrongKinds("op", 4), wrongTexts("op", append(wrongWords(), "never", "soft")...)), values}
}

// needsMistakes have no order here, because the list is not a map.
func needsMistakes() [][]mistake { return nil }

func taintMistakes() [][]mistake {
	return [][]mistake{unknownKeys("", " key", "Effect", "effec", "effects", "equal", "keys", "op", "valu", "values", "zz"), wrongKey("key"),
		append(wrongKinds("value", 4), wrongTexts("value", badLabelValues()...)...),
		slices.Concat(missing("effect"), wrongKinds("effect", 4), wrongTexts("effect", append(wrongWords(), "in", "has")...))}
}

func toleranceMistakes() [][]mistake {
	list := taintMistakes()
	emptyKey := badLabelKeys()[0]
	return [][]mistake{list[0], slices.DeleteFunc(list[1], func(m mistake) bool { return m.gone || m.value.Kind == 4 && m.value.Text == emptyKey }), list[2], list[3][1:]}
}

// inElements are the mistakes of an element, at each place of a list.
func inElements(key string, element impl.Tree, mistakes [][]mistake) []mistake {
	list := []mistake{}
	for i, m := range slices.Concat(mistakes...) {
		at := i % 4
		kids := withElement(cycle(at+1+i%3, element), at, m.in(element))
		list = append(list, wrongValue(key, listOf(kids...), m.code, strings.Replace(m.at, "@", fmt.Sprintf("@.%s[%d]", key, at), 1)))
	}
	for i, m := range wrongKinds("", 6) {
		list = append(list, wrongValue(key, listOf(withElement(cycle(5, element), i%5, m.value)...), 11, fmt.Sprintf("@.%s[%d]", key, i%5)))
	}
	return list
}

// tooMany are lists that are longer than 40, or have more than four different elements.
func tooMany[T any](key string, numbered func(count int) []T, treeOf func(T) impl.Tree) []mistake {
	list := []mistake{}
	for _, elements := range [][]T{cycle(41, numbered(1)...), cycle(41, numbered(4)...), cycle(300, numbered(4)...), numbered(5), reversed(numbered(5)), cycle(40, numbered(5)...), numbered(6), cycle(9, numbered(6)...), append(cycle(39, numbered(4)...), numbered(5)[4])} {
		list = append(list, wrongValue(key, listIn(elements, treeOf), 16, "@."+key))
	}
	return append(list, wrongValue(key, listIn(make([]int, 41), intOf), 16, "@."+key))
}

func wrongAmounts(key string) []mistake {
	list := append(missing(key), wrongKinds(key, 3, 4)...)
	for _, text := range []string{"", " ", "m", "01", "-1", "+1", "1.5", "1 ", "1K", "1ki", "five", "9223372036854775808x", strings.Repeat("1", 41)} {
		list = append(list, wrongValue(key, textOf(text), 14, "@."+key))
	}
	for _, text := range []string{"9223372036854776", "9223372036854775808m", "9223372036854775808", "9007199254740992Ki", "8388608Ti", strings.Repeat("1", 40)} {
		list = append(list, wrongValue(key, textOf(text), 15, "@."+key))
	}
	return append(list, wrongValue(key, intOf(-1), 14, "@."+key), wrongValue(key, intOf(math.MinInt), 14, "@."+key), wrongValue(key, intOf(math.MaxInt/1000+1), 15, "@."+key), wrongValue(key, intOf(math.MaxInt), 15, "@."+key))
}

func wrongWholes(key string, least int, most int) []mistake {
	list := wrongKinds(key, 3)
	for _, n := range outside(least, most) {
		list = append(list, wrongValue(key, intOf(n), 15, "@."+key))
	}
	return list
}

// commonMistakes are those of the fields that pods and hosts have.
func commonMistakes(kind string, unknown []mistake) [][]mistake {
	kinds := slices.Concat(missing("kind"), wrongKinds("kind", 4), wrongTexts("kind", "", " ", kind+" ", " "+kind, strings.ToUpper(kind), kind[:1], kind+"s", "Pod", "Host", "node", "\xff"))
	names := slices.Concat(missing("name"), wrongKinds("name", 4), wrongTexts("name", badNames()...))
	labels := wrongKinds("labels", 6)
	for _, m := range slices.Concat(labelMistakes()...) {
		labels = append(labels, wrongValue("labels", m.in(labelsReading().full()), m.code, strings.Replace(m.at, "@", "@.labels", 1)))
	}
	for _, tree := range strangers("app", textOf("web")) {
		if len(tree.Keys) != len(tree.Kids) {
			labels = append(labels, wrongValue("labels", tree, 11, "@.labels"))
		}
	}
	labels = append(labels, wrongValue("labels", labelTree(numbered(7)), 16, "@.labels"), wrongValue("labels", wideMap(300), 16, "@.labels"), wrongValue("labels", wideMap(6), 11, "@.labels.k000"))
	return [][]mistake{unknown, kinds, names, labels, wrongAmounts("cpu"), wrongAmounts("mem")}
}

func podMistakes() [][]mistake {
	common := commonMistakes("pod", unknownKeys("", "Cpu", "cp", "cpus", "label", "memory", "need", "on", "slots", "taints", "tolerance", "zz"))
	common[1] = append(common[1], wrongTexts("kind", "host")...)
	needs := slices.Concat(wrongKinds("needs", 5), tooMany("needs", numberedNeeds, needTree), inElements("needs", fullNeed(), needMistakes()))
	tolerances := slices.Concat(wrongKinds("tolerances", 5), tooMany("tolerances", numberedTolerances, toleranceTree), inElements("tolerances", fullTaint(), toleranceMistakes()))
	for _, tree := range []impl.Tree{fieldsOf("value", "x"), fieldsOf("key", "", "value", "x"), fieldsOf("key", "", "value", ""), fieldsOf("effect", "?", "value", "")} {
		tolerances = append(tolerances, wrongValue("tolerances", listOf(mapOf(""), tree), 14, "@.tolerances[1].value"))
	}
	return append(common, wrongWholes("rank", 0, 1000), needs, tolerances)
}

func hostMistakes() [][]mistake {
	common := commonMistakes("host", unknownKeys("", "Cpu", "cp", "cpus", "label", "memory", "needs", "on", "rank", "slot", "taint", "tolerances", "zz"))
	common[1] = append(common[1], wrongTexts("kind", "pod")...)
	taints := slices.Concat(wrongKinds("taints", 5), tooMany("taints", numberedTaints, taintTree), inElements("taints", fullTaint(), taintMistakes()))
	return append(common, wrongWholes("slots", 1, 20), taints)
}

// The following functions make valid trees.

func goodLabelTrees() []impl.Tree {
	trees := []impl.Tree{{Kind: 6}, mapOf(""), {Kind: 6, Flag: true, Num: 3, Text: "x"}}
	for _, list := range slices.Concat(goodLists(), unsortedLabels()) {
		trees = append(trees, labelTree(list))
	}
	return trees
}

func goodNeedTrees() []impl.Tree {
	trees := listIn(goodNeeds(), needTree).Kids
	for _, n := range slices.Concat(unsortedNeeds()...) {
		trees = append(trees, needTree(n))
	}
	return trees
}

func goodNeedsTrees() []impl.Tree {
	trees := []impl.Tree{{}, {Kind: 5}, listOf()}
	for _, list := range slices.Concat(goodSelectors(), unsortedNeeds()) {
		trees = append(trees, listIn(list, needTree))
	}
	return trees
}

func goodTaintTrees() []impl.Tree {
	return append(listIn(orderedTaints(), taintTree).Kids, fieldsOf("key", "a", "effect", "never", "value", ""), fullTaint())
}

func goodToleranceTrees() []impl.Tree {
	return append(listIn(orderedTolerances(), toleranceTree).Kids, mapOf(""), fieldsOf("key", ""), fieldsOf("key", "", "effect", "soft"), fullTaint())
}

// setObjects are objects with each field set to valid values, also to ones that are valid only when they are sorted.
func (k objectKind[T]) setObjects() []T {
	list := []T{k.tidy(), k.untidy()}
	for _, f := range k.fields() {
		for _, set := range slices.Concat(f.good, f.unsorted) {
			list = append(list, k.with(k.tidy(), set), k.with(k.untidy(), set))
		}
	}
	return list
}

func goodPodTrees() []impl.Tree { return listIn(podKind().setObjects(), podTree).Kids }

func goodHostTrees() []impl.Tree { return listIn(hostKind().setObjects(), hostTree).Kids }

func TestReadingsOfTheTestsAreAsNamed(t *testing.T) {
	for _, k := range readings() {
		trees := append(k.goodTrees(), k.fullTree())
		for _, tree := range trees {
			if _, fault := k.byWordsOf(tree); fault.Code != 0 {
				t.Errorf("%s is not valid for %s", brief(tree), k.named())
			}
		}
		for _, m := range slices.Concat(k.mistakesInOrder()...) {
			if _, fault := k.byWordsOf(m.in(k.fullTree())); fault != (impl.Fault{Code: m.code, Path: behind("", m.at)}) {
				t.Errorf("%s gives %s for %s, not the code %d at %.40q", brief(m.in(k.fullTree())), shownFault(fault), k.named(), m.code, m.at)
			}
		}
	}
}

// Each value is read as it was written, by the functions of the chapter and by the words of the document.
func TestReadingOfValidTrees(t *testing.T) {
	for _, k := range readings() {
		paths := k.pathsOf()
		for i, tree := range append(k.goodTrees(), k.fullTree()) {
			k.wantAsDocumented(t, tree, paths[i%len(paths)])
			k.wantAsDocumented(t, roomy(tree), "")
		}
	}
}

func TestReadingOfEachMistake(t *testing.T) {
	for _, k := range readings() {
		for _, m := range slices.Concat(k.mistakesInOrder()...) {
			k.wantNotRead(t, m.in(k.fullTree()), m.code, m.at)
		}
	}
}

// few are up to count elements of a list, from its beginning to its end.
func few[T any](list []T, count int) []T {
	chosen := []T{}
	for i := range min(count, len(list)) {
		chosen = append(chosen, list[i*len(list)/min(count, len(list))])
	}
	return chosen
}

// Of two mistakes in different fields the one that the chapter describes first is reported.
func TestReadingOfTwoMistakes(t *testing.T) {
	for _, k := range readings() {
		groups := k.mistakesInOrder()
		for i, group := range groups {
			for _, later := range groups[i+1:] {
				for _, first := range few(group, 40) {
					for _, second := range few(later, 40) {
						tree := second.in(first.in(k.fullTree()))
						k.wantNotRead(t, tree, first.code, first.at)
					}
				}
			}
		}
	}
}

// All fields are wrong, and are put right one by one in the order of the chapter.
func TestReadingOfFewerAndFewerMistakes(t *testing.T) {
	r := rand.New(rand.NewSource(19))
	for _, k := range readings() {
		groups := k.mistakesInOrder()
		for range 300 {
			chosen := []mistake{}
			for _, group := range groups {
				chosen = append(chosen, group[r.Intn(len(group))])
			}
			for i, first := range chosen {
				tree := k.fullTree()
				for _, m := range chosen[i:] {
					tree = m.in(tree)
				}
				k.wantNotRead(t, tree, first.code, first.at)
			}
		}
	}
}

func TestReadingOfTreesThatAreNoMaps(t *testing.T) {
	for _, k := range readings()[1:] {
		if k.named() == "NeedsIn" {
			continue
		}
		tree := k.fullTree()
		for _, kind := range treeKinds() {
			if tree.Kind = kind; kind != 6 {
				k.wantNotRead(t, tree, 11, "@")
				for _, other := range valuesOf(kind) {
					k.wantNotRead(t, other, 11, "@")
				}
			}
		}
		for _, other := range noMaps("key", textOf("a")) {
			k.wantNotRead(t, other, 11, "@")
		}
	}
}

// A map has no fields if the numbers of its keys and values differ, but its keys are still checked.
func TestReadingOfMapsWithoutFields(t *testing.T) {
	first := map[string]string{"NeedIn": "@.key", "TaintIn": "@.key", "PodIn": "kind", "HostIn": "kind"}
	for _, k := range readings() {
		at, needsFields := first[k.named()]
		if !needsFields && k.named() != "ToleranceIn" {
			continue
		}
		full := k.fullTree()
		trees := []impl.Tree{{Kind: 6}, mapOf(""), {Kind: 6, Kids: full.Kids}, {Kind: 6, Keys: full.Keys}, {Kind: 6, Keys: full.Keys, Kids: full.Kids[1:]}, {Kind: 6, Keys: full.Keys[1:], Kids: full.Kids}, {Kind: 6, Keys: full.Keys, Kids: append(slices.Clone(full.Kids), nullOf())}, {Kind: 6, Keys: full.Keys[:1]}}
		for _, tree := range trees {
			if needsFields {
				k.wantNotRead(t, tree, 12, at)
			} else {
				toleranceReading().wantRead(t, tree, impl.Tolerance{})
			}
			tree.Keys = append(slices.Clone(tree.Keys), "zz", "other")
			if len(tree.Keys) != len(tree.Kids) {
				k.wantNotRead(t, tree, 13, "@.zz")
			}
		}
	}
}

// Of unknown keys the first one counts, wherever it stands among the others.
func TestReadingOfSeveralUnknownKeys(t *testing.T) {
	for _, k := range readings()[3:] {
		full := k.fullTree()
		for at := range len(full.Keys) + 1 {
			for later := at; later <= len(full.Keys); later++ {
				for _, keys := range [][]string{{"zz", "a"}, {"a", "zz"}, {"", "x"}, {"same", "same"}} {
					tree := full
					tree.Keys = slices.Insert(slices.Clone(full.Keys), later, keys[1])
					tree.Keys = slices.Insert(tree.Keys, at, keys[0])
					tree.Kids = slices.Concat(full.Kids, []impl.Tree{nullOf(), nullOf()})
					k.wantNotRead(t, tree, 13, "@."+keys[0])
				}
			}
		}
	}
}

// Keys may stand in any order, and of a key that stands there twice the first value counts.
func TestReadingOfKeysInEachOrder(t *testing.T) {
	for _, k := range readings()[1:] {
		full := k.fullTree()
		for i, order := range orders(full.Keys[:min(len(full.Keys), 5)]) {
			tree := full
			tree.Keys = slices.Concat(order, full.Keys[len(order):])
			tree.Kids = slices.Clone(full.Kids)
			for j, key := range tree.Keys {
				tree.Kids[j] = full.Kids[slices.Index(full.Keys, key)]
			}
			k.wantAsDocumented(t, tree, "p")
			if k.named() != "NeedsIn" {
				tree.Keys = append(tree.Keys, order[i%len(order)])
				tree.Kids = append(tree.Kids, nullOf())
				k.wantAsDocumented(t, tree, "p")
				slices.Reverse(tree.Keys)
				slices.Reverse(tree.Kids)
				k.wantNotRead(t, tree, 11, "@."+order[i%len(order)])
			}
		}
	}
}

func TestLabelsInOfEachKind(t *testing.T) {
	k := labelsReading()
	for _, tree := range noMaps("a", textOf("x")) {
		k.wantNotRead(t, tree, 11, "@")
	}
	k.wantRead(t, impl.Tree{Kind: 6}, nil)
	k.wantRead(t, mapOf(""), nil)
	k.wantRead(t, impl.Tree{Kind: 6, Flag: true, Num: 1, Text: "x", Keys: []string{"a"}, Kids: []impl.Tree{textOf("y")}}, labelsOf("a", "y"))
}

func TestLabelsInOfOtherNumbersOfValues(t *testing.T) {
	for keys := range 10 {
		for values := range 10 {
			tree := labelTree(numbered(9))
			tree.Keys, tree.Kids = tree.Keys[:keys], tree.Kids[:values]
			bad := impl.Tree{Kind: 6, Keys: cycle(keys, "-"), Kids: cycle(values, nullOf())}
			switch {
			case keys != values:
				labelsReading().wantNotRead(t, tree, 11, "@")
				labelsReading().wantNotRead(t, bad, 11, "@")
			case keys > 6:
				labelsReading().wantNotRead(t, tree, 16, "@")
				labelsReading().wantNotRead(t, bad, 16, "@")
			case keys > 0:
				labelsReading().wantRead(t, tree, numbered(keys))
				labelsReading().wantNotRead(t, bad, 11, "@.-")
			}
		}
	}
}

func TestLabelsInKeepsTheOrderOfTheKeys(t *testing.T) {
	for _, list := range slices.Concat(goodLists(), orders(numbered(5)), orders(labelsOf("a", "1", "b", "2", "a", "3", "a", "1"))) {
		labelsReading().wantRead(t, labelTree(list), list)
		labelsReading().wantRead(t, labelTree(reversed(list)), reversed(list))
	}
	labelsReading().wantRead(t, labelTree(cycle(6, numbered(1)...)), cycle(6, numbered(1)...))
}

func TestLabelsInOfManyKeys(t *testing.T) {
	for _, count := range []int{7, 8, 40, 300, 5000} {
		labelsReading().wantNotRead(t, wideMap(count), 16, "@")
		labelsReading().wantNotRead(t, labelTree(cycle(count, numbered(6)...)), 16, "@")
		labelsReading().wantNotRead(t, labelTree(cycle(count, labelsOf("", "")...)), 16, "@")
	}
}

func TestLabelsInOfEachWord(t *testing.T) {
	k := labelsReading()
	words := slices.Concat(textsOf(3, "a", "Z", "0", "-", ".", "_", "/", " "), goodKeys(), taintValues(), badLabelKeys(), badLabelValues(), goodStrings(), badStrings())
	for _, size := range []int{19, 20, 21, 29, 30, 31, 32} {
		words = append(words, strings.Repeat("w", size), "w"+strings.Repeat(".", size-2)+"w", strings.Repeat("w", size-1)+"-")
	}
	for b := range 256 {
		words = append(words, string([]byte{byte(b)}), string([]byte{'a', byte(b), 'a'}))
	}
	for _, word := range words {
		keys, values := impl.Tree{Kind: 6, Keys: []string{"a", word}, Kids: []impl.Tree{textOf("x"), textOf("y")}}, fieldsOf("a", "x", "b", word)
		if labelKeyWords.MatchString(word) {
			k.wantRead(t, keys, labelsOf("a", "x", word, "y"))
		} else {
			k.wantNotRead(t, keys, 14, "@."+word)
		}
		if labelValueWords.MatchString(word) {
			k.wantRead(t, values, labelsOf("a", "x", "b", word))
		} else {
			k.wantNotRead(t, values, 14, "@.b")
		}
	}
}

func TestLabelsInOfValuesOfEachKind(t *testing.T) {
	for count := 1; count <= 6; count++ {
		for at := range count {
			tree := labelTree(numbered(count))
			for _, m := range wrongKinds(tree.Keys[at], 4) {
				labelsReading().wantNotRead(t, m.in(tree), 11, m.at)
			}
			value := valuesOf(4)[1]
			labelsReading().wantRead(t, with(tree, tree.Keys[at], value), withLabel(numbered(count), at, impl.Label{Key: tree.Keys[at], Value: value.Text}))
		}
	}
}

// Each two labels are wrong in each way: the first of them counts, and for one label the kind of its value before the words.
func TestLabelsInOfTwoMistakes(t *testing.T) {
	wrong := func(tree impl.Tree, at int, way int) int {
		switch way {
		case 0:
			tree.Kids[at] = nullOf()
			return 11
		case 1:
			tree.Kids[at] = textOf("a b")
			return 14
		case 2:
			tree.Keys[at] = strings.Repeat("-", at+1)
			return 14
		}
		tree.Keys[at], tree.Kids[at] = strings.Repeat("/", at+1), intOf(1)
		return 11
	}
	for count := 1; count <= 6; count++ {
		for at := range count {
			for later := at; later < count; later++ {
				for ways := range 16 {
					tree := labelTree(numbered(count))
					code := wrong(tree, later, ways%4)
					if later > at {
						code = wrong(tree, at, ways/4)
					}
					labelsReading().wantNotRead(t, tree, code, "@."+tree.Keys[at])
				}
			}
		}
	}
}

func TestNeedInOfKnownTrees(t *testing.T) {
	k := needReading()
	k.wantRead(t, with(fieldsOf("key", "zone", "op", "in"), "values", textsIn("b", "a", "b")), needOf("zone", 1, "a", "b"))
	k.wantRead(t, with(fieldsOf("key", "zone", "op", "notin"), "values", textsIn("")), needOf("zone", 2, ""))
	k.wantRead(t, fieldsOf("key", "gpu", "op", "has"), needOf("gpu", 3))
	k.wantRead(t, with(fieldsOf("key", "gpu", "op", "hasnot"), "values", listOf()), needOf("gpu", 4))
	k.wantNotRead(t, fieldsOf("key", "zone", "op", "in"), 14, "@.values")
	k.wantNotRead(t, mapOf(""), 12, "@.key")
	k.wantNotRead(t, fieldsOf("key", "a"), 12, "@.op")
	k.wantNotRead(t, fieldsOf("op", "has"), 12, "@.key")
	k.wantNotRead(t, fieldsOf("op", "?"), 12, "@.key")
}

func TestNeedInOfEachKey(t *testing.T) {
	for _, key := range slices.Concat(goodKeys(), textsOf(3, "a", "Z", "0", "-", ".", "_", "/", " "), goodStrings(), badStrings()) {
		tree := fieldsOf("key", key, "op", "has")
		if labelKeyWords.MatchString(key) {
			needReading().wantRead(t, tree, needOf(key, 3))
		} else {
			needReading().wantNotRead(t, tree, 14, "@.key")
		}
	}
}

func TestNeedInOfEachWord(t *testing.T) {
	texts := slices.Concat(textsOf(3, "in", "not", "has", "n", "o", "t", " ", "I"), wrongWords(), goodStrings(), badStrings(), []string{"in", "notin", "has", "hasnot", "never", "soft"})
	for _, text := range texts {
		bare := fieldsOf("key", "a", "op", text)
		empty, some := with(bare, "values", listOf()), with(bare, "values", textsIn("x"))
		many := with(bare, "values", textsIn("5", "4", "3", "2", "1"))
		switch op := opsOfWords()[text]; op {
		case 1, 2:
			needReading().wantRead(t, some, needOf("a", op, "x"))
			needReading().wantNotRead(t, bare, 14, "@.values")
			needReading().wantNotRead(t, empty, 14, "@.values")
			needReading().wantNotRead(t, many, 16, "@.values")
		case 3, 4:
			needReading().wantRead(t, bare, needOf("a", op))
			needReading().wantRead(t, empty, needOf("a", op))
			needReading().wantNotRead(t, some, 14, "@.values")
			needReading().wantNotRead(t, many, 14, "@.values")
		default:
			for _, tree := range []impl.Tree{bare, empty, some, many} {
				needReading().wantNotRead(t, tree, 14, "@.op")
			}
		}
	}
}

func TestNeedInOfEachNumberOfValues(t *testing.T) {
	for word, op := range opsOfWords() {
		for count := range 45 {
			for different := 1; different <= max(count, 1); different++ {
				values := cycle(count, reversed(manyValues(different))...)
				tree := with(fieldsOf("key", "a", "op", word), "values", textsIn(values...))
				switch {
				case count > 40:
					needReading().wantNotRead(t, tree, 16, "@.values")
				case op <= 2 && count == 0 || op > 2 && count > 0:
					needReading().wantNotRead(t, tree, 14, "@.values")
				case different > 4:
					needReading().wantNotRead(t, tree, 16, "@.values")
				case op > 2:
					needReading().wantRead(t, tree, needOf("a", op))
				default:
					needReading().wantRead(t, tree, needOf("a", op, manyValues(different)...))
				}
			}
		}
	}
}

func TestNeedInSortsTheValues(t *testing.T) {
	for _, values := range goodValues() {
		for _, order := range orders(values) {
			for op := 1; op <= 2; op++ {
				needReading().wantRead(t, needTree(needOf("a", op, order...)), needOf("a", op, values...))
				needReading().wantRead(t, needTree(needOf("a", op, slices.Concat(order, values)...)), needOf("a", op, values...))
				needReading().wantRead(t, needTree(needOf("a", op, cycle(40, order...)...)), needOf("a", op, values...))
			}
		}
	}
	for _, values := range shortListsOf(5, "", "a", "b", "B") {
		needReading().wantAsDocumented(t, needTree(needOf("a", 1+len(values)%2, values...)), "p")
	}
}

// Of two wrong values the first one counts, also where there are too many values or ones for another operator.
func TestNeedInOfTwoWrongValues(t *testing.T) {
	wrong := map[int][]impl.Tree{11: {nullOf(), intOf(1), listOf(), {Kind: 7, Text: "a"}, {Kind: 3, Text: "a b"}}, 14: {textOf("-"), textOf("a b"), textOf(strings.Repeat("a", 21))}}
	for word := range opsOfWords() {
		for _, count := range []int{1, 2, 5, 40} {
			for at := range min(count, 6) {
				for later := at; later < min(count, 7); later++ {
					for code, values := range wrong {
						for i, value := range values {
							list := textsIn(manyValues(count)...)
							list.Kids[later] = wrong[11+3*(i%2)][i%3]
							list.Kids[at] = value
							needReading().wantNotRead(t, with(fieldsOf("key", "a", "op", word), "values", list), code, fmt.Sprintf("@.values[%d]", at))
						}
					}
				}
			}
		}
	}
}

func TestNeedInOfValuesWithUnusedFields(t *testing.T) {
	value := valuesOf(4)[1]
	needReading().wantRead(t, with(fieldsOf("key", "a", "op", "in"), "values", listOf(value, textOf("4"))), needOf("a", 1, "4", value.Text))
	for _, kind := range []int{4, 5} {
		tree := fullNeed()
		for i := range tree.Kids {
			if tree.Kids[i].Kind == kind {
				tree.Kids[i].Flag, tree.Kids[i].Num, tree.Kids[i].Keys = true, 7, []string{"key"}
			}
		}
		tree.Flag, tree.Num, tree.Text = true, 7, "x"
		needReading().wantRead(t, tree, needOf("zone", 1, "a", "c", "d"))
	}
}

func wantNeedsIn(t *testing.T, list []impl.Need, want []impl.Need) {
	t.Helper()
	needsReading().wantRead(t, listIn(list, needTree), want)
}

func TestNeedsInOfNoNeeds(t *testing.T) {
	for _, path := range fieldPaths() {
		for _, list := range [][]impl.Tree{nil, {}, make([]impl.Tree, 0, 3), wideList(3).Kids[:0]} {
			if got, fault := impl.NeedsIn(list, path); len(got) > 0 || fault != (impl.Fault{}) {
				t.Errorf("NeedsIn of no needs = %s, %s", shown(got...), shownFault(fault))
			}
		}
	}
}

func TestNeedsInSortsTheNeeds(t *testing.T) {
	for _, list := range goodSelectors() {
		for _, order := range orders(list) {
			wantNeedsIn(t, order, list)
			wantNeedsIn(t, slices.Concat(order, list, order), list)
			if len(list) > 0 {
				wantNeedsIn(t, cycle(40, order...), list)
				needsReading().wantNotRead(t, listIn(cycle(41, order...), needTree), 16, "@")
			}
		}
	}
	needsReading().wantNotRead(t, listIn(cycle(3000, numberedNeeds(4)...), needTree), 16, "@")
	// Needs become the same only when their values are sorted.
	wantNeedsIn(t, []impl.Need{needOf("b", 1, "y", "x", "y"), needOf("a", 2, "z", "y", "x"), needOf("b", 1, "x", "y")}, []impl.Need{needOf("a", 2, "x", "y", "z"), needOf("b", 1, "x", "y")})
	for count := 5; count <= 9; count++ {
		needsReading().wantNotRead(t, listIn(numberedNeeds(count), needTree), 16, "@")
		needsReading().wantNotRead(t, listIn(cycle(40, numberedNeeds(count)...), needTree), 16, "@")
	}
}

// A faulty need stands in each place, of lists of valid length and of others.
func TestNeedsInOfFaultyNeeds(t *testing.T) {
	mistakes := few(slices.Concat(needMistakes()...), 200)
	for i, m := range mistakes {
		for _, count := range []int{1, 2, 4, 5, 9, 41, 60} {
			for _, at := range []int{0, 1, count / 2, count - 1} {
				list := listIn(cycle(count, numberedNeeds(9)...), needTree)
				at = min(at, count-1)
				list.Kids[count-1] = mistakes[(i+7)%len(mistakes)].in(fullNeed())
				list.Kids[at] = m.in(fullNeed())
				needsReading().wantNotRead(t, list, m.code, strings.Replace(m.at, "@", fmt.Sprintf("@[%d]", at), 1))
			}
		}
	}
	for at := range 6 {
		for _, m := range wrongKinds("", 6) {
			list := listIn(numberedNeeds(6), needTree)
			list.Kids[at], list.Kids[5] = m.value, nullOf()
			needsReading().wantNotRead(t, list, 11, fmt.Sprintf("@[%d]", at))
		}
	}
	list := listIn(cycle(3000, numberedNeeds(4)...), needTree)
	list.Kids[2999] = mapOf("")
	needsReading().wantNotRead(t, list, 12, "@[2999].key")
}

func TestTaintInOfKnownTrees(t *testing.T) {
	k := taintReading()
	k.wantRead(t, fieldsOf("key", "gpu", "effect", "never"), taintOf("gpu", "", 1))
	k.wantRead(t, fieldsOf("key", "gpu", "effect", "soft", "value", "a1"), taintOf("gpu", "a1", 2))
	k.wantRead(t, fieldsOf("key", "gpu", "effect", "soft", "value", ""), taintOf("gpu", "", 2))
	k.wantNotRead(t, fieldsOf("effect", "soft", "value", "a1"), 12, "@.key")
	k.wantNotRead(t, fieldsOf("key", "", "effect", "soft"), 14, "@.key")
	k.wantNotRead(t, fieldsOf("key", "gpu"), 12, "@.effect")
	k.wantNotRead(t, fieldsOf("key", "gpu", "value", "-"), 14, "@.value")
	k.wantNotRead(t, fieldsOf("key", "gpu", "effect", ""), 14, "@.effect")
}

func TestTaintInReadsAllTaints(t *testing.T) {
	for _, x := range slices.Concat(orderedTaints(), numberedTaints(40)) {
		taintReading().wantRead(t, taintTree(x), x)
		taintReading().wantRead(t, fieldsOf("key", x.Key, "effect", wordOf(x.Effect, effectsOfWords()), "value", x.Value), x)
	}
	for _, x := range badTaints() {
		taintReading().wantAsDocumented(t, taintTree(x), "p")
	}
}

func TestToleranceInOfKnownTrees(t *testing.T) {
	k := toleranceReading()
	k.wantRead(t, mapOf(""), impl.Tolerance{})
	k.wantRead(t, fieldsOf("key", ""), impl.Tolerance{})
	k.wantRead(t, fieldsOf("key", "gpu"), withKey("gpu", 0))
	k.wantRead(t, fieldsOf("effect", "never"), withKey("", 1))
	k.wantRead(t, fieldsOf("key", "gpu", "effect", "soft"), withKey("gpu", 2))
	k.wantRead(t, fieldsOf("key", "gpu", "value", "a1"), withPair("gpu", "a1", 0))
	k.wantRead(t, fieldsOf("key", "gpu", "value", "", "effect", "never"), withPair("gpu", "", 1))
	k.wantNotRead(t, fieldsOf("key", "gpu", "effect", ""), 14, "@.effect")
	for _, value := range taintValues() {
		k.wantNotRead(t, fieldsOf("value", value), 14, "@.value")
		k.wantNotRead(t, fieldsOf("key", "", "value", value, "effect", "soft"), 14, "@.value")
		k.wantNotRead(t, fieldsOf("value", value, "effect", "?"), 14, "@.value")
	}
	for _, m := range append(wrongKinds("value", 4), wrongTexts("value", badLabelValues()...)...) {
		k.wantNotRead(t, m.in(mapOf("")), m.code, "@.value")
		k.wantNotRead(t, m.in(fieldsOf("key", "", "effect", "?")), m.code, "@.value")
	}
}

func TestToleranceInReadsAllTolerations(t *testing.T) {
	for _, x := range slices.Concat(orderedTolerances(), numberedTolerances(40)) {
		toleranceReading().wantRead(t, toleranceTree(x), x)
		toleranceReading().wantRead(t, with(toleranceTree(x), "key", textOf(x.Key)), x)
	}
	for _, x := range badTolerances() {
		toleranceReading().wantAsDocumented(t, toleranceTree(x), "p")
	}
}

func TestEffectsOfEachWord(t *testing.T) {
	for _, text := range slices.Concat(textsOf(3, "never", "soft", "n", "s", " ", "N"), wrongWords(), goodStrings(), badStrings(), []string{"never", "soft", "in", "has"}) {
		tree := fieldsOf("key", "a", "effect", text)
		effect, known := effectsOfWords()[text]
		if known {
			taintReading().wantRead(t, tree, taintOf("a", "", effect))
			toleranceReading().wantRead(t, tree, withKey("a", effect))
		} else {
			taintReading().wantNotRead(t, tree, 14, "@.effect")
			toleranceReading().wantNotRead(t, tree, 14, "@.effect")
		}
	}
}

func TestPodInOfKnownTrees(t *testing.T) {
	k := podReading()
	least := fieldsOf("kind", "pod", "name", "a", "cpu", "0", "mem", "0")
	k.wantRead(t, least, impl.Pod{Name: "a"})
	k.wantRead(t, podTree(untidyPod()), withLabelsOf(tidyPod(), untidyPod()))
	k.wantRead(t, podTree(tidyPod()), tidyPod())
	k.wantRead(t, with(with(least, "cpu", intOf(2)), "mem", textOf("1Ki")), impl.Pod{Name: "a", Cpu: 2000, Mem: 1024000})
	k.wantRead(t, with(with(with(with(least, "labels", mapOf("")), "needs", listOf()), "tolerances", listOf()), "rank", intOf(0)), impl.Pod{Name: "a"})
	k.wantNotRead(t, mapOf(""), 12, "kind")
	k.wantNotRead(t, without(least, "name"), 12, "name")
	k.wantNotRead(t, without(least, "cpu"), 12, "cpu")
	k.wantNotRead(t, without(least, "mem"), 12, "mem")
	k.wantNotRead(t, with(least, "kind", textOf("host")), 14, "kind")
	k.wantNotRead(t, hostTree(tidyHost()), 13, "slots")
	k.wantNotRead(t, with(podTree(tidyPod()), "slots", intOf(1)), 13, "slots")
	k.wantNotRead(t, with(podTree(tidyPod()), "taints", listOf()), 13, "taints")
}

func withLabelsOf(p impl.Pod, other impl.Pod) impl.Pod {
	p.Labels = other.Labels
	return p
}

func TestHostInOfKnownTrees(t *testing.T) {
	k := hostReading()
	least, want := fieldsOf("kind", "host", "name", "a", "cpu", "0", "mem", "0"), untidyHost()
	want.Taints = tidyHost().Taints
	k.wantRead(t, least, impl.Host{Name: "a", Slots: 20})
	k.wantRead(t, hostTree(untidyHost()), want)
	k.wantRead(t, hostTree(tidyHost()), tidyHost())
	k.wantRead(t, with(with(with(least, "labels", mapOf("")), "taints", listOf()), "slots", intOf(1)), impl.Host{Name: "a", Slots: 1})
	k.wantNotRead(t, mapOf(""), 12, "kind")
	k.wantNotRead(t, without(least, "name"), 12, "name")
	k.wantNotRead(t, without(least, "cpu"), 12, "cpu")
	k.wantNotRead(t, without(least, "mem"), 12, "mem")
	k.wantNotRead(t, with(least, "kind", textOf("pod")), 14, "kind")
	k.wantNotRead(t, podTree(tidyPod()), 13, "needs")
	k.wantNotRead(t, with(hostTree(tidyHost()), "rank", intOf(1)), 13, "rank")
	k.wantNotRead(t, with(hostTree(tidyHost()), "needs", listOf()), 13, "needs")
	k.wantNotRead(t, with(hostTree(tidyHost()), "tolerances", listOf()), 13, "tolerances")
}

// Each pod and each host is read as it was written: its labels in their order, its other lists sorted.
func TestPodInReadsAllPods(t *testing.T) {
	for _, p := range podKind().setObjects() {
		normal, ok := podKind().normalWords(p)
		if !ok {
			t.Fatalf("%s has no normal form", told(p))
		}
		podReading().wantRead(t, podTree(p), withLabelsOf(normal, p))
	}
}

func TestHostInReadsAllHosts(t *testing.T) {
	for _, h := range hostKind().setObjects() {
		normal, ok := hostKind().normalWords(h)
		if !ok {
			t.Fatalf("%s has no normal form", told(h))
		}
		normal.Labels = h.Labels
		hostReading().wantRead(t, hostTree(h), normal)
	}
}

func TestPodInOfPodsThatAreNotValid(t *testing.T) {
	for _, f := range podFields() {
		faults := 0
		for _, set := range f.bad {
			tree := podTree(podKind().with(tidyPod(), set))
			podReading().wantAsDocumented(t, tree, "")
			if _, fault := podInByWords(tree, ""); fault.Code != 0 {
				faults++
			}
		}
		if faults < 2*len(f.bad)/3 {
			t.Errorf("only %d of %d values of %s are not read", faults, len(f.bad), f.name)
		}
	}
}

func TestHostInOfHostsThatAreNotValid(t *testing.T) {
	for _, f := range hostFields() {
		faults := 0
		for _, set := range f.bad {
			tree := hostTree(hostKind().with(tidyHost(), set))
			hostReading().wantAsDocumented(t, tree, "")
			if _, fault := hostInByWords(tree, ""); fault.Code != 0 {
				faults++
			}
		}
		if faults < 2*len(f.bad)/3 {
			t.Errorf("only %d of %d values of %s are not read", faults, len(f.bad), f.name)
		}
	}
}

func TestPodsAndHostsOfAllAmounts(t *testing.T) {
	values := []impl.Tree{}
	for _, amount := range edgeAmounts() {
		values = append(values, textOf(impl.AmountText(amount)), textOf(strconv.Itoa(amount)+"m"), intOf(amount/1000))
	}
	for _, n := range edgeInts() {
		values = append(values, intOf(n), textOf(strconv.Itoa(n)))
	}
	for _, c := range suffixCases() {
		values = append(values, textOf(strconv.Itoa(c.most)+c.suffix), textOf("0"+c.suffix), textOf("1"+c.suffix))
	}
	for i, value := range values {
		for _, key := range []string{"cpu", "mem"} {
			podReading().wantAsDocumented(t, with(podTree(tidyPod()), key, value), "")
			hostReading().wantAsDocumented(t, with(hostTree(tidyHost()), key, value), "")
		}
		other := values[(7*i+1)%len(values)]
		podReading().wantAsDocumented(t, with(with(podTree(tidyPod()), "mem", value), "cpu", other), "")
		hostReading().wantAsDocumented(t, with(with(hostTree(tidyHost()), "mem", value), "cpu", other), "")
	}
}

func TestRanksAndSlots(t *testing.T) {
	for _, n := range slices.Concat(edgeInts(), outside(0, 1000), outside(1, 20)) {
		p, h := tidyPod(), tidyHost()
		p.Rank, h.Slots = n, n
		if n >= 0 && n <= 1000 {
			podReading().wantRead(t, podTree(p), p)
		} else {
			podReading().wantNotRead(t, podTree(p), 15, "rank")
		}
		if n >= 1 && n <= 20 {
			hostReading().wantRead(t, hostTree(h), h)
		} else {
			hostReading().wantNotRead(t, hostTree(h), 15, "slots")
		}
	}
	p, h := tidyPod(), tidyHost()
	p.Rank, h.Slots = 0, 20
	podReading().wantRead(t, without(podTree(p), "rank"), p)
	hostReading().wantRead(t, without(hostTree(h), "slots"), h)
}

// wantListRead reads a list as the field of a pod or a host.
func wantListRead[T, V any](t *testing.T, k reading[T], key string, list []V, treeOf func(V) impl.Tree, want T) {
	t.Helper()
	k.wantRead(t, with(k.full(), key, listIn(list, treeOf)), want)
}

func TestListsOfPodsAndHosts(t *testing.T) {
	for count := 1; count <= 4; count++ {
		for length := count; length <= 43; length++ {
			p, h := withLabelsOf(tidyPod(), untidyPod()), untidyHost()
			p.Needs = numberedNeeds(count)
			h.Taints = numberedTaints(count)
			needs, tolerances, taints := cycle(length, reversed(p.Needs)...), cycle(length, reversed(numberedTolerances(count))...), cycle(length, reversed(h.Taints)...)
			if length > 40 {
				podReading().wantNotRead(t, with(podReading().full(), "needs", listIn(needs, needTree)), 16, "needs")
				podReading().wantNotRead(t, with(podReading().full(), "tolerances", listIn(tolerances, toleranceTree)), 16, "tolerances")
				hostReading().wantNotRead(t, with(hostReading().full(), "taints", listIn(taints, taintTree)), 16, "taints")
				continue
			}
			wantListRead(t, podReading(), "needs", needs, needTree, p)
			p.Needs, p.Tolerances = tidyPod().Needs, numberedTolerances(count)
			wantListRead(t, podReading(), "tolerances", tolerances, toleranceTree, p)
			wantListRead(t, hostReading(), "taints", taints, taintTree, h)
		}
	}
}

// Of two faulty elements of a list the first one counts, also before the number of the elements.
func TestListsOfTwoFaultyElements(t *testing.T) {
	for _, c := range []struct {
		reading  anyReading
		key      string
		elements []impl.Tree
		mistakes [][]mistake
	}{
		{podReading(), "needs", listIn(numberedNeeds(9), needTree).Kids, needMistakes()},
		{podReading(), "tolerances", listIn(numberedTolerances(9), toleranceTree).Kids, toleranceMistakes()},
		{hostReading(), "taints", listIn(numberedTaints(9), taintTree).Kids, taintMistakes()},
	} {
		full := fullTaint()
		if c.key == "needs" {
			full = fullNeed()
		}
		mistakes := few(slices.Concat(c.mistakes...), 60)
		for i, first := range mistakes {
			second := mistakes[(i+11)%len(mistakes)]
			for _, count := range []int{2, 4, 9, 40, 41} {
				for at := range min(count-1, 5) {
					list := listOf(cycle(count, c.elements...)...)
					list.Kids[count-1], list.Kids[at] = second.in(full), first.in(full)
					tree := with(c.reading.fullTree(), c.key, list)
					if count > 40 {
						c.reading.wantNotRead(t, tree, 16, c.key)
					} else {
						c.reading.wantNotRead(t, tree, first.code, strings.Replace(first.at, "@", fmt.Sprintf("%s[%d]", c.key, at), 1))
					}
				}
			}
		}
	}
}

// A manifest that is written as text is read as it was written, from either format.
func TestManifestsOfTexts(t *testing.T) {
	text := "# a pod\nname: web-1\nkind: pod\ncpu: 500m\nmem: 3\nrank: 7\nlabels:\n  tier: \"9\"\n  rev: \"\"\n  app: web\nneeds:\n  - key: zone\n    op: notin\n    values:\n      - e\n      - d\n  - key: gpu\n    op: has\n    values: []\n  - op: in\n    key: zone\n    values:\n      - c\n      - a\n      - b\n      - a\ntolerances:\n  - key: gpu\n    effect: never\n    value: a\n  - key: gpu\n  - effect: soft\n"
	for name, read := range map[string]func(string) (impl.Tree, impl.Fault){"ReadIndented": impl.ReadIndented, "Crossed": func(text string) (impl.Tree, impl.Fault) {
		crossed, _ := impl.Crossed(text)
		return impl.ReadBraced(crossed)
	}} {
		tree, fault := read(text)
		if fault != (impl.Fault{}) {
			t.Fatalf("%s gives %s", name, shownFault(fault))
		}
		podReading().wantRead(t, tree, tidyPod())
	}
	tree, _ := impl.ReadBraced(`{"kind":"host","name":"node-1","cpu":4,"mem":"8","slots":12,"labels":{"tier":"9","app":"web","rev":""},"taints":[{"key":"old","value":"x","effect":"never"},{"key":"gpu","effect":"soft"},{"key":"gpu","value":"a","effect":"never"}]}`)
	hostReading().wantRead(t, tree, tidyHost())
}

// The trees are parsed from their text in both formats before they are read.
func TestManifestsOfParsedTrees(t *testing.T) {
	read := 0
	for _, k := range []anyReading{podReading(), hostReading()} {
		trees := few(k.goodTrees(), 1500)
		for _, m := range few(slices.Concat(k.mistakesInOrder()...), 500) {
			trees = append(trees, m.in(k.fullTree()))
		}
		for _, tree := range trees {
			if !validTree(tree) {
				continue
			}
			read++
			for _, text := range []string{impl.BracedText(tree), impl.IndentedText(tree)} {
				parsed, fault := impl.ReadBraced(text)
				if fault != (impl.Fault{}) {
					parsed, _ = impl.ReadIndented(text)
				}
				want, _ := k.byWordsOf(tree)
				if got, _ := k.byWordsOf(parsed); !reflect.DeepEqual(got, want) {
					t.Errorf("%s was parsed as %s", brief(tree), brief(parsed))
				}
				k.wantAsDocumented(t, parsed, "")
			}
		}
	}
	if read < 1000 {
		t.Errorf("only %d trees are valid", read)
	}
}

// randomChange changes a tree in one place, mostly in a field of it.
func randomChange(r *rand.Rand, tree impl.Tree, mistakes []mistake, others []impl.Tree, bad []string) impl.Tree {
	other := others[r.Intn(len(others))]
	at := -1
	if len(other.Keys) == len(other.Kids) && len(other.Keys) > 0 {
		at = r.Intn(len(other.Keys))
	}
	switch way := r.Intn(8); {
	case way < 4 && at >= 0:
		return with(tree, other.Keys[at], other.Kids[at])
	case way == 4 && len(mistakes) > 0:
		return mistakes[r.Intn(len(mistakes))].in(tree)
	case way == 5 && len(tree.Keys) > 0:
		return without(tree, tree.Keys[r.Intn(len(tree.Keys))])
	case way == 6:
		changed := roomy(tree)
		spoil(r, &changed, bad)
		return changed
	}
	return tree
}

func TestReadingOfRandomTrees(t *testing.T) {
	r := rand.New(rand.NewSource(190))
	bad := badStrings()
	for _, k := range readings() {
		mistakes, good, paths := slices.Concat(k.mistakesInOrder()...), k.goodTrees(), k.pathsOf()
		codes := map[int]int{}
		for range 12000 {
			tree := good[r.Intn(len(good))]
			for range r.Intn(4) {
				tree = randomChange(r, tree, mistakes, good, bad)
			}
			k.wantAsDocumented(t, tree, paths[r.Intn(len(paths))])
			_, fault := k.byWordsOf(tree)
			codes[fault.Code]++
		}
		if codes[0] < 1000 || codes[11] < 100 {
			t.Errorf("the codes of random trees for %s are %v", k.named(), codes)
		}
	}
}

func TestReadingOfAllTrees(t *testing.T) {
	for _, tree := range slices.Concat(allTrees(), fieldValues()) {
		for _, k := range readings() {
			k.wantAsDocumented(t, tree, "p")
			k.wantAsDocumented(t, inMaps(1, tree), "")
			full := k.fullTree()
			for _, key := range full.Keys {
				k.wantAsDocumented(t, with(full, key, tree), "p")
			}
		}
	}
}

// Only the fields themselves are looked at, so that also what contains itself is read, or has its fault.
func TestReadingOfTreesThatContainThemselves(t *testing.T) {
	list, m, text := listOf(nullOf()), mapOf("app", nullOf()), impl.Tree{Kind: 4, Text: "a", Kids: []impl.Tree{nullOf()}}
	list.Kids[0], m.Kids[0], text.Kids[0] = list, m, text
	for _, k := range readings() {
		full := k.fullTree()
		for _, key := range full.Keys {
			k.wantFaultOf(t, with(full, key, m), faultyAt(key, "labels", ".app"))
			k.wantFaultOf(t, with(full, key, list), faultyAt(key, "values needs tolerances taints", "[0]"))
		}
	}
	labelsReading().wantFaultOf(t, m, "@.app")
	needsReading().wantFaultOf(t, list, "@[0]")
	values := listOf(text, text)
	tree := with(with(fieldsOf("op", "in"), "key", text), "values", values)
	for _, path := range fieldPaths() {
		n, fault := impl.NeedIn(tree, path)
		needs, fault2 := impl.NeedsIn([]impl.Tree{tree, tree}, path)
		x, fault3 := impl.TaintIn(with(with(fieldsOf("effect", "soft"), "key", text), "value", text), path)
		labels, fault4 := impl.LabelsIn(mapOf("b", text), path)
		if !sameNeedByWords(n, needOf("a", 1, "a")) || !sameNeedsByWords(needs, []impl.Need{n}) || x != taintOf("a", "a", 2) || !slices.Equal(labels, labelsOf("b", "a")) {
			t.Errorf("with texts that contain themselves, %s, %s, %v and %q are read", shown(n), shown(needs...), x, labels)
		}
		if fault != (impl.Fault{}) || fault2 != (impl.Fault{}) || fault3 != (impl.Fault{}) || fault4 != (impl.Fault{}) {
			t.Errorf("with texts that contain themselves, the faults are %v, %v, %v and %v", fault, fault2, fault3, fault4)
		}
	}
	p, fault := impl.PodIn(with(with(with(podTree(tidyPod()), "name", text), "labels", mapOf("b", text)), "needs", listOf(tree, tree)))
	if p.Name != "a" || fault != (impl.Fault{}) || !sameNeedsByWords(p.Needs, []impl.Need{needOf("a", 1, "a")}) || !slices.Equal(p.Labels, labelsOf("b", "a")) {
		t.Errorf("with texts that contain themselves, the pod is %s, %s", told(p), shownFault(fault))
	}
}

// wantFaultOf looks for MfKind. It does not show the tree, which may contain itself.
func (k reading[T]) wantFaultOf(t *testing.T, tree impl.Tree, at string) {
	t.Helper()
	for _, path := range k.paths {
		if _, fault := k.read(tree, path); fault != (impl.Fault{Code: 11, Path: behind(path, at)}) {
			t.Errorf("%s has the fault %s; want 11 at %q", k.name, shownFault(fault), behind(path, at))
		}
	}
}

// faultyAt is the location of a key, and of what is inside its value if the key is one of these.
func faultyAt(key string, keys string, within string) string {
	if slices.Contains(strings.Fields(keys), key) {
		return "@." + key + within
	}
	return "@." + key
}

func TestReadingOfDeepTrees(t *testing.T) {
	deepList, deepMap := inLists(50000, inMaps(50000, nullOf())), inMaps(50000, inLists(50000, nullOf()))
	for _, k := range readings() {
		full := k.fullTree()
		for _, key := range full.Keys {
			k.wantFaultOf(t, with(full, key, deepMap), faultyAt(key, "labels", ".k"))
			k.wantFaultOf(t, with(full, key, deepList), faultyAt(key, "values needs tolerances taints", "[0]"))
		}
	}
}

// wantOwnMemory reads a tree twice and checks that the tree is kept and that neither the results nor the tree share memory.
func (k reading[T]) wantOwnMemory(t *testing.T, tree impl.Tree) {
	t.Helper()
	arg := roomy(tree)
	for _, path := range few(k.paths, 2) {
		wantNewMemory(t, k.name, func(args []impl.Tree) []impl.Tree {
			first, _ := k.read(args[0], path)
			second, _ := k.read(args[0], path)
			others := spansOf(args)
			if anyOverlap(k.spans(first), append(others, k.spans(second)...)) || anyOverlap(k.spans(second), others) {
				t.Errorf("%s(%s) shares memory", k.name, brief(tree))
			}
			want := k.clone(first)
			k.overwrite(first)
			if !reflect.DeepEqual(k.clone(second), want) {
				t.Errorf("a change of one result of %s(%s) changed the other one to %s", k.name, brief(tree), told(second))
			}
			return nil
		}, arg)
	}
	result, _ := k.read(arg, "")
	want := k.clone(result)
	overwrite(&arg)
	if !reflect.DeepEqual(k.clone(result), want) {
		t.Errorf("a change of the argument %s of %s changed the result to %s", brief(tree), k.name, told(result))
	}
}

func TestReadingsAreNewMemory(t *testing.T) {
	for _, k := range readings() {
		full := k.fullTree()
		trees := append(few(k.goodTrees(), 400), full)
		for _, m := range few(slices.Concat(k.mistakesInOrder()...), 200) {
			trees = append(trees, m.in(full))
		}
		for _, tree := range trees {
			k.wantOwnMemory(t, tree)
		}
	}
}

// What is appended to one slice of a result is not seen in another one.
func TestReadingsReturnSlicesThatCanGrow(t *testing.T) {
	for _, tree := range goodPodTrees() {
		p, _ := impl.PodIn(tree)
		want := clonePod(p)
		_ = append(p.Labels, impl.Label{Key: "more"})
		_ = append(p.Needs, needOf("more", 3))
		_ = append(p.Tolerances, withKey("more", 1))
		for i := range p.Needs {
			_ = append(p.Needs[i].Values, "more")
		}
		if !samePodByWords(p, want) {
			t.Errorf("appending to slices of the result of PodIn changed it to %s", told(p))
		}
	}
}

// The bytes of the arguments lie in a slice here, so that a change would be seen.
func TestReadingsKeepTheBytesOfTheirArguments(t *testing.T) {
	for _, text := range []string{"", "-", "a", "web-1", "App/x", "a b", "\xff", "in", "pod", "never", "500m", strings.Repeat("a", 21), strings.Repeat("a", 31)} {
		kept := append([]byte(text), "spare"...)
		arg := unsafe.String(unsafe.SliceData(kept), len(text))
		for _, k := range readings() {
			full := k.fullTree()
			for _, key := range full.Keys {
				k.wantAsDocumented(t, with(full, key, textOf(arg)), arg)
				k.wantAsDocumented(t, with(full, key, listOf(textOf(arg), textOf(arg))), arg)
				k.wantAsDocumented(t, with(full, key, fieldsOf(arg, arg)), arg)
			}
			k.wantAsDocumented(t, with(full, arg, textOf(arg)), arg)
		}
		if string(kept) != text+"spare" {
			t.Errorf("the argument %q was changed to %q", text+"spare", kept)
		}
	}
}
