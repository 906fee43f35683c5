package tests

import (
	"cmp"
	"fmt"
	"maps"
	"math"
	"math/rand"
	"runtime"
	"runtime/debug"
	"slices"
	"strings"
	"testing"
	"unicode/utf8"
	"unsafe"

	"loop.example/g00968/impl"
)

func nullOf() impl.Tree { return impl.Tree{Kind: 1} }

func flagOf(flag bool) impl.Tree { return impl.Tree{Kind: 2, Flag: flag} }

func intOf(n int) impl.Tree { return impl.Tree{Kind: 3, Num: n} }

func textOf(s string) impl.Tree { return impl.Tree{Kind: 4, Text: s} }

func listOf(kids ...impl.Tree) impl.Tree { return impl.Tree{Kind: 5, Kids: kids} }

// mapOf has the keys that are the words of one string.
func mapOf(words string, kids ...impl.Tree) impl.Tree {
	return impl.Tree{Kind: 6, Keys: strings.Fields(words), Kids: kids}
}

// inLists and inMaps put t into so many lists, or maps.
func inLists(count int, t impl.Tree) impl.Tree {
	for range count {
		t = listOf(t)
	}
	return t
}

func inMaps(count int, t impl.Tree) impl.Tree {
	for range count {
		t = mapOf("k", t)
	}
	return t
}

// wideList and wideMap have so many kids, each of them a number.
func wideList(count int) impl.Tree {
	t := listOf()
	for n := range count {
		t.Kids = append(t.Kids, intOf(n))
	}
	return t
}

func wideMap(count int) impl.Tree {
	t := mapOf("")
	for n := range count {
		t.Keys = append(t.Keys, fmt.Sprintf("k%03d", n))
		t.Kids = append(t.Kids, intOf(n))
	}
	return t
}

// The following functions say what the document says.

func sizeOfTree(t impl.Tree) int {
	size := 1
	for _, kid := range t.Kids {
		size += sizeOfTree(kid)
	}
	return size
}

func depthOfTree(t impl.Tree) int {
	below := 0
	for _, kid := range t.Kids {
		below = max(below, depthOfTree(kid))
	}
	return 1 + below
}

func leavesOfTree(t impl.Tree) int {
	if len(t.Kids) == 0 && t.Kind != 5 && t.Kind != 6 {
		return 1
	}
	leaves := 0
	for _, kid := range t.Kids {
		leaves += leavesOfTree(kid)
	}
	return leaves
}

func equalTrees(a impl.Tree, b impl.Tree) bool {
	return a.Kind == b.Kind && a.Flag == b.Flag && a.Num == b.Num && a.Text == b.Text && slices.Equal(a.Keys, b.Keys) && slices.EqualFunc(a.Kids, b.Kids, equalTrees)
}

func validTree(t impl.Tree) bool {
	return validNodes(t) && depthOfTree(t) <= 8 && sizeOfTree(t) <= 300
}

func validNodes(t impl.Tree) bool {
	switch {
	case t.Kind < 1 || t.Kind > 6,
		t.Flag && t.Kind != 2,
		t.Num != 0 && t.Kind != 3,
		t.Text != "" && t.Kind != 4,
		len(t.Keys) > 0 && t.Kind != 6,
		len(t.Kids) > 0 && t.Kind != 5 && t.Kind != 6,
		t.Kind == 6 && len(t.Keys) != len(t.Kids):
		return false
	}
	for i, key := range t.Keys {
		if !validString(key) || i > 0 && strings.Compare(t.Keys[i-1], key) != -1 {
			return false
		}
	}
	return validString(t.Text) && !slices.ContainsFunc(t.Kids, func(kid impl.Tree) bool { return !validNodes(kid) })
}

func validString(s string) bool { return len(s) <= 400 && utf8.ValidString(s) }

func putByWords(t impl.Tree, key string, kid impl.Tree) (impl.Tree, bool) {
	if t.Kind != 6 || !validTree(t) {
		return t, false
	}
	values := map[string]impl.Tree{}
	for i, k := range t.Keys {
		values[k] = t.Kids[i]
	}
	values[key] = kid
	put := mapOf("")
	for _, k := range slices.Sorted(maps.Keys(values)) {
		put.Keys = append(put.Keys, k)
		put.Kids = append(put.Kids, values[k])
	}
	if !validTree(put) {
		return t, false
	}
	return put, true
}

// goodStrings and badStrings are accepted, or not, as Text and as a key.
func goodStrings() []string {
	return []string{"", "a", "ab", "A", "1", " ", "\x00", "\n", "~", "\x7f", "caf\xc3\xa9", "\xc3\xa9", "\xe2\x82\xac", "\xef\xbf\xbd", "\xef\xbf\xbf", "\xf0\x9f\x98\x80", "\xf4\x8f\xbf\xbf",
		strings.Repeat("a", 399), strings.Repeat("a", 400), strings.Repeat("\xc3\xa9", 200), strings.Repeat("\xf0\x9f\x98\x80", 100), strings.Repeat("a", 398) + "\xc3\xa9"}
}

func badStrings() []string {
	list := []string{strings.Repeat("a", 401), strings.Repeat("a", 399) + "\xc3\xa9", strings.Repeat("\xc3\xa9", 200) + "a", strings.Repeat("\xf0\x9f\x98\x80", 101), strings.Repeat("a", 20000),
		"\x80", "\xff", "a\xff", "\xffa", "a\xffb", "\xc3", "caf\xc3", "\xc0\x80", "\xe0\x80\x80", "\xed\xa0\x80", "\xed\xbf\xbf", "\xf4\x90\x80\x80", "\xf8\x88\x80\x80\x80",
		strings.Repeat("a", 399) + "\xff", strings.Repeat("a", 399) + "\xc3", strings.Repeat("\xff", 401)}
	for i, s := range badEncodings() {
		if i%499 == 0 {
			list = append(list, s)
		}
	}
	return list
}

func leafTrees() []impl.Tree {
	list := []impl.Tree{nullOf(), flagOf(false), flagOf(true), intOf(0), intOf(1), intOf(-1), intOf(math.MinInt), intOf(math.MaxInt), listOf(), mapOf("")}
	for _, s := range goodStrings() {
		list = append(list, textOf(s))
	}
	return list
}

// goodTrees are valid; some are at a limit.
func goodTrees() []impl.Tree {
	pod := mapOf("cpu labels name needs rank", textOf("500m"), mapOf("app zone", textOf("web"), textOf("a")), textOf("p1"), listOf(mapOf("key op", textOf("app"), textOf("in"))), intOf(3))
	list := append(leafTrees(), pod, listOf(pod, nullOf(), pod), listOf(listOf(), mapOf(""), listOf(listOf())),
		listOf(intOf(1)), listOf(intOf(2), intOf(1), intOf(1)), mapOf("a", intOf(1)), mapOf("a b", intOf(1), intOf(1)), mapOf("b", nullOf()),
		mapOf("a aa ab b", listOf(), nullOf(), flagOf(true), mapOf("b", textOf("x"))), mapOf("0 A a z \xc3\xa9 \xf0\x9f\x98\x80", nullOf(), nullOf(), nullOf(), nullOf(), nullOf(), nullOf()),
		impl.Tree{Kind: 6, Keys: []string{""}, Kids: []impl.Tree{textOf("")}}, impl.Tree{Kind: 6, Keys: []string{"", "\x00", "\x00\x00", " "}, Kids: wideList(4).Kids},
		inLists(7, intOf(1)), inMaps(7, intOf(1)), inLists(7, listOf()), inMaps(7, mapOf("")), inMaps(3, inLists(4, textOf("x"))), listOf(intOf(1), mapOf("a b", nullOf(), inLists(5, nullOf()))),
		wideList(298), wideList(299), wideMap(298), wideMap(299), listOf(wideList(148), wideMap(149)), mapOf("a b", wideMap(149), wideList(148)), inLists(6, wideList(293)), inMaps(6, wideMap(293)))
	for _, s := range goodStrings() {
		list = append(list, impl.Tree{Kind: 6, Keys: []string{s}, Kids: []impl.Tree{textOf(s)}})
	}
	return list
}

// badNodes are not valid, however they are nested.
func badNodes() []impl.Tree {
	list := []impl.Tree{mapOf("a b", nullOf()), mapOf("a", nullOf(), nullOf()), mapOf("a"), mapOf("", nullOf()), mapOf("a b c", nullOf(), nullOf()), mapOf("a b", nullOf(), nullOf(), nullOf()),
		mapOf("a a", nullOf(), nullOf()), mapOf("a a", nullOf(), intOf(1)), mapOf("a b b", nullOf(), nullOf(), nullOf()), mapOf("a b a", nullOf(), nullOf(), nullOf()), mapOf("b a", nullOf(), nullOf()),
		mapOf("b c a", nullOf(), nullOf(), nullOf()), mapOf("a c b", nullOf(), nullOf(), nullOf()), mapOf("ab a", nullOf(), nullOf()), mapOf("a ab aa", nullOf(), nullOf(), nullOf()), mapOf("a A", nullOf(), nullOf()),
		mapOf("\xc3\xa9 z", nullOf(), nullOf()), mapOf("\xf0\x9f\x98\x80 \xef\xbf\xbd", nullOf(), nullOf()), mapOf("10 2 1", nullOf(), nullOf(), nullOf()),
		{Kind: 6, Keys: []string{"", ""}, Kids: wideList(2).Kids}, {Kind: 6, Keys: []string{"a", ""}, Kids: wideList(2).Kids}}
	for _, kind := range []int{0, -1, -6, 7, 8, 1 << 32, 1<<32 + 1, 257, math.MinInt, math.MaxInt} {
		list = append(list, impl.Tree{Kind: kind}, impl.Tree{Kind: kind, Flag: true, Num: 1, Text: "x", Keys: []string{"a"}, Kids: []impl.Tree{nullOf()}})
	}
	for _, s := range badStrings() {
		list = append(list, textOf(s), impl.Tree{Kind: 6, Keys: []string{s}, Kids: []impl.Tree{nullOf()}})
	}
	return append(list, unusedFields()...)
}

// unusedFields are valid trees of each kind but for one field that this kind does not use.
func unusedFields() []impl.Tree {
	list := []impl.Tree{}
	for _, t := range []impl.Tree{nullOf(), flagOf(false), flagOf(true), intOf(0), intOf(5), textOf(""), textOf("x"), listOf(), wideList(2), mapOf(""), wideMap(2)} {
		for i := range 5 {
			if u, ok := withUnused(t, i); ok {
				list = append(list, u)
			}
		}
	}
	return list
}

func withUnused(t impl.Tree, field int) (impl.Tree, bool) {
	switch field {
	case 0:
		t.Flag = true
		return t, t.Kind != 2
	case 1:
		t.Num = 1
		return t, t.Kind != 3
	case 2:
		t.Text = "a"
		return t, t.Kind != 4
	case 3:
		t.Keys = []string{"a", "b"}[:max(1, len(t.Kids))]
		return t, t.Kind != 6
	}
	t.Kids = []impl.Tree{nullOf()}
	return t, t.Kind != 5 && t.Kind != 6
}

// tooGreat have valid nodes, but too many of them or too deep ones.
func tooGreat() []impl.Tree {
	return []impl.Tree{inLists(8, intOf(1)), inMaps(8, intOf(1)), inLists(8, listOf()), inMaps(8, mapOf("")), inLists(20, nullOf()), inMaps(4, inLists(4, textOf("x"))),
		listOf(nullOf(), inLists(7, nullOf())), listOf(inLists(7, nullOf()), nullOf()), mapOf("a b c", nullOf(), inMaps(7, nullOf()), nullOf()),
		wideList(300), wideMap(300), wideList(301), wideMap(1000), listOf(wideList(149), wideMap(149)), listOf(wideList(299)), mapOf("a b", wideList(149), wideMap(149)), listOf(wideList(298), nullOf()), listOf(nullOf(), wideList(298)),
		inLists(6, wideList(294)), inMaps(6, wideMap(294)), inLists(7, wideList(293)), inMaps(8, wideMap(300))}
}

// badTrees are not valid, some of them only deep inside.
func badTrees() []impl.Tree {
	list := append(tooGreat(), badNodes()...)
	for i, t := range badNodes() {
		switch i % 4 {
		case 0:
			list = append(list, listOf(t), mapOf("a b", t, nullOf()))
		case 1:
			list = append(list, listOf(nullOf(), t), mapOf("a b", nullOf(), t))
		case 2:
			list = append(list, inLists(5, listOf(nullOf(), t, nullOf())), mapOf("a", inMaps(4, t)))
		}
	}
	return list
}

func allTrees() []impl.Tree { return slices.Concat(goodTrees(), badTrees()) }

func brief(t impl.Tree) string {
	return fmt.Sprintf("%.300s", strings.ReplaceAll(fmt.Sprintf("%#v", t), "impl.Tree", ""))
}

// roomy copies t and puts other elements into the capacity behind each slice.
func roomy(t impl.Tree) impl.Tree {
	keys := append(slices.Clone(t.Keys), "spare", "a", "b")
	kids := []impl.Tree{}
	for _, kid := range t.Kids {
		kids = append(kids, roomy(kid))
	}
	kids = append(kids, intOf(77), textOf("spare"))
	t.Keys, t.Kids = keys[:len(t.Keys)], kids[:len(t.Kids)]
	return t
}

// widened copies t together with the capacity behind its slices.
func widened(t impl.Tree) impl.Tree {
	t.Keys = slices.Clone(t.Keys[:cap(t.Keys)])
	kids := []impl.Tree{}
	for _, kid := range t.Kids[:cap(t.Kids)] {
		kids = append(kids, widened(kid))
	}
	t.Kids = kids
	return t
}

type span struct{ from, to uintptr }

func spanOf[T any](list []T) span {
	var one T
	from := uintptr(unsafe.Pointer(unsafe.SliceData(list)))
	return span{from, from + uintptr(cap(list))*unsafe.Sizeof(one)}
}

// spansOf is the memory of all slices in the trees, with the capacity behind them.
func spansOf(trees []impl.Tree) []span {
	list := []span{}
	for _, t := range trees {
		for _, s := range []span{spanOf(t.Keys), spanOf(t.Kids)} {
			if s.from < s.to {
				list = append(list, s)
			}
		}
		list = append(list, spansOf(t.Kids)...)
	}
	return list
}

func overlap(a span, b span) bool { return a.from < b.to && b.from < a.to }

func shareMemory(results []impl.Tree, args []impl.Tree) bool {
	list := spansOf(results)
	slices.SortFunc(list, func(a, b span) int { return cmp.Compare(a.from, b.from) })
	for i := 1; i < len(list); i++ {
		if overlap(list[i-1], list[i]) {
			return true
		}
	}
	for _, s := range spansOf(args) {
		at, _ := slices.BinarySearchFunc(list, s.from, func(r span, from uintptr) int { return cmp.Compare(r.to, from+1) })
		if at < len(list) && overlap(list[at], s) {
			return true
		}
	}
	runtime.KeepAlive(results)
	runtime.KeepAlive(args)
	return false
}

// wantNewMemory runs call on args and checks that it changes none of their memory and that the trees it returns share none, with args or with each other.
func wantNewMemory(t *testing.T, name string, call func(args []impl.Tree) []impl.Tree, args ...impl.Tree) {
	t.Helper()
	kept, wide := []impl.Tree{}, []impl.Tree{}
	for _, arg := range args {
		kept = append(kept, roomy(arg))
		wide = append(wide, widened(arg))
	}
	results := call(args)
	for i, arg := range args {
		if !equalTrees(arg, kept[i]) || !equalTrees(widened(arg), wide[i]) {
			t.Errorf("%s changed its argument %s to %s", name, brief(kept[i]), brief(arg))
		}
	}
	if shareMemory(results, args) {
		t.Errorf("%s of %s shares memory", name, brief(args[0]))
	}
}

func wantTreeOk(t *testing.T, tree impl.Tree) {
	t.Helper()
	if !impl.TreeOk(tree) {
		t.Errorf("TreeOk(%s) = false; want true", brief(tree))
	}
}

func wantNoTreeOk(t *testing.T, tree impl.Tree) {
	t.Helper()
	if impl.TreeOk(tree) {
		t.Errorf("TreeOk(%s) = true; want false", brief(tree))
	}
}

func wantMeasures(t *testing.T, tree impl.Tree, size int, depth int, leaves int) {
	t.Helper()
	if got := impl.TreeSize(tree); got != size {
		t.Errorf("TreeSize(%s) = %d; want %d", brief(tree), got, size)
	}
	if got := impl.TreeDepth(tree); got != depth {
		t.Errorf("TreeDepth(%s) = %d; want %d", brief(tree), got, depth)
	}
	if got := impl.LeavesOf(tree); got != leaves {
		t.Errorf("LeavesOf(%s) = %d; want %d", brief(tree), got, leaves)
	}
}

func wantSameTree(t *testing.T, a impl.Tree, b impl.Tree, want bool) {
	t.Helper()
	if impl.SameTree(a, b) != want || impl.SameTree(b, a) != want {
		t.Errorf("SameTree(%s, %s) = %v, swapped %v; want %v", brief(a), brief(b), impl.SameTree(a, b), impl.SameTree(b, a), want)
	}
}

func wantKeyAt(t *testing.T, tree impl.Tree, key string, want int) {
	t.Helper()
	if got := impl.KeyAt(tree, key); got != want {
		t.Errorf("KeyAt(%s, %.40q) = %d; want %d", brief(tree), key, got, want)
	}
}

func wantKid(t *testing.T, tree impl.Tree, key string, want impl.Tree) {
	t.Helper()
	if got, ok := impl.KidOf(tree, key); !ok || !equalTrees(got, want) {
		t.Errorf("KidOf(%s, %.40q) = %s, %v; want %s, true", brief(tree), key, brief(got), ok, brief(want))
	}
}

func wantNoKid(t *testing.T, tree impl.Tree, key string) {
	t.Helper()
	if got, ok := impl.KidOf(tree, key); ok || !equalTrees(got, impl.Tree{}) {
		t.Errorf("KidOf(%s, %.40q) = %s, %v; want the zero Tree, false", brief(tree), key, brief(got), ok)
	}
}

func wantPut(t *testing.T, tree impl.Tree, key string, kid impl.Tree, want impl.Tree) {
	t.Helper()
	got, ok := impl.PutKid(tree, key, kid)
	if !ok || !equalTrees(got, want) {
		t.Errorf("PutKid(%s, %.40q, %s) = %s, %v; want %s, true", brief(tree), key, brief(kid), brief(got), ok, brief(want))
		return
	}
	wantTreeOk(t, got)
	wantKid(t, got, key, kid)
}

func wantNoPut(t *testing.T, tree impl.Tree, key string, kid impl.Tree) {
	t.Helper()
	if got, ok := impl.PutKid(tree, key, kid); ok || !equalTrees(got, tree) {
		t.Errorf("PutKid(%s, %.40q, %s) = %s, %v; want the tree unchanged, false", brief(tree), key, brief(kid), brief(got), ok)
	}
}

func TestTreeConstants(t *testing.T) {
	if impl.TrNull != 1 || impl.TrFlag != 2 || impl.TrInt != 3 || impl.TrText != 4 || impl.TrList != 5 || impl.TrMap != 6 || impl.MaxDepth != 8 || impl.MaxTree != 300 || impl.MaxString != 400 {
		t.Error("a constant of the trees has another value than the document says")
	}
}

func TestTreeOkOfValidTrees(t *testing.T) {
	for _, tree := range goodTrees() {
		wantTreeOk(t, tree)
		wantTreeOk(t, roomy(tree))
	}
	wantTreeOk(t, impl.Tree{Kind: 1, Keys: []string{}, Kids: []impl.Tree{}})
	wantTreeOk(t, impl.Tree{Kind: 5, Keys: []string{}})
}

func TestTreeOkOfNodesThatAreNotValid(t *testing.T) {
	wantNoTreeOk(t, impl.Tree{})
	for _, tree := range badNodes() {
		wantNoTreeOk(t, tree)
	}
}

func TestTreeOkOfKinds(t *testing.T) {
	for kind := -300; kind <= 600; kind++ {
		if got, want := impl.TreeOk(impl.Tree{Kind: kind}), kind >= 1 && kind <= 6; got != want {
			t.Errorf("TreeOk of kind %d = %v; want %v", kind, got, want)
		}
	}
}

func TestTreeOkOfStrings(t *testing.T) {
	for _, s := range slices.Concat(goodStrings(), badStrings(), badEncodings()) {
		want := validString(s)
		if impl.TreeOk(textOf(s)) != want || impl.TreeOk(impl.Tree{Kind: 6, Keys: []string{s}, Kids: []impl.Tree{nullOf()}}) != want {
			t.Errorf("TreeOk with Text or a key %.20q of %d bytes is not %v", s, len(s), want)
		}
	}
}

func TestTreeOkOfBadKeysAtEachPlace(t *testing.T) {
	before, after := []string{"\x00", "\x01"}, []string{"\xf4\x8f\xbf\xbf", "\xf4\x8f\xbf\xbf\x00"}
	for i := range 3 {
		for j := range 3 {
			kids := wideList(i + 1 + j).Kids
			wantTreeOk(t, impl.Tree{Kind: 6, Keys: slices.Concat(before[:i], []string{"a"}, after[:j]), Kids: kids})
			for _, s := range badStrings() {
				// The keys are in order, so that nothing else is wrong.
				if j == 0 || s < after[0] {
					wantNoTreeOk(t, impl.Tree{Kind: 6, Keys: slices.Concat(before[:i], []string{s}, after[:j]), Kids: kids})
				}
			}
		}
	}
}

func TestTreeOkOfKeyOrder(t *testing.T) {
	words := []string{"", "\x00", "A", "a", "aa", "ab", "b", "\xc3\xa9", "\xef\xbf\xbd", "\xf0\x9f\x98\x80"}
	for i, a := range words {
		for j, b := range words {
			for k, c := range words {
				tree := impl.Tree{Kind: 6, Keys: []string{a, b, c}, Kids: wideList(3).Kids}
				if got, want := impl.TreeOk(tree), i < j && j < k; got != want {
					t.Errorf("TreeOk of keys %q = %v; want %v", tree.Keys, got, want)
				}
			}
		}
	}
}

func TestTreeOkOfNumbersOfKeysAndKids(t *testing.T) {
	for keys := range 6 {
		for kids := range 6 {
			tree := wideMap(keys)
			tree.Kids = wideList(kids).Kids
			if got := impl.TreeOk(tree); got != (keys == kids) {
				t.Errorf("TreeOk of a map with %d Keys and %d Kids = %v", keys, kids, got)
			}
		}
	}
}

func TestTreeOkOfBadKidsAtEachPlace(t *testing.T) {
	for i, bad := range badNodes() {
		for count := 1; count <= 3; count++ {
			for at := range count {
				list, pairs := wideList(count), wideMap(count)
				list.Kids[at], pairs.Kids[at] = bad, bad
				depth := i % 6
				for _, tree := range []impl.Tree{list, pairs, inLists(depth, list), inMaps(depth, list), inLists(depth, pairs), listOf(nullOf(), inMaps(depth, pairs)), listOf(list, nullOf())} {
					wantNoTreeOk(t, tree)
				}
			}
		}
	}
}

func TestTreeOkOfDepth(t *testing.T) {
	for depth := 1; depth <= 12; depth++ {
		for _, end := range []impl.Tree{nullOf(), listOf(), mapOf("")} {
			lists, pairs := inLists(depth-1, end), inMaps(depth-1, end)
			trees := []impl.Tree{lists, pairs, inMaps(depth/2, inLists(depth-1-depth/2, end))}
			if depth > 1 {
				kid := inLists(depth-2, end)
				trees = append(trees, listOf(nullOf(), kid), listOf(kid, nullOf()), mapOf("a b c", nullOf(), kid, nullOf()))
			}
			for _, tree := range trees {
				if got := impl.TreeOk(tree); got != (depth <= 8) || impl.TreeDepth(tree) != depth {
					t.Errorf("TreeOk(%s) of depth %d = %v, TreeDepth %d", brief(tree), depth, got, impl.TreeDepth(tree))
				}
			}
		}
	}
}

func TestTreeOkOfSize(t *testing.T) {
	for size := 290; size <= 310; size++ {
		half := size / 2
		for _, tree := range []impl.Tree{wideList(size - 1), wideMap(size - 1), listOf(wideList(size - 2)), mapOf("a", wideMap(size-2)),
			listOf(wideList(half-1), wideMap(size-half-2)), mapOf("a b", wideMap(half-1), wideList(size-half-2)), inLists(7, nullOf()),
			listOf(wideList(9), listOf(wideList(9), mapOf("a b", wideList(size-25), nullOf()))), inMaps(6, wideList(size-7)), inLists(6, wideMap(size-7))} {
			if got, want := impl.TreeOk(tree), sizeOfTree(tree) <= 300; got != want {
				t.Errorf("TreeOk of size %d and depth %d = %v; want %v", sizeOfTree(tree), depthOfTree(tree), got, want)
			}
		}
	}
	wantTreeOk(t, wideList(299))
	wantNoTreeOk(t, wideList(300))
	wantTreeOk(t, wideMap(299))
	wantNoTreeOk(t, wideMap(300))
}

func TestTreeOkOfTreesTooGreat(t *testing.T) {
	for _, tree := range tooGreat() {
		wantNoTreeOk(t, tree)
	}
	for _, count := range []int{1 << 16, 1 << 17} {
		if impl.TreeOk(wideList(count)) {
			t.Errorf("TreeOk of a list of %d numbers = true; want false", count)
		}
	}
}

func TestTreeMeasures(t *testing.T) {
	wantMeasures(t, impl.Tree{}, 1, 1, 1)
	for _, tree := range leafTrees() {
		leaves := 1
		if tree.Kind == impl.TrList || tree.Kind == impl.TrMap {
			leaves = 0
		}
		wantMeasures(t, tree, 1, 1, leaves)
	}
	wantMeasures(t, listOf(intOf(1), intOf(2)), 3, 2, 2)
	wantMeasures(t, listOf(listOf(), mapOf("")), 3, 2, 0)
	wantMeasures(t, mapOf("a b", listOf(nullOf(), listOf(nullOf())), flagOf(true)), 6, 4, 3)
	wantMeasures(t, inLists(7, nullOf()), 8, 8, 1)
	wantMeasures(t, wideMap(299), 300, 2, 299)
	wantMeasures(t, listOf(inLists(3, nullOf()), nullOf(), inMaps(5, listOf())), 12, 7, 2)
}

func TestTreeMeasuresOfTreesThatAreNotValid(t *testing.T) {
	two := []impl.Tree{nullOf(), {Kind: 9, Kids: []impl.Tree{intOf(1), listOf()}}}
	for kind := -1; kind <= 8; kind++ {
		wantMeasures(t, impl.Tree{Kind: kind, Kids: two}, 5, 3, 2)
		wantMeasures(t, impl.Tree{Kind: kind, Keys: []string{"a", "b", "c"}, Kids: two}, 5, 3, 2)
		wantMeasures(t, listOf(impl.Tree{Kind: kind, Kids: two}, textOf("\xff")), 7, 4, 3)
	}
	wantMeasures(t, impl.Tree{Kind: 0, Keys: []string{"a"}, Num: 5}, 1, 1, 1)
	wantMeasures(t, impl.Tree{Kind: 7}, 1, 1, 1)
	wantMeasures(t, mapOf("a b c"), 1, 1, 0)
	wantMeasures(t, wideList(1000), 1001, 2, 1000)
	wantMeasures(t, inMaps(50, nullOf()), 51, 51, 1)
	for _, tree := range allTrees() {
		wantMeasures(t, tree, sizeOfTree(tree), depthOfTree(tree), leavesOfTree(tree))
	}
}

// oneFieldChanged are trees that differ from t in one field each.
func oneFieldChanged(t impl.Tree) []impl.Tree {
	list := []impl.Tree{t, t, t, t, t, t, t, t, t}
	list[0].Kind++
	list[1].Kind = -t.Kind - 1
	list[2].Flag = !t.Flag
	list[3].Num++
	list[4].Num ^= 1 << 40
	list[5].Text += "x"
	list[6].Text = "\xff" + t.Text
	list[7].Keys = append(slices.Clone(t.Keys), "")
	list[8].Kids = append(slices.Clone(t.Kids), impl.Tree{})
	for i := range t.Keys {
		u := roomy(t)
		u.Keys[i] += "x"
		list = append(list, u)
	}
	for i := range t.Kids {
		u := roomy(t)
		u.Kids[i].Num--
		list = append(list, u)
	}
	if len(t.Keys) > 0 {
		list = append(list, t, t)
		list[len(list)-1].Keys = t.Keys[1:]
		list[len(list)-2].Keys = t.Keys[:len(t.Keys)-1]
	}
	if len(t.Kids) > 0 {
		list = append(list, t, t)
		list[len(list)-1].Kids = t.Kids[:len(t.Kids)-1]
		list[len(list)-2].Kids = nil
	}
	return list
}

func TestSameTreeOfOneFieldChanged(t *testing.T) {
	for i, tree := range allTrees() {
		wantSameTree(t, tree, tree, true)
		wantSameTree(t, tree, roomy(tree), true)
		if sizeOfTree(tree) > 50 {
			continue
		}
		for _, other := range oneFieldChanged(tree) {
			wantSameTree(t, tree, other, false)
			wantSameTree(t, inLists(i%9, listOf(nullOf(), tree)), inLists(i%9, listOf(nullOf(), other)), false)
			wantSameTree(t, mapOf("a b", tree, nullOf()), mapOf("a b", other, nullOf()), false)
		}
	}
}

func TestSameTreeOfNilAndEmptySlices(t *testing.T) {
	for kind := range 8 {
		a, b := impl.Tree{Kind: kind}, impl.Tree{Kind: kind, Keys: []string{}, Kids: []impl.Tree{}}
		wantSameTree(t, a, b, true)
		wantSameTree(t, a, impl.Tree{Kind: kind, Keys: make([]string, 0, 3), Kids: make([]impl.Tree, 0, 3)}, true)
		wantSameTree(t, listOf(a, b), listOf(b, a), true)
		wantSameTree(t, listOf(a, b), listOf(b, impl.Tree{Kind: kind, Num: 1}), false)
		wantSameTree(t, b, impl.Tree{Kind: kind, Keys: []string{""}}, false)
		wantSameTree(t, b, impl.Tree{Kind: kind, Kids: []impl.Tree{{}}}, false)
	}
}

func TestSameTreeOfDifferentShapes(t *testing.T) {
	a, b := intOf(1), intOf(2)
	wantSameTree(t, listOf(a, b), listOf(b, a), false)
	wantSameTree(t, listOf(listOf(a), b), listOf(listOf(a, b)), false)
	wantSameTree(t, listOf(listOf(a, b), listOf()), listOf(listOf(a), listOf(b)), false)
	wantSameTree(t, listOf(listOf(), a), listOf(listOf(a)), false)
	wantSameTree(t, mapOf("a b", a, b), mapOf("b a", b, a), false)
	wantSameTree(t, mapOf("a b", a, b), mapOf("a b", b, a), false)
	wantSameTree(t, impl.Tree{Kind: 6, Keys: []string{"ab", "c"}}, impl.Tree{Kind: 6, Keys: []string{"a", "bc"}}, false)
	wantSameTree(t, textOf("caf\xc3\xa9"), textOf("cafe\xcc\x81"), false)
	wantSameTree(t, textOf("\xff"), textOf("\xfe"), false)
	wantSameTree(t, impl.Tree{}, impl.Tree{}, true)
}

func TestSameTreeOfAllPairs(t *testing.T) {
	trees := allTrees()
	for _, a := range trees {
		for _, b := range trees {
			if got, want := impl.SameTree(a, b), equalTrees(a, b); got != want {
				t.Errorf("SameTree(%s, %s) = %v; want %v", brief(a), brief(b), got, want)
			}
		}
	}
}

func TestKeyAt(t *testing.T) {
	tree := mapOf("a aa b", intOf(1), intOf(2), intOf(3))
	for key, want := range map[string]int{"a": 0, "aa": 1, "b": 2, "": -1, "A": -1, "ab": -1, "aaa": -1, "c": -1, "a ": -1, "\x00": -1, "\xff": -1} {
		wantKeyAt(t, tree, key, want)
	}
	wantKeyAt(t, mapOf(""), "a", -1)
	wantKeyAt(t, impl.Tree{Kind: 6, Keys: []string{"", "a"}, Kids: wideList(2).Kids}, "", 0)
	for n := range 299 {
		wantKeyAt(t, wideMap(299), fmt.Sprintf("k%03d", n), n)
	}
}

func TestKeyAtOfTreesThatAreNotValid(t *testing.T) {
	twice := mapOf("c b a b c a", intOf(1))
	for key, want := range map[string]int{"a": 2, "b": 1, "c": 0, "d": -1} {
		wantKeyAt(t, twice, key, want)
	}
	wantKeyAt(t, mapOf("z \xff y", nullOf()), "\xff", 1)
	wantKeyAt(t, mapOf("b a"), "a", 1)
	for _, kind := range []int{-1, 0, 1, 2, 3, 4, 5, 7, 1<<32 + 6, math.MinInt, math.MaxInt} {
		for _, key := range []string{"a", "b", ""} {
			wantKeyAt(t, impl.Tree{Kind: kind, Keys: []string{"a", "b", ""}, Kids: wideList(3).Kids}, key, -1)
			wantNoKid(t, impl.Tree{Kind: kind, Keys: []string{"a", "b", ""}, Kids: wideList(3).Kids}, key)
		}
	}
}

// treeKeys are keys that stand in some of the trees, and others.
func treeKeys() []string {
	return []string{"", "a", "b", "ab", "k", "k000", "k298", "name", "\xc3\xa9", "~", "\xff", strings.Repeat("a", 400), strings.Repeat("a", 401), "\xf4\x8f\xbf\xbf"}
}

func TestKeyAtAndKidOfAllTrees(t *testing.T) {
	for _, tree := range allTrees() {
		for _, key := range append(treeKeys(), tree.Keys...) {
			at := -1
			if tree.Kind == 6 {
				at = slices.Index(tree.Keys, key)
			}
			wantKeyAt(t, tree, key, at)
			if at >= 0 && len(tree.Keys) == len(tree.Kids) {
				wantKid(t, tree, key, tree.Kids[at])
			} else {
				wantNoKid(t, tree, key)
			}
		}
	}
}

func TestKidOf(t *testing.T) {
	tree := mapOf("a aa b", intOf(1), textOf("x"), listOf(mapOf("k", nullOf())))
	wantKid(t, tree, "a", intOf(1))
	wantKid(t, tree, "aa", textOf("x"))
	wantKid(t, tree, "b", listOf(mapOf("k", nullOf())))
	wantNoKid(t, tree, "k")
	wantNoKid(t, tree, "")
	wantNoKid(t, mapOf(""), "")
	wantKid(t, mapOf("a", impl.Tree{}), "a", impl.Tree{})
}

func TestKidOfTreesThatAreNotValid(t *testing.T) {
	wantKid(t, mapOf("b a b", intOf(1), intOf(2), intOf(3)), "b", intOf(1))
	wantKid(t, mapOf("b a b", intOf(1), intOf(2), intOf(3)), "a", intOf(2))
	wantNoKid(t, mapOf("a b", intOf(1)), "a")
	wantNoKid(t, mapOf("a b", intOf(1)), "b")
	wantNoKid(t, mapOf("a", intOf(1), intOf(2)), "a")
	wantNoKid(t, mapOf("a"), "a")
	wantNoKid(t, mapOf("", intOf(1)), "")
	wantNoKid(t, listOf(intOf(1)), "")
	wantNoKid(t, impl.Tree{}, "")
	for _, kid := range badTrees() {
		wantKid(t, mapOf("a b", nullOf(), kid), "b", kid)
	}
}

func TestPutKidAtEachPlace(t *testing.T) {
	tree := mapOf("b d f", intOf(1), intOf(2), intOf(3))
	kid := listOf(textOf("x"))
	wantPut(t, tree, "a", kid, mapOf("a b d f", kid, intOf(1), intOf(2), intOf(3)))
	wantPut(t, tree, "c", kid, mapOf("b c d f", intOf(1), kid, intOf(2), intOf(3)))
	wantPut(t, tree, "e", kid, mapOf("b d e f", intOf(1), intOf(2), kid, intOf(3)))
	wantPut(t, tree, "g", kid, mapOf("b d f g", intOf(1), intOf(2), intOf(3), kid))
	wantPut(t, tree, "b", kid, mapOf("b d f", kid, intOf(2), intOf(3)))
	wantPut(t, tree, "d", kid, mapOf("b d f", intOf(1), kid, intOf(3)))
	wantPut(t, tree, "f", kid, mapOf("b d f", intOf(1), intOf(2), kid))
	wantPut(t, tree, "bb", kid, mapOf("b bb d f", intOf(1), kid, intOf(2), intOf(3)))
	wantPut(t, tree, "D", kid, mapOf("D b d f", kid, intOf(1), intOf(2), intOf(3)))
	wantPut(t, tree, "\xc3\xa9", kid, mapOf("b d f \xc3\xa9", intOf(1), intOf(2), intOf(3), kid))
	wantPut(t, tree, "d", intOf(2), tree)
	wantPut(t, tree, "d", tree, mapOf("b d f", intOf(1), tree, intOf(3)))
}

func TestPutKidIntoAnEmptyMap(t *testing.T) {
	for _, s := range goodStrings() {
		want := impl.Tree{Kind: 6, Keys: []string{s}, Kids: []impl.Tree{textOf(s)}}
		wantPut(t, mapOf(""), s, textOf(s), want)
		wantPut(t, impl.Tree{Kind: 6, Keys: make([]string, 0, 4), Kids: make([]impl.Tree, 0, 4)}, s, textOf(s), want)
		wantPut(t, want, s, nullOf(), impl.Tree{Kind: 6, Keys: []string{s}, Kids: []impl.Tree{nullOf()}})
	}
	for _, s := range badStrings() {
		wantNoPut(t, mapOf(""), s, nullOf())
		wantNoPut(t, mapOf("a", intOf(1)), s, nullOf())
		wantNoPut(t, mapOf("a", intOf(1)), "a", textOf(s))
		wantNoPut(t, mapOf("a", intOf(1)), "b", textOf(s))
	}
}

func TestPutKidAtTheLimitOfSize(t *testing.T) {
	full, almost := wideMap(299), wideMap(298)
	for _, key := range []string{"a", "k000a", "k150a", "z"} {
		wantNoPut(t, full, key, nullOf())
		wantNoPut(t, full, key, listOf())
		wantNoPut(t, almost, key, listOf(nullOf()))
		got, ok := impl.PutKid(almost, key, nullOf())
		if want, _ := putByWords(almost, key, nullOf()); !ok || len(want.Keys) != 299 || !equalTrees(got, want) {
			t.Errorf("PutKid at %q into a map of size 299 = %s, %v", key, brief(got), ok)
		}
	}
	for _, key := range []string{"k000", "k150", "k297"} {
		wantNoPut(t, full, key, listOf(nullOf()))
		wantNoPut(t, almost, key, wideList(2))
		for _, kid := range []impl.Tree{nullOf(), listOf(), mapOf(""), textOf("x")} {
			want, _ := putByWords(full, key, kid)
			wantPut(t, full, key, kid, want)
		}
		want, _ := putByWords(almost, key, wideMap(1))
		wantPut(t, almost, key, wideMap(1), want)
	}
	wantPut(t, mapOf("a b", wideList(297), nullOf()), "a", wideList(297), mapOf("a b", wideList(297), nullOf()))
	wantNoPut(t, mapOf("a b", wideList(297), nullOf()), "a", wideList(298))
	wantPut(t, mapOf("a b", wideList(297), nullOf()), "a", nullOf(), mapOf("a b", nullOf(), nullOf()))
	wantPut(t, mapOf(""), "a", wideList(298), mapOf("a", wideList(298)))
	wantNoPut(t, mapOf(""), "a", wideList(299))
}

func TestPutKidAtTheLimitOfDepth(t *testing.T) {
	deep := mapOf("b", inLists(6, nullOf()))
	for _, key := range []string{"a", "b", "c"} {
		for _, tree := range []impl.Tree{deep, mapOf(""), mapOf("b", nullOf())} {
			for _, end := range []impl.Tree{nullOf(), listOf(), mapOf("")} {
				for _, kid := range []impl.Tree{inLists(6, end), inMaps(6, end), listOf(nullOf(), inMaps(5, end))} {
					want, ok := putByWords(tree, key, kid)
					if !ok || depthOfTree(want) != 8 {
						t.Fatalf("the test has a kid of the wrong depth, %d", depthOfTree(kid))
					}
					wantPut(t, tree, key, kid, want)
				}
				wantNoPut(t, tree, key, inLists(7, end))
				wantNoPut(t, tree, key, inMaps(7, end))
				wantNoPut(t, tree, key, listOf(nullOf(), inMaps(6, end)))
			}
		}
	}
}

func TestPutKidIntoTreesThatAreNoValidMap(t *testing.T) {
	for _, tree := range allTrees() {
		if tree.Kind == 6 && validTree(tree) {
			continue
		}
		for _, key := range append(treeKeys(), tree.Keys...) {
			wantNoPut(t, tree, key, nullOf())
		}
	}
	// The new map would be valid, but the old one is not.
	wantNoPut(t, mapOf("a b", impl.Tree{}, nullOf()), "a", nullOf())
	wantNoPut(t, mapOf("a", inLists(7, nullOf())), "a", nullOf())
	wantNoPut(t, mapOf("a", wideList(299)), "a", nullOf())
	wantNoPut(t, impl.Tree{Kind: 5, Keys: []string{"a"}, Kids: []impl.Tree{nullOf()}}, "a", nullOf())
	wantNoPut(t, mapOf("a", nullOf(), nullOf()), "b", nullOf())
	wantNoPut(t, mapOf("a b", nullOf()), "a", nullOf())
	wantNoPut(t, impl.Tree{}, "a", nullOf())
}

func TestPutKidOfKidsThatAreNotValid(t *testing.T) {
	for _, kid := range badTrees() {
		for _, key := range []string{"a", "b", "bb", "c"} {
			wantNoPut(t, mapOf("b c", nullOf(), intOf(1)), key, kid)
		}
		wantNoPut(t, mapOf(""), "a", kid)
	}
}

// someTrees are enough trees of each sort for a test of all triples.
func someTrees() []impl.Tree {
	list := []impl.Tree{wideMap(297), wideMap(298), wideMap(299), inMaps(7, nullOf()), inLists(6, nullOf()), wideList(297)}
	for i, tree := range allTrees() {
		if i%5 == 0 || tree.Kind == 6 && i%2 == 0 {
			list = append(list, tree)
		}
	}
	return list
}

func TestPutKidAsDocumented(t *testing.T) {
	trees := someTrees()
	for i, tree := range trees {
		for j, kid := range trees {
			for k, key := range append(treeKeys(), tree.Keys[:min(3, len(tree.Keys))]...) {
				if (i+j+k)%7 != 0 {
					continue
				}
				want, wantOk := putByWords(tree, key, kid)
				if got, ok := impl.PutKid(tree, key, kid); ok != wantOk || !equalTrees(got, want) {
					t.Errorf("PutKid(%s, %.40q, %s) = %s, %v; want %s, %v", brief(tree), key, brief(kid), brief(got), ok, brief(want), wantOk)
				}
			}
		}
	}
}

// TestPutKidManyTimes compares a map that is built value by value with one of Go's.
func TestPutKidManyTimes(t *testing.T) {
	r := rand.New(rand.NewSource(8))
	for range 60 {
		tree, values := mapOf(""), map[string]int{}
		for step := range 250 {
			key := string([]byte{"\x00aAbB~"[r.Intn(6)], "ab\x7f"[r.Intn(3)], byte('a' + r.Intn(26))}[:r.Intn(4)])
			put, ok := impl.PutKid(tree, key, intOf(step))
			if values[key] = step; !ok {
				t.Fatalf("PutKid(%s, %q) = false", brief(tree), key)
			}
			tree = put
			wantKid(t, tree, key, intOf(step))
		}
		if keys := slices.Sorted(maps.Keys(values)); !slices.Equal(tree.Keys, keys) || len(tree.Kids) != len(keys) {
			t.Fatalf("the keys are %q; want %q", tree.Keys, keys)
		}
		for key, n := range values {
			wantKid(t, tree, key, intOf(n))
		}
	}
}

func TestTextTreeAndIntTree(t *testing.T) {
	for _, s := range slices.Concat(goodStrings(), badStrings()) {
		if got := impl.TextTree(s); !equalTrees(got, textOf(s)) || impl.TreeOk(got) != validString(s) {
			t.Errorf("TextTree(%.40q) = %s", s, brief(got))
		}
	}
	for _, n := range append(edgeInts(), 0, 1, -1, 42, math.MinInt, math.MaxInt, 1<<32+1) {
		if got := impl.IntTree(n); !equalTrees(got, intOf(n)) || !impl.TreeOk(got) {
			t.Errorf("IntTree(%d) = %s", n, brief(got))
		}
	}
}

func wantListTree(t *testing.T, list []impl.Tree) {
	t.Helper()
	if got, want := impl.ListTree(list), (impl.Tree{Kind: 5, Kids: list}); !equalTrees(got, want) || impl.TreeOk(got) != validTree(want) {
		t.Errorf("ListTree(%s) = %s, TreeOk %v; want TreeOk %v", brief(want), brief(got), impl.TreeOk(got), validTree(want))
	}
}

func TestListTree(t *testing.T) {
	wantListTree(t, nil)
	wantListTree(t, []impl.Tree{})
	wantListTree(t, make([]impl.Tree, 0, 3))
	wantListTree(t, []impl.Tree{{}})
	wantListTree(t, allTrees())
	for i, a := range allTrees() {
		wantListTree(t, []impl.Tree{a})
		wantListTree(t, []impl.Tree{a, a})
		wantListTree(t, []impl.Tree{nullOf(), a, intOf(i)})
	}
	for count := 297; count <= 302; count++ {
		wantListTree(t, wideList(count).Kids)
	}
}

// randomTree is mostly valid.
func randomTree(r *rand.Rand, depth int) impl.Tree {
	t := impl.Tree{Kind: 1 + r.Intn(6)}
	switch t.Kind {
	case 2:
		t.Flag = r.Intn(2) == 1
	case 3:
		t.Num = r.Intn(7) - 3
	case 4:
		t.Text = goodStrings()[r.Intn(len(goodStrings()))]
	case 5, 6:
		for i := range r.Intn(5) {
			if depth == 0 {
				break
			}
			if t.Kind == 6 {
				t.Keys = append(t.Keys, string([]byte{byte('a' + 2*i + r.Intn(2))})+goodStrings()[r.Intn(8)])
			}
			t.Kids = append(t.Kids, randomTree(r, depth-1))
		}
	}
	return t
}

// spoil changes something in t or in one of its descendants.
func spoil(r *rand.Rand, t *impl.Tree, bad []string) {
	if len(t.Kids) > 0 && r.Intn(4) > 0 {
		spoil(r, &t.Kids[r.Intn(len(t.Kids))], bad)
		return
	}
	switch r.Intn(10) {
	case 0:
		t.Kind += r.Intn(7) - 3
	case 1:
		t.Flag = !t.Flag
	case 2:
		t.Num += r.Intn(3) - 1
	case 3:
		t.Text = bad[r.Intn(len(bad))]
	case 4:
		t.Text = goodStrings()[r.Intn(len(goodStrings()))]
	case 5:
		t.Keys = append(t.Keys, string([]byte{byte('a' + r.Intn(12))}))
	case 6:
		t.Kids = append(t.Kids, nullOf())
	case 7:
		t.Keys = t.Keys[:r.Intn(len(t.Keys)+1)]
	case 8:
		t.Kids = t.Kids[:r.Intn(len(t.Kids)+1)]
	case 9:
		r.Shuffle(len(t.Keys), func(i, j int) { t.Keys[i], t.Keys[j] = t.Keys[j], t.Keys[i] })
	}
}

func TestRandomTreesAsDocumented(t *testing.T) {
	r := rand.New(rand.NewSource(88))
	accepted, bad := 0, badStrings()
	for range 20000 {
		tree := randomTree(r, r.Intn(10))
		other := roomy(tree)
		for range r.Intn(3) {
			spoil(r, &other, bad)
		}
		want := validTree(other)
		if want {
			accepted++
		}
		if impl.TreeOk(other) != want {
			t.Errorf("TreeOk(%s) = %v; want %v", brief(other), !want, want)
		}
		wantMeasures(t, other, sizeOfTree(other), depthOfTree(other), leavesOfTree(other))
		wantSameTree(t, tree, other, equalTrees(tree, other))
	}
	if accepted < 5000 || accepted > 15000 {
		t.Errorf("%d of 20000 random trees are valid", accepted)
	}
}

func TestTreesReturnedAreNewMemory(t *testing.T) {
	trees := someTrees()
	for i, tree := range trees {
		kid := trees[(7*i+3)%len(trees)]
		if i%3 > 0 {
			kid = listOf(textOf("x"), mapOf("a b", listOf(), wideMap(2)))
		}
		keys := append(treeKeys(), tree.Keys[:min(3, len(tree.Keys))]...)
		for k, key := range keys {
			wantNewMemory(t, "KidOf", func(args []impl.Tree) []impl.Tree {
				got, _ := impl.KidOf(args[0], key)
				again, _ := impl.KidOf(args[0], key)
				return []impl.Tree{got, again}
			}, roomy(tree))
			if k%3 == i%3 || k >= len(treeKeys()) {
				wantNewMemory(t, "PutKid", func(args []impl.Tree) []impl.Tree {
					got, _ := impl.PutKid(args[0], key, args[1])
					again, _ := impl.PutKid(args[0], key, args[1])
					return []impl.Tree{got, again}
				}, roomy(tree), roomy(kid))
			}
		}
		wantNewMemory(t, "ListTree", func(args []impl.Tree) []impl.Tree {
			return []impl.Tree{impl.ListTree(args[0].Kids), impl.ListTree(args), impl.ListTree([]impl.Tree{args[0], args[1], args[0]})}
		}, roomy(tree), roomy(kid))
	}
}

func TestTreesThatStandTwiceAreNewMemory(t *testing.T) {
	m := roomy(mapOf("a b", listOf(textOf("x")), mapOf("c", nullOf())))
	twice := roomy(mapOf("a", nullOf()))
	twice.Keys, twice.Kids = []string{"a", "b", "c"}, []impl.Tree{m, m, listOf(m, m)}
	for _, arg := range []impl.Tree{m, twice, {Kind: 6, Keys: []string{"a"}, Kids: []impl.Tree{listOf(m, m)}}, {Kind: 9, Keys: m.Keys, Kids: []impl.Tree{m, m}}, {Kind: 5, Keys: m.Keys[:1], Kids: []impl.Tree{m, twice, m}}} {
		wantNewMemory(t, "a function", func(args []impl.Tree) []impl.Tree {
			t := args[0]
			put, _ := impl.PutKid(t, "a", t)
			added, _ := impl.PutKid(t, "x", t)
			refused, _ := impl.PutKid(t, "\xff", t)
			into, _ := impl.PutKid(mapOf("a", nullOf()), "b", t)
			kid, _ := impl.KidOf(t, "a")
			last, _ := impl.KidOf(t, "c")
			return []impl.Tree{put, added, refused, into, kid, last, impl.ListTree([]impl.Tree{t, t}), impl.ListTree(t.Kids)}
		}, arg)
	}
}

func TestTreesAreNotChangedByQuestions(t *testing.T) {
	for _, tree := range allTrees() {
		wantNewMemory(t, "a question", func(args []impl.Tree) []impl.Tree {
			impl.TreeOk(args[0])
			impl.TreeSize(args[0])
			impl.TreeDepth(args[0])
			impl.LeavesOf(args[0])
			impl.SameTree(args[0], args[1])
			impl.SameTree(args[1], listOf(args[0]))
			impl.KeyAt(args[0], "a")
			return nil
		}, roomy(tree), roomy(tree))
	}
}

// Trees may be far deeper than MaxDepth; the small stack stands for trees that need more than the greatest one.
func TestTreesDeeperThanTheStack(t *testing.T) {
	defer debug.SetMaxStack(debug.SetMaxStack(1 << 23))
	const count = 300000
	a, b, other := inLists(count, intOf(1)), inLists(count, intOf(1)), inLists(count, intOf(2))
	if impl.TreeSize(a) != count+1 || impl.TreeDepth(a) != count+1 || impl.LeavesOf(a) != 1 || impl.TreeOk(a) || !impl.SameTree(a, b) || impl.SameTree(a, other) || impl.SameTree(a, listOf(b)) {
		t.Error("a measure of a deep tree is wrong")
	}
	m := mapOf("a b", a, nullOf())
	kid, ok := impl.KidOf(m, "a")
	put, right := impl.PutKid(m, "b", nullOf())
	refused, wrong := impl.PutKid(mapOf("a", nullOf()), "a", a)
	if !ok || !impl.SameTree(kid, a) || right || !impl.SameTree(put, m) || wrong || !equalTrees(refused, mapOf("a", nullOf())) || impl.TreeDepth(impl.ListTree([]impl.Tree{nullOf(), a})) != count+2 {
		t.Error("a copy of a deep tree is wrong")
	}
}

// A tree that contains itself has no size, and one that contains another one twice at each of many depths a very great one; both are refused.
func TestTreesWithoutEnd(t *testing.T) {
	loop, doubled := listOf(nullOf(), nullOf()), nullOf()
	loop.Kids[1] = loop
	keys := mapOf("a", nullOf())
	keys.Kids[0] = keys
	for range 100 {
		doubled = listOf(doubled, doubled)
	}
	small := mapOf("a b", intOf(1), intOf(2))
	for i, endless := range []impl.Tree{loop, keys, doubled} {
		got, ok := impl.PutKid(small, "a", endless)
		added, also := impl.PutKid(small, "c", endless)
		_, found := impl.KidOf(mapOf("a", endless), "b")
		if impl.TreeOk(endless) || impl.TreeOk(mapOf("a", endless)) || ok || also || !equalTrees(got, small) || !equalTrees(added, small) || found || impl.KeyAt(endless, "b") != -1 {
			t.Errorf("the endless tree %d is accepted", i)
		}
		if impl.SameTree(endless, small) || impl.SameTree(inLists(20, nullOf()), endless) {
			t.Errorf("the endless tree %d is the same as another one", i)
		}
	}
}
