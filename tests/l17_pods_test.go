package tests

import (
	"fmt"
	"math"
	"math/big"
	"math/rand"
	"reflect"
	"slices"
	"strings"
	"testing"
	"unsafe"

	"loop.example/g00968/impl"
)

// The following functions say what the document says.

func podByWords(p impl.Pod) bool {
	listsOk := labelsByWords(p.Labels) && selectorByWords(p.Needs) && toleranceKind().listByWords(p.Tolerances)
	return nameWords.MatchString(p.Name) && listsOk && p.Cpu >= 0 && p.Mem >= 0 && p.Rank >= 0 && p.Rank <= 1000
}

func hostByWords(h impl.Host) bool {
	listsOk := labelsByWords(h.Labels) && taintKind().listByWords(h.Taints)
	return nameWords.MatchString(h.Name) && listsOk && h.Cpu >= 0 && h.Mem >= 0 && h.Slots >= 1 && h.Slots <= 20
}

func normalPodByWords(p impl.Pod) (impl.Pod, bool) {
	normal, labelsOk, needsOk, tolerancesOk := p, false, false, false
	normal.Labels, labelsOk = sortedByWords(p.Labels)
	normal.Needs, needsOk = sortedNeedsByWords(p.Needs)
	normal.Tolerances, tolerancesOk = toleranceKind().sortedByWords(p.Tolerances)
	if !labelsOk || !needsOk || !tolerancesOk || !podByWords(normal) {
		return p, false
	}
	return normal, true
}

func normalHostByWords(h impl.Host) (impl.Host, bool) {
	normal, labelsOk, taintsOk := h, false, false
	normal.Labels, labelsOk = sortedByWords(h.Labels)
	normal.Taints, taintsOk = taintKind().sortedByWords(h.Taints)
	if !labelsOk || !taintsOk || !hostByWords(normal) {
		return h, false
	}
	return normal, true
}

// clonePod and cloneHost copy all lists, and an empty one becomes nil.
func clonePod(p impl.Pod) impl.Pod {
	p.Labels, p.Needs, p.Tolerances = slices.Concat(p.Labels), slices.Concat(p.Needs), slices.Concat(p.Tolerances)
	for i := range p.Needs {
		p.Needs[i].Values = slices.Concat(p.Needs[i].Values)
	}
	return p
}

func cloneHost(h impl.Host) impl.Host {
	h.Labels, h.Taints = slices.Concat(h.Labels), slices.Concat(h.Taints)
	return h
}

func samePodByWords(a impl.Pod, b impl.Pod) bool {
	return reflect.DeepEqual(clonePod(a), clonePod(b))
}

func sameHostByWords(a impl.Host, b impl.Host) bool {
	return reflect.DeepEqual(cloneHost(a), cloneHost(b))
}

func sumByWords(list []impl.Pod, amountOf func(p impl.Pod) int) (int, bool) {
	sum := new(big.Int)
	for _, p := range list {
		if amountOf(p) < 0 {
			return 0, false
		}
		sum.Add(sum, big.NewInt(int64(amountOf(p))))
	}
	return int(sum.Int64()), sum.IsInt64()
}

func sumsByWords(list []impl.Pod) (int, int, bool) {
	cpu, cpuOk := sumByWords(list, func(p impl.Pod) int { return p.Cpu })
	mem, memOk := sumByWords(list, func(p impl.Pod) int { return p.Mem })
	if !cpuOk || !memOk {
		return 0, 0, false
	}
	return cpu, mem, true
}

// A field is one field of a pod or a host, with functions that set it: to valid values, to values that are valid only when they are sorted, and to values that are not valid either way.
type field[T any] struct {
	name     string
	good     []func(object *T)
	unsorted []func(object *T)
	bad      []func(object *T)
}

func fieldOf[T, V any](name string, set func(object *T, value V), good []V, unsorted []V, bad []V) field[T] {
	setters := func(values []V) []func(object *T) {
		list := []func(object *T){}
		for _, value := range values {
			list = append(list, func(object *T) { set(object, value) })
		}
		return list
	}
	return field[T]{name, setters(good), setters(unsorted), setters(bad)}
}

// some are about count of all functions that set the field.
func (f field[T]) some(count int) []func(object *T) {
	list := []func(object *T){}
	for _, sets := range [][]func(object *T){f.good, f.unsorted, f.bad} {
		for i := 0; i < len(sets); i += 1 + 3*len(sets)/count {
			list = append(list, sets[i])
		}
	}
	return list
}

// An objectKind is either pods or hosts, with the functions of the chapter and some of each.
type objectKind[T any] struct {
	name        string
	ok          func(T) bool
	normal      func(T) (T, bool)
	same        func(a, b T) bool
	okWords     func(T) bool
	normalWords func(T) (T, bool)
	sameWords   func(a, b T) bool
	clone       func(T) T
	tidy        func() T // valid
	untidy      func() T // valid only when it is normalized, with each list out of order
	fields      func() []field[T]
}

func podKind() objectKind[impl.Pod] {
	return objectKind[impl.Pod]{"Pod", impl.PodOk, impl.PodNormal, impl.SamePod, podByWords, normalPodByWords, samePodByWords, clonePod, tidyPod, untidyPod, podFields}
}

func hostKind() objectKind[impl.Host] {
	return objectKind[impl.Host]{"Host", impl.HostOk, impl.HostNormal, impl.SameHost, hostByWords, normalHostByWords, sameHostByWords, cloneHost, tidyHost, untidyHost, hostFields}
}

func tidyPod() impl.Pod {
	needs := []impl.Need{needOf("gpu", 3), needOf("zone", 1, "a", "b", "c"), needOf("zone", 2, "d", "e")}
	return impl.Pod{Name: "web-1", Labels: labelsOf("app", "web", "rev", "", "tier", "9"), Cpu: 500, Mem: 3000, Rank: 7, Needs: needs, Tolerances: []impl.Tolerance{withKey("", 2), withKey("gpu", 0), withPair("gpu", "a", 1)}}
}

func untidyPod() impl.Pod {
	needs := []impl.Need{needOf("zone", 2, "e", "d", "e"), needOf("zone", 1, "c", "a", "b"), needOf("gpu", 3), needOf("zone", 1, "b", "c", "a", "a")}
	return impl.Pod{Name: "web-1", Labels: labelsOf("tier", "9", "app", "web", "rev", ""), Cpu: 500, Mem: 3000, Rank: 7, Needs: needs, Tolerances: []impl.Tolerance{withPair("gpu", "a", 1), withKey("gpu", 0), withKey("", 2), withKey("gpu", 0)}}
}

func tidyHost() impl.Host {
	return impl.Host{Name: "node-1", Labels: labelsOf("app", "web", "rev", "", "tier", "9"), Cpu: 4000, Mem: 8000, Slots: 12, Taints: []impl.Taint{taintOf("gpu", "", 2), taintOf("gpu", "a", 1), taintOf("old", "x", 1)}}
}

func untidyHost() impl.Host {
	return impl.Host{Name: "node-1", Labels: labelsOf("tier", "9", "app", "web", "rev", ""), Cpu: 4000, Mem: 8000, Slots: 12, Taints: []impl.Taint{taintOf("old", "x", 1), taintOf("gpu", "a", 1), taintOf("gpu", "", 2), taintOf("gpu", "a", 1)}}
}

func podFields() []field[impl.Pod] {
	k := toleranceKind()
	return []field[impl.Pod]{
		fieldOf("Name", func(p *impl.Pod, name string) { p.Name = name }, goodNames(), nil, badNames()),
		fieldOf("Labels", func(p *impl.Pod, list []impl.Label) { p.Labels = slices.Clone(list) }, goodLists(), unsortedLabels(), badLists()),
		fieldOf("Cpu", func(p *impl.Pod, n int) { p.Cpu = n }, edgeAmounts(), nil, negativeInts()),
		fieldOf("Mem", func(p *impl.Pod, n int) { p.Mem = n }, edgeAmounts(), nil, negativeInts()),
		fieldOf("Rank", func(p *impl.Pod, n int) { p.Rank = n }, []int{0, 1, 2, 10, 255, 256, 500, 998, 999, 1000}, nil, outside(0, 1000)),
		fieldOf("Needs", func(p *impl.Pod, list []impl.Need) { p.Needs = cloneNeeds(list) }, goodSelectors(), unsortedNeeds(), unsortableNeeds()),
		fieldOf("Tolerances", func(p *impl.Pod, list []impl.Tolerance) { p.Tolerances = slices.Clone(list) }, k.lists(), k.unsorted(), k.unsortable()),
	}
}

func hostFields() []field[impl.Host] {
	k := taintKind()
	return []field[impl.Host]{
		fieldOf("Name", func(h *impl.Host, name string) { h.Name = name }, goodNames(), nil, badNames()),
		fieldOf("Labels", func(h *impl.Host, list []impl.Label) { h.Labels = slices.Clone(list) }, goodLists(), unsortedLabels(), badLists()),
		fieldOf("Cpu", func(h *impl.Host, n int) { h.Cpu = n }, edgeAmounts(), nil, negativeInts()),
		fieldOf("Mem", func(h *impl.Host, n int) { h.Mem = n }, edgeAmounts(), nil, negativeInts()),
		fieldOf("Slots", func(h *impl.Host, n int) { h.Slots = n }, []int{1, 2, 3, 9, 10, 11, 16, 18, 19, 20}, nil, outside(1, 20)),
		fieldOf("Taints", func(h *impl.Host, list []impl.Taint) { h.Taints = slices.Clone(list) }, k.lists(), k.unsorted(), k.unsortable()),
	}
}

func goodNames() []string {
	names := []string{"web", "web-1", "0", "a--b", "9-z", "node-pool-7"}
	for size := 1; size <= 20; size++ {
		names = append(names, strings.Repeat("n", size))
	}
	return append(names, "n"+strings.Repeat("-", 18)+"0")
}

func badNames() []string {
	names := []string{"", " ", "-", "--", "-a", "a-", "-a-", "A", "Web", "weB", "a b", " a", "a ", "a_b", "a.b", "a/b", "a=b", "a,b", "a\x00", "a\n", "\n", "\xc3\xa9", "a\xffb"}
	for _, size := range []int{21, 22, 40, 255, 256, 257, 276, 1 << 16, 1<<16 + 5} {
		names = append(names, strings.Repeat("n", size))
	}
	return append(names, "n"+strings.Repeat("-", 19)+"0")
}

func negativeInts() []int {
	return slices.DeleteFunc(edgeInts(), func(n int) bool { return n >= 0 })
}

// outside are ints below least and above most, also ones of which the lowest bits are between these.
func outside(least int, most int) []int {
	list := []int{least - 1, least - 2, least - 1000, most + 1, most + 2, most + 1000, -most, -most - 1}
	for _, n := range edgeInts() {
		if n < least || n > most {
			list = append(list, n)
		}
	}
	for _, bits := range []int{16, 31, 32, 62} {
		list = append(list, 1<<bits+most, -1<<bits+least, -1<<bits+most)
	}
	return list
}

// ordersOf are all orders of a list but its own.
func ordersOf[T comparable](list []T) [][]T {
	return slices.DeleteFunc(orders(list), func(order []T) bool { return slices.Equal(order, list) })
}

func unsortedLabels() [][]impl.Label {
	lists := [][]impl.Label{}
	for _, list := range goodLists() {
		if len(list) <= 4 {
			lists = append(lists, ordersOf(list)...)
		} else {
			lists = append(lists, reversed(list), append(list[1:len(list):len(list)], list[0]))
		}
	}
	return append(lists, ordersOf(numbered(6))...)
}

func unsortedNeeds() [][]impl.Need {
	lists := [][]impl.Need{}
	for _, list := range goodSelectors() {
		lists = append(lists, orders(list)...)
		for at, n := range list {
			lists = append(lists, slices.Insert(cloneNeeds(list), at, n), append(cloneNeeds(list), n, n))
			lists = append(lists, withNeed(list, at, needOf(n.Key, n.Op, reversed(n.Values)...)), withNeed(list, at, needOf(n.Key, n.Op, append(n.Values, n.Values...)...)))
		}
		if len(list) > 0 {
			lists = append(lists, cycle(40, list...), cycle(40, reversed(list)...))
		}
	}
	for _, order := range orders([]string{"", "a", "a-b", "b"}) {
		lists = append(lists, []impl.Need{needOf("k", 1, order...)}, []impl.Need{needOf("k", 2, order...), needOf("a", 3)}, []impl.Need{needOf("k", 2, cycle(40, order...)...), needOf("k", 1, order[0], order[0])})
	}
	return slices.DeleteFunc(lists, selectorByWords)
}

// unsortableNeeds are lists that SortNeeds rejects.
func unsortableNeeds() [][]impl.Need {
	lists := badSelectors()
	for _, list := range badSelectors() {
		lists = append(lists, reversed(list))
	}
	for count := 1; count <= 4; count++ {
		lists = append(lists, cycle(41, numberedNeeds(count)...), cycle(300, numberedNeeds(count)...))
		for at := range count {
			for _, values := range [][]string{cycle(41, "x"), cycle(41, "y", "x"), cycle(1000, "d", "c", "b", "a"), manyValues(5), reversed(manyValues(40))} {
				lists = append(lists, withNeed(numberedNeeds(count), at, needOf("k", 1, values...)), withNeed(numberedNeeds(count), at, needOf("k", 2, values...)))
			}
		}
	}
	for count := 5; count <= 9; count++ {
		lists = append(lists, numberedNeeds(count), reversed(numberedNeeds(count)), cycle(40, numberedNeeds(count)...))
	}
	return append(lists, cycle(41, needOf("a", 3)), cycle(41, needOf("b", 1, "y", "x"), needOf("a", 3)))
}

// unsorted are lists that are valid only when they are sorted.
func (k listKind[T]) unsorted() [][]T {
	lists := [][]T{}
	for _, list := range k.lists() {
		lists = append(lists, ordersOf(list)...)
		for at, element := range list {
			lists = append(lists, slices.Insert(slices.Clone(list), at, element))
		}
		if len(list) > 0 {
			lists = append(lists, cycle(40, list...), cycle(40, reversed(list)...), cycle(2*len(list), reversed(list)...))
		}
	}
	return lists
}

// unsortable are lists that cannot be sorted.
func (k listKind[T]) unsortable() [][]T {
	lists := k.badLists()
	for count := 1; count <= 4; count++ {
		lists = append(lists, cycle(41, k.numbered(count)...), cycle(300, reversed(k.numbered(count))...))
	}
	for count := 5; count <= 9; count++ {
		lists = append(lists, reversed(k.numbered(count)), cycle(40, k.numbered(count)...), cycle(count+1, k.ordered()[:count]...))
	}
	good := k.numbered(3)
	for _, bad := range k.bad() {
		lists = append(lists, []T{bad}, []T{bad, good[1], good[0]}, []T{good[2], bad, good[2]}, append(cycle(39, good...), bad))
	}
	return lists
}

// told is what a message says of a pod or a host, of a long one only the beginning.
func told(object any) string {
	text := fmt.Sprintf("%+q", object)
	return text[:min(len(text), 700)]
}

// with is object, changed by each function in turn.
func (k objectKind[T]) with(object T, sets ...func(object *T)) T {
	changed := k.clone(object)
	for _, set := range sets {
		set(&changed)
	}
	return changed
}

func (k objectKind[T]) wantOk(t *testing.T, want bool, objects ...T) {
	t.Helper()
	for _, object := range objects {
		if got := k.ok(object); got != want {
			t.Errorf("%sOk(%s) = %v; want %v", k.name, told(object), got, want)
		}
	}
}

// wantNormal also checks that the result is valid and its own normal form.
func (k objectKind[T]) wantNormal(t *testing.T, object T, want T) {
	t.Helper()
	got, ok := k.normal(object)
	if !k.sameWords(got, want) || !ok {
		t.Errorf("%sNormal(%s) = %s, %v; want %s, true", k.name, told(object), told(got), ok, told(want))
	}
	if again, okAgain := k.normal(got); !k.sameWords(again, got) || !okAgain || !k.ok(got) {
		t.Errorf("%sNormal(%s) is not its own normal form: %s, %v", k.name, told(object), told(again), okAgain)
	}
}

func (k objectKind[T]) wantNotNormal(t *testing.T, objects ...T) {
	t.Helper()
	for _, object := range objects {
		if got, ok := k.normal(object); !k.sameWords(got, object) || ok {
			t.Errorf("%sNormal(%s) = %s, %v; want it as it was, false", k.name, told(object), told(got), ok)
		}
	}
}

func (k objectKind[T]) wantSame(t *testing.T, want bool, a T, b T) {
	t.Helper()
	if k.same(a, b) != want || k.same(b, a) != want {
		t.Errorf("Same%s(%s, %s) = %v, swapped %v; want %v", k.name, told(a), told(b), k.same(a, b), k.same(b, a), want)
	}
}

func (k objectKind[T]) wantAsDocumented(t *testing.T, object T) {
	t.Helper()
	k.wantOk(t, k.okWords(object), object)
	if normal, ok := k.normalWords(object); ok {
		k.wantNormal(t, object, normal)
	} else {
		k.wantNotNormal(t, object)
	}
}

func TestPodConstants(t *testing.T) {
	if impl.MaxRank != 1000 || impl.MaxSlots != 20 {
		t.Errorf("MaxRank, MaxSlots = %d, %d; want 1000, 20", impl.MaxRank, impl.MaxSlots)
	}
}

func (k objectKind[T]) areAsNamed(t *testing.T) {
	t.Helper()
	if normal, ok := k.normalWords(k.untidy()); !k.okWords(k.tidy()) || k.okWords(k.untidy()) || !ok || !k.sameWords(normal, k.tidy()) {
		t.Errorf("%s or %s is not as it is named", told(k.tidy()), told(k.untidy()))
	}
	for _, f := range k.fields() {
		if len(f.good) < 10 || len(f.bad) < 10 {
			t.Errorf("%s has only %d valid values and %d others", f.name, len(f.good), len(f.bad))
		}
		for _, set := range f.good {
			if !k.okWords(k.with(k.tidy(), set)) {
				t.Errorf("%s is not valid", told(k.with(k.tidy(), set)))
			}
		}
		for _, set := range f.unsorted {
			if _, ok := k.normalWords(k.with(k.tidy(), set)); !ok || k.okWords(k.with(k.tidy(), set)) {
				t.Errorf("%s is valid or cannot be sorted", told(k.with(k.tidy(), set)))
			}
		}
		for _, set := range f.bad {
			if _, ok := k.normalWords(k.with(k.tidy(), set)); ok || k.okWords(k.with(k.tidy(), set)) {
				t.Errorf("%s is valid or can be sorted", told(k.with(k.tidy(), set)))
			}
		}
	}
}

func TestPodsOfTheTestsAreAsNamed(t *testing.T) {
	podKind().areAsNamed(t)
	hostKind().areAsNamed(t)
}

func TestPodOkOfKnownPods(t *testing.T) {
	k := podKind()
	k.wantOk(t, true, tidyPod(), impl.Pod{Name: "a"}, impl.Pod{Name: "a", Labels: []impl.Label{}, Needs: []impl.Need{}, Tolerances: []impl.Tolerance{}}, impl.Pod{Name: strings.Repeat("a", 20), Cpu: math.MaxInt, Mem: math.MaxInt, Rank: 1000}, impl.Pod{Name: "a", Needs: []impl.Need{{Key: "gpu", Op: impl.NdHas}}, Tolerances: []impl.Tolerance{{}}})
	k.wantOk(t, false, untidyPod(), impl.Pod{}, impl.Pod{Cpu: 1, Mem: 1, Rank: 1}, impl.Pod{Name: "A"}, impl.Pod{Name: strings.Repeat("a", 21)}, impl.Pod{Name: "a", Cpu: -1}, impl.Pod{Name: "a", Mem: -1}, impl.Pod{Name: "a", Rank: -1}, impl.Pod{Name: "a", Rank: 1001}, impl.Pod{Name: "a", Labels: labelsOf("b", "", "a", "")}, impl.Pod{Name: "a", Needs: []impl.Need{{}}}, impl.Pod{Name: "a", Tolerances: []impl.Tolerance{{}, {}}})
}

func TestHostOkOfKnownHosts(t *testing.T) {
	k := hostKind()
	k.wantOk(t, true, tidyHost(), impl.Host{Name: "h", Slots: 1}, impl.Host{Name: "h", Slots: 20, Labels: []impl.Label{}, Taints: []impl.Taint{}}, impl.Host{Name: strings.Repeat("h", 20), Cpu: math.MaxInt, Mem: math.MaxInt, Slots: 1}, impl.Host{Name: "h", Slots: 2, Taints: []impl.Taint{taintOf("a", "", 1)}})
	k.wantOk(t, false, untidyHost(), impl.Host{}, impl.Host{Slots: 1}, impl.Host{Name: "h"}, impl.Host{Name: "H", Slots: 1}, impl.Host{Name: strings.Repeat("h", 21), Slots: 1}, impl.Host{Name: "h", Cpu: -1, Slots: 1}, impl.Host{Name: "h", Mem: -1, Slots: 1}, impl.Host{Name: "h", Slots: -1}, impl.Host{Name: "h", Slots: 21}, impl.Host{Name: "h", Slots: 1, Labels: labelsOf("b", "", "a", "")}, impl.Host{Name: "h", Slots: 1, Taints: []impl.Taint{{}}})
}

func (k objectKind[T]) eachValidField(t *testing.T) {
	t.Helper()
	for _, f := range k.fields() {
		for _, set := range f.good {
			valid, untidy := k.with(k.tidy(), set), k.with(k.untidy(), set)
			k.wantOk(t, true, valid)
			k.wantNormal(t, valid, valid)
			k.wantNormal(t, untidy, valid)
		}
	}
}

func TestPodsWithEachValidField(t *testing.T) { podKind().eachValidField(t) }

func TestHostsWithEachValidField(t *testing.T) { hostKind().eachValidField(t) }

// A list that is out of order or has duplicates is not valid, but its normal form is.
func (k objectKind[T]) eachUnsortedField(t *testing.T) {
	t.Helper()
	for _, f := range k.fields() {
		for _, set := range f.unsorted {
			tidy, untidy := k.with(k.tidy(), set), k.with(k.untidy(), set)
			normal, _ := k.normalWords(tidy)
			k.wantOk(t, false, tidy, untidy)
			k.wantNormal(t, tidy, normal)
			k.wantNormal(t, untidy, normal)
		}
	}
}

func TestPodsWithEachUnsortedField(t *testing.T) { podKind().eachUnsortedField(t) }

func TestHostsWithEachUnsortedField(t *testing.T) { hostKind().eachUnsortedField(t) }

// The other fields are valid, sorted or not, and keep their order.
func (k objectKind[T]) eachFieldThatIsNotValid(t *testing.T) {
	t.Helper()
	for _, f := range k.fields() {
		for _, set := range f.bad {
			tidy, untidy := k.with(k.tidy(), set), k.with(k.untidy(), set)
			k.wantOk(t, false, tidy, untidy)
			k.wantNotNormal(t, tidy, untidy)
		}
	}
}

func TestPodsWithEachFieldThatIsNotValid(t *testing.T) { podKind().eachFieldThatIsNotValid(t) }

func TestHostsWithEachFieldThatIsNotValid(t *testing.T) { hostKind().eachFieldThatIsNotValid(t) }

// oneOf sets a field to one of several values, and leaves it if there are none.
func oneOf[T any](r *rand.Rand, sets []func(object *T)) func(object *T) {
	if len(sets) == 0 {
		return func(object *T) {}
	}
	return sets[r.Intn(len(sets))]
}

// Each set of fields is not valid, and the others are.
func (k objectKind[T]) eachSetOfFieldsThatAreNotValid(t *testing.T) {
	t.Helper()
	r := rand.New(rand.NewSource(17))
	fields := k.fields()
	for chosen := range 1 << len(fields) {
		for range 20 {
			tidy, untidy := k.tidy(), k.untidy()
			for i, f := range fields {
				if chosen>>i&1 == 1 {
					set := oneOf(r, f.bad)
					tidy, untidy = k.with(tidy, set), k.with(untidy, set)
				} else {
					set := oneOf(r, f.good)
					tidy, untidy = k.with(tidy, set), k.with(untidy, set, oneOf(r, f.unsorted))
				}
			}
			k.wantOk(t, chosen == 0, tidy)
			if chosen > 0 {
				k.wantNotNormal(t, tidy, untidy)
			} else {
				normal, _ := k.normalWords(untidy)
				k.wantNormal(t, tidy, tidy)
				k.wantNormal(t, untidy, normal)
			}
		}
	}
}

func TestPodsWithEachSetOfFieldsThatAreNotValid(t *testing.T) {
	podKind().eachSetOfFieldsThatAreNotValid(t)
}

func TestHostsWithEachSetOfFieldsThatAreNotValid(t *testing.T) {
	hostKind().eachSetOfFieldsThatAreNotValid(t)
}

func (k objectKind[T]) eachInt(t *testing.T, name string, least int, most int, set func(object *T, n int)) {
	t.Helper()
	for _, n := range slices.Concat(edgeInts(), outside(least, most), []int{least, most}) {
		k.wantOk(t, n >= least && n <= most, k.with(k.tidy(), func(object *T) { set(object, n) }))
	}
	for n := -300; n <= 1300; n++ {
		object := k.with(k.tidy(), func(object *T) { set(object, n) })
		if got := k.ok(object); got != (n >= least && n <= most) {
			t.Errorf("%sOk with %s %d is %v", k.name, name, n, got)
		}
		if _, got := k.normal(object); got != (n >= least && n <= most) {
			t.Errorf("%sNormal with %s %d gives %v", k.name, name, n, got)
		}
	}
}

func TestPodsWithEachInt(t *testing.T) {
	podKind().eachInt(t, "Cpu", 0, math.MaxInt, func(p *impl.Pod, n int) { p.Cpu = n })
	podKind().eachInt(t, "Mem", 0, math.MaxInt, func(p *impl.Pod, n int) { p.Mem = n })
	podKind().eachInt(t, "Rank", 0, impl.MaxRank, func(p *impl.Pod, n int) { p.Rank = n })
}

func TestHostsWithEachInt(t *testing.T) {
	hostKind().eachInt(t, "Cpu", 0, math.MaxInt, func(h *impl.Host, n int) { h.Cpu = n })
	hostKind().eachInt(t, "Mem", 0, math.MaxInt, func(h *impl.Host, n int) { h.Mem = n })
	hostKind().eachInt(t, "Slots", 1, impl.MaxSlots, func(h *impl.Host, n int) { h.Slots = n })
}

func TestPodsAndHostsWithEachName(t *testing.T) {
	for _, name := range slices.Concat(goodNames(), badNames(), wordsOfEachLength(), goodKeys(), textsOf(4, "a", "z", "0", "-", "A", "_")) {
		want := nameWords.MatchString(name)
		p, h := tidyPod(), tidyHost()
		p.Name, h.Name = name, name
		podKind().wantOk(t, want, p, impl.Pod{Name: name})
		hostKind().wantOk(t, want, h, impl.Host{Name: name, Slots: 1})
	}
}

// A field of one kind is not limited by the limit of the other.
func TestLimitsOfPodsAndHostsDiffer(t *testing.T) {
	podKind().wantOk(t, true, impl.Pod{Name: "a", Rank: 0}, impl.Pod{Name: "a", Rank: 21})
	hostKind().wantOk(t, false, impl.Host{Name: "h", Slots: 0}, impl.Host{Name: "h", Slots: 1000})
	p, h := tidyPod(), tidyHost()
	p.Cpu, p.Mem, h.Cpu, h.Mem = math.MaxInt, 0, 0, math.MaxInt
	podKind().wantOk(t, true, p)
	hostKind().wantOk(t, true, h)
}

// Each list of the pod has each order, also together with the others.
func TestPodNormalOfEachOrder(t *testing.T) {
	p := tidyPod()
	for _, labels := range orders(p.Labels) {
		for _, needs := range orders(p.Needs) {
			for _, tolerances := range orders(p.Tolerances) {
				for _, values := range orders([]string{"a", "b", "c"}) {
					other := clonePod(p)
					other.Labels, other.Needs, other.Tolerances = labels, cloneNeeds(needs), tolerances
					at := slices.IndexFunc(needs, func(n impl.Need) bool { return n.Op == 1 })
					other.Needs[at].Values = values
					podKind().wantNormal(t, other, p)
				}
			}
		}
	}
}

func TestHostNormalOfEachOrder(t *testing.T) {
	h := tidyHost()
	for _, labels := range orders(h.Labels) {
		for _, taints := range orders(h.Taints) {
			other := cloneHost(h)
			other.Labels, other.Taints = labels, taints
			hostKind().wantNormal(t, other, h)
		}
	}
}

// The result does not depend on the order of elements that are there several times.
func TestPodNormalOfDuplicates(t *testing.T) {
	p := tidyPod()
	for i, n := range p.Needs {
		for _, needs := range orders(append(cloneNeeds(p.Needs), n)) {
			other := clonePod(p)
			other.Needs = needs
			podKind().wantNormal(t, other, p)
			other.Tolerances = append(slices.Clone(p.Tolerances), p.Tolerances[i], p.Tolerances[i])
			podKind().wantNormal(t, other, p)
		}
		for _, tolerances := range orders(append(slices.Clone(p.Tolerances), p.Tolerances[i])) {
			other := clonePod(p)
			other.Tolerances = tolerances
			podKind().wantNormal(t, other, p)
		}
	}
	for _, values := range orders([]string{"c", "a", "b", "a", "c"}) {
		other := clonePod(p)
		other.Needs = append(other.Needs, needOf("zone", 1, values...))
		podKind().wantNormal(t, other, p)
	}
}

func TestHostNormalOfDuplicates(t *testing.T) {
	h := tidyHost()
	for _, x := range h.Taints {
		for _, taints := range orders(append(slices.Clone(h.Taints), x)) {
			other := cloneHost(h)
			other.Taints = taints
			hostKind().wantNormal(t, other, h)
		}
	}
}

// Of labels, no duplicates are removed.
func TestNormalFormsOfDuplicateLabels(t *testing.T) {
	for count := 1; count <= 5; count++ {
		for _, value := range []string{"v0", "", "other"} {
			for at := range count + 1 {
				labels := slices.Insert(numbered(count), at, impl.Label{Key: "k0", Value: value})
				p, h := untidyPod(), untidyHost()
				p.Labels, h.Labels = labels, labels
				podKind().wantOk(t, false, p)
				hostKind().wantOk(t, false, h)
				podKind().wantNotNormal(t, p)
				hostKind().wantNotNormal(t, h)
			}
		}
	}
}

// The labels, needs and tolerations are as many as allowed, and one more.
func TestPodsWithListsAtTheirLimits(t *testing.T) {
	k := toleranceKind()
	for more := range 1 << 3 {
		labels, needs, tolerances := numbered(6+more&1), numberedNeeds(4+more>>1&1), k.numbered(4+more>>2)
		p, other := tidyPod(), tidyPod()
		p.Labels, p.Needs, p.Tolerances = labels, needs, tolerances
		other.Labels, other.Needs, other.Tolerances = reversed(labels), cycle(40, reversed(needs)...), cycle(40, reversed(tolerances)...)
		podKind().wantOk(t, more == 0, p)
		if more == 0 {
			podKind().wantNormal(t, other, p)
		} else {
			podKind().wantNotNormal(t, p, other)
		}
	}
	p := tidyPod()
	p.Needs, p.Tolerances = cycle(40, p.Needs...), cycle(40, p.Tolerances...)
	podKind().wantNormal(t, p, tidyPod())
	p.Needs = append(p.Needs, p.Needs[0])
	podKind().wantNotNormal(t, p)
	p.Needs, p.Tolerances = p.Needs[:40], append(p.Tolerances, p.Tolerances[0])
	podKind().wantNotNormal(t, p)
	p.Tolerances, p.Needs[39] = p.Tolerances[:40], needOf("zone", 2, cycle(40, "e", "d")...)
	podKind().wantNormal(t, p, tidyPod())
	p.Needs[39].Values = append(p.Needs[39].Values, "d")
	podKind().wantNotNormal(t, p)
}

func TestHostsWithListsAtTheirLimits(t *testing.T) {
	for more := range 1 << 2 {
		labels, taints := numbered(6+more&1), numberedTaints(4+more>>1)
		h, other := tidyHost(), tidyHost()
		h.Labels, h.Taints = labels, taints
		other.Labels, other.Taints = reversed(labels), cycle(40, reversed(taints)...)
		hostKind().wantOk(t, more == 0, h)
		if more == 0 {
			hostKind().wantNormal(t, other, h)
		} else {
			hostKind().wantNotNormal(t, h, other)
		}
	}
	h := tidyHost()
	h.Taints = cycle(40, h.Taints...)
	hostKind().wantNormal(t, h, tidyHost())
	h.Taints = append(h.Taints, h.Taints[0])
	hostKind().wantNotNormal(t, h)
}

func TestPodsAndHostsWithLongLists(t *testing.T) {
	for _, count := range []int{7, 40, 41, 255, 256, 260, 5000} {
		labels := []impl.Label{}
		for _, key := range manyValues(count) {
			labels = append(labels, impl.Label{Key: key})
		}
		for _, list := range [][]impl.Label{labels, reversed(labels)} {
			p, h := tidyPod(), tidyHost()
			p.Labels, h.Labels = list, list
			podKind().wantNotNormal(t, p)
			hostKind().wantNotNormal(t, h)
		}
		p, h := tidyPod(), tidyHost()
		p.Tolerances, h.Taints = reversed(numberedTolerances(count)), reversed(numberedTaints(count))
		podKind().wantNotNormal(t, p)
		hostKind().wantNotNormal(t, h)
		p = tidyPod()
		p.Needs = cycle(count, reversed(numberedNeeds(9))...)
		podKind().wantNotNormal(t, p)
	}
}

// Lists that are nil and lists that are empty are the same.
func TestPodsAndHostsWithEmptyLists(t *testing.T) {
	bare := impl.Pod{Name: "a", Cpu: 1, Mem: 2, Rank: 3}
	empty := bare
	empty.Labels, empty.Needs, empty.Tolerances = []impl.Label{}, []impl.Need{}, []impl.Tolerance{}
	roomy := bare
	roomy.Labels, roomy.Needs, roomy.Tolerances = numbered(3)[:0], numberedNeeds(3)[:0], numberedTolerances(3)[:0]
	for _, a := range []impl.Pod{bare, empty, roomy} {
		podKind().wantOk(t, true, a)
		podKind().wantNormal(t, a, bare)
		podKind().wantSame(t, false, a, tidyPod())
		for _, b := range []impl.Pod{bare, empty, roomy} {
			podKind().wantSame(t, true, a, b)
		}
		a.Name = "-"
		podKind().wantNotNormal(t, a)
	}
	host := impl.Host{Name: "a", Cpu: 1, Mem: 2, Slots: 3}
	emptyHost, roomyHost := host, host
	emptyHost.Labels, emptyHost.Taints = []impl.Label{}, []impl.Taint{}
	roomyHost.Labels, roomyHost.Taints = numbered(3)[:0], numberedTaints(3)[:0]
	for _, a := range []impl.Host{host, emptyHost, roomyHost} {
		hostKind().wantOk(t, true, a)
		hostKind().wantNormal(t, a, host)
		hostKind().wantSame(t, false, a, tidyHost())
		for _, b := range []impl.Host{host, emptyHost, roomyHost} {
			hostKind().wantSame(t, true, a, b)
		}
		a.Name = "-"
		hostKind().wantNotNormal(t, a)
	}
	values, noValues := []impl.Need{needOf("a", 3)}, []impl.Need{{Key: "a", Op: 3, Values: []string{}}}
	podKind().wantSame(t, true, impl.Pod{Needs: values}, impl.Pod{Needs: noValues})
}

// Each field is set to each of some values, valid or not, in one and in the other.
func (k objectKind[T]) differInOneField(t *testing.T) {
	t.Helper()
	for _, f := range k.fields() {
		for i, set := range f.some(150) {
			a := k.with(k.tidy(), set)
			k.wantSame(t, true, a, k.with(k.tidy(), set))
			k.wantSame(t, k.sameWords(a, k.tidy()), a, k.tidy())
			for _, other := range f.some(150)[i+1:] {
				b := k.with(k.tidy(), other)
				k.wantSame(t, k.sameWords(a, b), a, b)
			}
		}
	}
}

func TestSamePodOfPodsThatDifferInOneField(t *testing.T) { podKind().differInOneField(t) }

func TestSameHostOfHostsThatDifferInOneField(t *testing.T) { hostKind().differInOneField(t) }

// listsBeside are lists that differ from list in one element, in the length or in the order of two elements.
func listsBeside[T any](list []T, others func(element T) []T) [][]T {
	changes := [][]T{nil, slices.Concat(list, list), list[1:], list[:len(list)-1]}
	for at, element := range list {
		changes = append(changes, slices.Insert(slices.Clone(list), at, element), slices.Delete(slices.Clone(list), at, at+1))
		for _, other := range others(element) {
			changes = append(changes, withElement(list, at, other))
		}
		if at > 0 {
			changes = append(changes, withElement(withElement(list, at, list[at-1]), at-1, element))
		}
	}
	return changes
}

func otherTexts(s string) []string {
	return []string{s + "x", s + "\x00", strings.ToUpper(s) + "-", "x" + s}
}

func otherLabels(label impl.Label) []impl.Label {
	list := []impl.Label{}
	for _, text := range otherTexts(label.Key) {
		list = append(list, impl.Label{Key: text, Value: label.Value})
	}
	for _, text := range otherTexts(label.Value) {
		list = append(list, impl.Label{Key: label.Key, Value: text})
	}
	return list
}

func otherNeeds(n impl.Need) []impl.Need {
	list := []impl.Need{}
	for _, text := range otherTexts(n.Key) {
		list = append(list, needOf(text, n.Op, n.Values...))
	}
	for _, more := range []int{-n.Op, -1, 1, 4, 256, 1 << 32} {
		list = append(list, needOf(n.Key, n.Op+more, n.Values...))
	}
	if len(n.Values) == 0 {
		return append(list, needOf(n.Key, n.Op, ""), needOf(n.Key, n.Op, "x"))
	}
	for _, values := range listsBeside(n.Values, otherTexts) {
		list = append(list, needOf(n.Key, n.Op, values...))
	}
	return list
}

func otherTaints(x impl.Taint) []impl.Taint {
	list := []impl.Taint{taintOf(x.Key, x.Value, 0), taintOf(x.Key, x.Value, 3-x.Effect), taintOf(x.Key, x.Value, x.Effect+4), taintOf(x.Key, x.Value, x.Effect+1<<32)}
	for _, label := range otherLabels(impl.Label{Key: x.Key, Value: x.Value}) {
		list = append(list, taintOf(label.Key, label.Value, x.Effect))
	}
	return list
}

func otherTolerances(tolerance impl.Tolerance) []impl.Tolerance {
	not := tolerance
	not.Equal = !tolerance.Equal
	list := []impl.Tolerance{not}
	for _, x := range otherTaints(taintOf(tolerance.Key, tolerance.Value, tolerance.Effect+1)) {
		list = append(list, impl.Tolerance{Key: x.Key, Equal: tolerance.Equal, Value: x.Value, Effect: x.Effect - 1})
	}
	return list
}

func TestSamePodOfPodsThatDifferInOneElement(t *testing.T) {
	pods := []impl.Pod{}
	for _, labels := range listsBeside(tidyPod().Labels, otherLabels) {
		p := tidyPod()
		p.Labels = labels
		pods = append(pods, p)
	}
	for _, needs := range listsBeside(tidyPod().Needs, otherNeeds) {
		p := tidyPod()
		p.Needs = needs
		pods = append(pods, p)
	}
	for _, tolerances := range listsBeside(tidyPod().Tolerances, otherTolerances) {
		p := tidyPod()
		p.Tolerances = tolerances
		pods = append(pods, p)
	}
	for _, p := range pods {
		podKind().wantSame(t, false, tidyPod(), p)
		podKind().wantSame(t, true, p, clonePod(p))
	}
}

func TestSameHostOfHostsThatDifferInOneElement(t *testing.T) {
	hosts := []impl.Host{}
	for _, labels := range listsBeside(tidyHost().Labels, otherLabels) {
		h := tidyHost()
		h.Labels = labels
		hosts = append(hosts, h)
	}
	for _, taints := range listsBeside(tidyHost().Taints, otherTaints) {
		h := tidyHost()
		h.Taints = taints
		hosts = append(hosts, h)
	}
	for _, h := range hosts {
		hostKind().wantSame(t, false, tidyHost(), h)
		hostKind().wantSame(t, true, h, cloneHost(h))
	}
}

// Values that change places between two fields make a difference.
func TestSamePodAndSameHostOfSwappedFields(t *testing.T) {
	podKind().wantSame(t, false, impl.Pod{Cpu: 1, Mem: 2}, impl.Pod{Cpu: 2, Mem: 1})
	podKind().wantSame(t, false, impl.Pod{Cpu: 1, Rank: 2}, impl.Pod{Cpu: 2, Rank: 1})
	podKind().wantSame(t, false, impl.Pod{Mem: 1}, impl.Pod{Rank: 1})
	hostKind().wantSame(t, false, impl.Host{Cpu: 1, Mem: 2}, impl.Host{Cpu: 2, Mem: 1})
	hostKind().wantSame(t, false, impl.Host{Cpu: 1, Slots: 2}, impl.Host{Cpu: 2, Slots: 1})
	hostKind().wantSame(t, false, impl.Host{Mem: 1}, impl.Host{Slots: 1})
	podKind().wantSame(t, true, impl.Pod{}, impl.Pod{})
	hostKind().wantSame(t, true, impl.Host{}, impl.Host{})
	podKind().wantSame(t, false, tidyPod(), untidyPod())
	hostKind().wantSame(t, false, tidyHost(), untidyHost())
}

func (k objectKind[T]) random(r *rand.Rand, fields []field[T]) T {
	object := k.tidy()
	if r.Intn(2) == 0 {
		object = k.untidy()
	}
	for _, f := range fields {
		switch r.Intn(20) {
		case 0, 1, 2, 3, 4:
			object = k.with(object, oneOf(r, f.good))
		case 5, 6, 7, 8:
			object = k.with(object, oneOf(r, f.unsorted))
		case 9:
			object = k.with(object, oneOf(r, f.bad))
		}
	}
	return object
}

func (k objectKind[T]) randomObjects(t *testing.T) {
	t.Helper()
	r := rand.New(rand.NewSource(71))
	fields := k.fields()
	changed, rejected := 0, 0
	for range 10000 {
		a, b := k.random(r, fields), k.random(r, fields)
		k.wantAsDocumented(t, a)
		k.wantSame(t, k.sameWords(a, b), a, b)
		normal, ok := k.normal(a)
		k.wantSame(t, k.sameWords(a, normal), a, normal)
		if !ok {
			rejected++
		} else if !k.sameWords(a, normal) {
			changed++
		}
	}
	if changed < 2000 || rejected < 2000 {
		t.Errorf("only %d random objects were changed by %sNormal and %d rejected", changed, k.name, rejected)
	}
}

func TestRandomPods(t *testing.T) { podKind().randomObjects(t) }

func TestRandomHosts(t *testing.T) { hostKind().randomObjects(t) }

// podsOf take Cpu and Mem in turn.
func podsOf(amounts ...int) []impl.Pod {
	list := []impl.Pod{}
	for i := 0; i < len(amounts); i += 2 {
		list = append(list, impl.Pod{Name: "a", Cpu: amounts[i], Mem: amounts[i+1]})
	}
	return list
}

func wantSums(t *testing.T, list []impl.Pod, wantCpu int, wantMem int) {
	t.Helper()
	if cpu, mem, ok := impl.SumsOf(list); cpu != wantCpu || mem != wantMem || !ok {
		t.Errorf("SumsOf(%s) = %d, %d, %v; want %d, %d, true", listed(list), cpu, mem, ok, wantCpu, wantMem)
	}
}

func wantNoSums(t *testing.T, lists ...[]impl.Pod) {
	t.Helper()
	for _, list := range lists {
		if cpu, mem, ok := impl.SumsOf(list); cpu != 0 || mem != 0 || ok {
			t.Errorf("SumsOf(%s) = %d, %d, %v; want 0, 0, false", listed(list), cpu, mem, ok)
		}
	}
}

func wantSumsAsDocumented(t *testing.T, list []impl.Pod) {
	t.Helper()
	if cpu, mem, ok := sumsByWords(list); ok {
		wantSums(t, list, cpu, mem)
	} else {
		wantNoSums(t, list)
	}
}

func TestSumsOfOrdinaryPods(t *testing.T) {
	wantSums(t, nil, 0, 0)
	wantSums(t, []impl.Pod{}, 0, 0)
	wantSums(t, podsOf(1, 2)[:0], 0, 0)
	wantSums(t, podsOf(0, 0), 0, 0)
	wantSums(t, podsOf(5, 7), 5, 7)
	wantSums(t, podsOf(0, 1), 0, 1)
	wantSums(t, podsOf(1, 0), 1, 0)
	wantSums(t, podsOf(1, 20, 300, 4000), 301, 4020)
	wantSums(t, podsOf(1, 10, 2, 20, 3, 30, 4, 40, 5, 50), 15, 150)
	wantSums(t, []impl.Pod{tidyPod(), untidyPod(), tidyPod()}, 1500, 9000)
}

func TestSumsOfPodsBesideTheLargestInt(t *testing.T) {
	const most = math.MaxInt
	wantSums(t, podsOf(most, most), most, most)
	wantSums(t, podsOf(most, 0, 0, most), most, most)
	wantSums(t, podsOf(most-1, 1, 1, most-1), most, most)
	wantSums(t, podsOf(most/2, 5, most/2+1, 6), most, 11)
	wantSums(t, podsOf(5, most/2, 6, most/2+1), 11, most)
	wantSums(t, podsOf(most-3, 0, 1, 0, 1, 0, 1, 0), most, 0)
	wantSums(t, podsOf(0, 0, most, 0, 0, 0), most, 0)
	// Too much in Cpu alone, in Mem alone and in both.
	wantNoSums(t, podsOf(most, 0, 1, 0), podsOf(1, 5, most, 6), podsOf(most/2+1, 0, most/2+1, 0), podsOf(most, most, 1, 0))
	wantNoSums(t, podsOf(0, most, 0, 1), podsOf(5, 1, 6, most), podsOf(0, most/2+1, 0, most/2+1), podsOf(most, most, 0, 1))
	wantNoSums(t, podsOf(most, most, 1, 1), podsOf(most, most, most, most), podsOf(most, 1, 1, most))
	// Sums that would wrap around to 0 and more.
	wantNoSums(t, podsOf(most, 1, most, 1, 2, 1), podsOf(1, most, 1, most, 1, 2), podsOf(most, most, most, most, 3, 3))
	wantNoSums(t, slices.Repeat(podsOf(1<<62, 0), 4), slices.Repeat(podsOf(0, 1<<62), 4), slices.Repeat(podsOf(1<<62, 1<<62), 8))
}

func TestSumsOfNegativeAmounts(t *testing.T) {
	for _, n := range negativeInts() {
		wantNoSums(t, podsOf(n, 0), podsOf(0, n), podsOf(n, n), podsOf(n, math.MaxInt), podsOf(math.MaxInt, n), podsOf(n, 5, -(n+1), 5), podsOf(5, -(n+1), 5, n))
		for at := range 5 {
			for _, bad := range podsOf(n, 1, 1, n, n, n) {
				wantNoSums(t, withElement(podsOf(9, 1, 9, 2, 9, 3, 9, 4, 9, 5), at, bad))
			}
		}
	}
	wantNoSums(t, podsOf(math.MaxInt, 0, math.MinInt, 0), podsOf(0, math.MaxInt, 0, -1), podsOf(1, 1, -1, 1), podsOf(1, 1, 1, -1), podsOf(math.MinInt, math.MinInt))
}

// Only the amounts count, and each pod does.
func TestSumsOfPodsThatAreNotValid(t *testing.T) {
	for _, f := range podFields() {
		for _, set := range f.some(60) {
			p := podKind().with(tidyPod(), set)
			wantSumsAsDocumented(t, []impl.Pod{p})
			wantSumsAsDocumented(t, []impl.Pod{tidyPod(), p, p, tidyPod()})
		}
	}
	wantSums(t, []impl.Pod{{}}, 0, 0)
	wantSums(t, []impl.Pod{{Cpu: 3}, {Mem: 4, Rank: -1}, {Name: "-", Cpu: 2, Rank: 2000}}, 5, 4)
}

func TestSumsOfManyPods(t *testing.T) {
	for _, count := range []int{40, 41, 255, 256, 257, 600, 601, 20000, 20001, 70000} {
		wantSums(t, slices.Repeat(podsOf(1, 3), count), count, 3*count)
		wantSums(t, slices.Repeat(podsOf(0, 0), count), 0, 0)
		wantNoSums(t, append(slices.Repeat(podsOf(1, 3), count), podsOf(-1, 0)...), append(slices.Repeat(podsOf(1, 3), count), podsOf(0, math.MaxInt)...))
		wantSums(t, append(slices.Repeat(podsOf(1, 0), count), podsOf(math.MaxInt-count, 1)...), math.MaxInt, 1)
		wantNoSums(t, append(slices.Repeat(podsOf(1, 0), count), podsOf(math.MaxInt-count+1, 1)...))
	}
}

func TestSumsOfEachPairOfEdgeInts(t *testing.T) {
	for _, a := range edgeInts() {
		for _, b := range edgeInts() {
			wantSumsAsDocumented(t, podsOf(a, 1, b, 2))
			wantSumsAsDocumented(t, podsOf(1, a, 2, b))
			wantSumsAsDocumented(t, podsOf(a, b))
		}
	}
}

func TestSumsOfRandomPods(t *testing.T) {
	r := rand.New(rand.NewSource(171))
	ints := edgeInts()
	sums := 0
	for range 20000 {
		amounts := []int{}
		for range 2 * r.Intn(6) {
			n := r.Intn(1 << (1 + r.Intn(61)))
			if r.Intn(20) == 0 {
				n = ints[r.Intn(len(ints))]
			}
			amounts = append(amounts, n)
		}
		list := podsOf(amounts...)
		wantSumsAsDocumented(t, list)
		if _, _, ok := sumsByWords(list); ok && len(list) > 1 {
			sums++
		}
	}
	if sums < 5000 {
		t.Errorf("only %d random lists have sums", sums)
	}
}

// samples are objects with each field set to some values.
func (k objectKind[T]) samples() []T {
	list := []T{k.tidy(), k.untidy()}
	for _, f := range k.fields() {
		for _, set := range f.some(600) {
			list = append(list, k.with(k.tidy(), set), k.with(k.untidy(), set))
		}
	}
	return list
}

// A roomyPod has its lists, and the Values of its needs, between elements that do not belong to it, so that a change of these would be seen.
type roomyPod struct {
	labels     []impl.Label
	needs      []impl.Need
	values     []string
	tolerances []impl.Tolerance
	arg        impl.Pod
}

func roomyPodOf(p impl.Pod) roomyPod {
	r := roomyPod{arg: p}
	r.labels, r.arg.Labels = inside(p.Labels)
	r.needs, r.values, r.arg.Needs = roomyNeeds(p.Needs)
	r.tolerances, r.arg.Tolerances = between(p.Tolerances, spareTolerances())
	return r
}

func (r roomyPod) same(other roomyPod) bool {
	return slices.Equal(r.labels, other.labels) && sameNeedsByWords(r.needs, other.needs) && slices.Equal(r.values, other.values) && slices.Equal(r.tolerances, other.tolerances)
}

func (r roomyPod) spans() []span {
	return append(needSpans(r.needs), spanOf(r.labels), spanOf(r.values), spanOf(r.tolerances))
}

func podSpans(p impl.Pod) []span {
	spans := append(needSpans(p.Needs), spanOf(p.Labels), spanOf(p.Tolerances))
	return slices.DeleteFunc(spans, func(s span) bool { return s.from == s.to })
}

func overwritePod(p impl.Pod) {
	overwriteNeeds(p.Needs)
	overwriteList(p.Labels, impl.Label{Key: "changed", Value: "changed"})
	overwriteList(p.Tolerances, withPair("changed", "changed", 9))
}

type roomyHost struct {
	labels []impl.Label
	taints []impl.Taint
	arg    impl.Host
}

func roomyHostOf(h impl.Host) roomyHost {
	r := roomyHost{arg: h}
	r.labels, r.arg.Labels = inside(h.Labels)
	r.taints, r.arg.Taints = between(h.Taints, spareTaints())
	return r
}

func (r roomyHost) same(other roomyHost) bool {
	return slices.Equal(r.labels, other.labels) && slices.Equal(r.taints, other.taints)
}

func (r roomyHost) spans() []span { return []span{spanOf(r.labels), spanOf(r.taints)} }

func hostSpans(h impl.Host) []span {
	spans := []span{spanOf(h.Labels), spanOf(h.Taints)}
	return slices.DeleteFunc(spans, func(s span) bool { return s.from == s.to })
}

func overwriteHost(h impl.Host) {
	overwriteList(h.Labels, impl.Label{Key: "changed", Value: "changed"})
	overwriteList(h.Taints, taintOf("changed", "changed", 9))
}

func TestPodFunctionsKeepTheirArguments(t *testing.T) {
	for _, p := range podKind().samples() {
		r, kept, other := roomyPodOf(p), roomyPodOf(p), roomyPodOf(untidyPod())
		impl.PodOk(r.arg)
		impl.PodNormal(r.arg)
		impl.SamePod(r.arg, other.arg)
		impl.SamePod(other.arg, r.arg)
		impl.SamePod(r.arg, p)
		pods := []impl.Pod{other.arg, r.arg, r.arg, {Cpu: 77}}
		impl.SumsOf(pods[:3])
		if !r.same(kept) || !other.same(roomyPodOf(untidyPod())) {
			t.Errorf("%s was changed", told(p))
		}
		if !samePodByWords(pods[0], untidyPod()) || !samePodByWords(pods[1], p) || !samePodByWords(pods[2], p) || pods[3].Cpu != 77 {
			t.Errorf("SumsOf changed %s", told(pods))
		}
	}
}

func TestHostFunctionsKeepTheirArguments(t *testing.T) {
	for _, h := range hostKind().samples() {
		r, kept, other := roomyHostOf(h), roomyHostOf(h), roomyHostOf(untidyHost())
		impl.HostOk(r.arg)
		impl.HostNormal(r.arg)
		impl.SameHost(r.arg, other.arg)
		impl.SameHost(other.arg, r.arg)
		impl.SameHost(r.arg, h)
		if !r.same(kept) || !other.same(roomyHostOf(untidyHost())) {
			t.Errorf("%s was changed", told(h))
		}
	}
}

func TestPodNormalReturnsNewMemory(t *testing.T) {
	for _, p := range podKind().samples() {
		r, kept := roomyPodOf(p), roomyPodOf(p)
		first, _ := impl.PodNormal(r.arg)
		second, _ := impl.PodNormal(r.arg)
		if anyOverlap(podSpans(first), append(r.spans(), podSpans(second)...)) || anyOverlap(podSpans(second), r.spans()) {
			t.Errorf("PodNormal(%s) shares memory", told(p))
		}
		want := clonePod(first)
		overwritePod(first)
		if !r.same(kept) || !samePodByWords(second, want) {
			t.Errorf("a change of one result of PodNormal(%s) changed the argument to %s or the other result to %s", told(p), told(r.arg), told(second))
		}
		overwriteList(r.values, "changed")
		overwritePod(impl.Pod{Labels: r.labels, Needs: r.needs, Tolerances: r.tolerances})
		if !samePodByWords(second, want) {
			t.Errorf("a change of the argument %s of PodNormal changed the result to %s", told(p), told(second))
		}
	}
}

func TestHostNormalReturnsNewMemory(t *testing.T) {
	for _, h := range hostKind().samples() {
		r, kept := roomyHostOf(h), roomyHostOf(h)
		first, _ := impl.HostNormal(r.arg)
		second, _ := impl.HostNormal(r.arg)
		if anyOverlap(hostSpans(first), append(r.spans(), hostSpans(second)...)) || anyOverlap(hostSpans(second), r.spans()) {
			t.Errorf("HostNormal(%s) shares memory", told(h))
		}
		want := cloneHost(first)
		overwriteHost(first)
		if !r.same(kept) || !sameHostByWords(second, want) {
			t.Errorf("a change of one result of HostNormal(%s) changed the argument to %s or the other result to %s", told(h), told(r.arg), told(second))
		}
		overwriteHost(impl.Host{Labels: r.labels, Taints: r.taints})
		if !sameHostByWords(second, want) {
			t.Errorf("a change of the argument %s of HostNormal changed the result to %s", told(h), told(second))
		}
	}
}

// What is appended to one slice of a result is not seen in another one.
func TestPodNormalReturnsSlicesThatCanGrow(t *testing.T) {
	for _, p := range podKind().samples() {
		got, _ := impl.PodNormal(p)
		want := clonePod(got)
		_ = append(got.Labels, impl.Label{Key: "more"})
		_ = append(got.Tolerances, withKey("more", 1))
		_ = append(got.Needs, needOf("more", 3))
		for i := range got.Needs {
			_ = append(got.Needs[i].Values, "more")
			_ = append(got.Needs[i].Values, manyValues(300)...)
		}
		if !samePodByWords(got, want) {
			t.Errorf("appending to slices of the result of PodNormal(%s) changed it to %s", told(p), told(got))
		}
	}
}

// The Values of several needs of an argument may be the same memory, those of a result may not.
func TestPodNormalOfNeedsThatShareTheirValues(t *testing.T) {
	values := []string{"y", "x", "y", "z"}
	needs := []impl.Need{{Key: "b", Op: 1, Values: values}, {Key: "a", Op: 2, Values: values}, {Key: "a", Op: 1, Values: values[:2]}, {Key: "b", Op: 1, Values: values[1:]}}
	want := tidyPod()
	want.Needs = []impl.Need{needOf("a", 1, "x", "y"), needOf("a", 2, "x", "y", "z"), needOf("b", 1, "x", "y", "z")}
	for _, name := range []string{want.Name, "-"} {
		p := untidyPod()
		p.Name, p.Needs = name, needs
		if name == want.Name {
			podKind().wantNormal(t, p, want)
		} else {
			podKind().wantNotNormal(t, p)
		}
		got, _ := impl.PodNormal(p)
		if anyOverlap(podSpans(got), append(podSpans(p), spanOf(values))) {
			t.Errorf("the result %s of PodNormal(%s) shares memory", told(got), told(p))
		}
	}
	if !slices.Equal(values, []string{"y", "x", "y", "z"}) {
		t.Errorf("the values were changed to %q", values)
	}
}

// The bytes of the arguments lie in a slice here, so that a change would be seen.
func TestPodFunctionsKeepTheBytesOfTheirArguments(t *testing.T) {
	for _, text := range []string{"", "-", "a", "web-1", "App/x", "a b", "\xff", strings.Repeat("a", 21), strings.Repeat("a", 31)} {
		kept := append([]byte(text), "spare"...)
		arg := unsafe.String(unsafe.SliceData(kept), len(text))
		p := impl.Pod{Name: arg, Labels: labelsOf("z", arg, arg, arg), Needs: []impl.Need{needOf("z", 1, "b", arg), needOf(arg, 3)}, Tolerances: []impl.Tolerance{withPair(arg, arg, 1), withKey(arg, 0)}}
		h := impl.Host{Name: arg, Labels: p.Labels, Slots: 1, Taints: []impl.Taint{taintOf("z", arg, 1), taintOf(arg, arg, 1)}}
		impl.PodOk(p)
		impl.HostOk(h)
		impl.PodNormal(p)
		impl.HostNormal(h)
		impl.SamePod(p, clonePod(p))
		impl.SameHost(h, cloneHost(h))
		impl.SumsOf([]impl.Pod{p, p})
		if string(kept) != text+"spare" {
			t.Errorf("the argument %q was changed to %q", text+"spare", kept)
		}
	}
}
