package tests

import (
	"fmt"
	"math"
	"math/big"
	"math/rand"
	"regexp"
	"slices"
	"strconv"
	"strings"
	"testing"

	"loop.example/g00968/impl"
)

// The following functions say what the document says.

func pathByWords(path string, key string) string {
	if path == "" {
		return key
	}
	return fmt.Sprintf("%s.%s", path, key)
}

func unknownByWords(tree impl.Tree, path string, keys []string) impl.Fault {
	if tree.Kind != 6 {
		return impl.Fault{Code: 11, Path: path}
	}
	known := map[string]bool{}
	for _, key := range keys {
		known[key] = true
	}
	for _, key := range tree.Keys {
		if !known[key] {
			return impl.Fault{Code: 13, Path: pathByWords(path, key)}
		}
	}
	return impl.Fault{}
}

func valueByWords(tree impl.Tree, key string) (impl.Tree, bool) {
	if tree.Kind == 6 && len(tree.Keys) == len(tree.Kids) {
		for i, k := range tree.Keys {
			if k == key {
				return tree.Kids[i], true
			}
		}
	}
	return impl.Tree{}, false
}

var amountWords = regexp.MustCompile(`\A(0|[1-9][0-9]*)(|m|[kMGT]|[KMGT]i)\z`)

// amountCodeByWords returns 14 for a text that has not the form of a quantity, and 15 for a quantity that does not fit.
func amountCodeByWords(text string) (int, int) {
	words := amountWords.FindStringSubmatch(text)
	if words == nil || len(text) > 40 {
		return 0, 14
	}
	at := slices.IndexFunc(suffixCases(), func(c suffixCase) bool { return c.suffix == words[2] })
	count, _ := new(big.Int).SetString(words[1], 10)
	return thousandthsByWords(count, suffixCases()[at].unit)
}

func thousandthsByWords(count *big.Int, unit int) (int, int) {
	if count.Sign() < 0 {
		return 0, 14
	}
	amount := new(big.Int).Mul(count, big.NewInt(int64(unit)))
	if !amount.IsInt64() {
		return 0, 15
	}
	return int(amount.Int64()), 0
}

// A fieldReader is a function that reads a field. Its results are trees here: a TrText for a text, a TrInt for a number and a TrList for a list.
type fieldReader struct {
	name string
	// zero is the zero value of the result.
	zero impl.Tree
	read func(tree impl.Tree, path string, key string) (impl.Tree, impl.Fault)
	// byWords returns what the document says of a value that is there: the result, or the code of a fault.
	byWords func(value impl.Tree) (impl.Tree, int)
	// absent is the same for a key that is not there.
	absent     impl.Tree
	absentCode int
}

func textReader() fieldReader {
	return fieldReader{name: "TextField", zero: textOf(""), absentCode: 12,
		read: func(tree impl.Tree, path string, key string) (impl.Tree, impl.Fault) {
			text, fault := impl.TextField(tree, path, key)
			return textOf(text), fault
		},
		byWords: func(value impl.Tree) (impl.Tree, int) {
			if value.Kind != 4 {
				return impl.Tree{}, 11
			}
			return textOf(value.Text), 0
		}}
}

func wholeReader(least int, most int, usual int) fieldReader {
	return fieldReader{name: fmt.Sprintf("WholeField from %d to %d, usually %d", least, most, usual), zero: intOf(0), absent: intOf(usual),
		read: func(tree impl.Tree, path string, key string) (impl.Tree, impl.Fault) {
			n, fault := impl.WholeField(tree, path, key, least, most, usual)
			return intOf(n), fault
		},
		byWords: func(value impl.Tree) (impl.Tree, int) {
			switch {
			case value.Kind != 3:
				return impl.Tree{}, 11
			case least <= value.Num && value.Num <= most:
				return intOf(value.Num), 0
			}
			return impl.Tree{}, 15
		}}
}

func amountReader() fieldReader {
	return fieldReader{name: "AmountField", zero: intOf(0), absentCode: 12,
		read: func(tree impl.Tree, path string, key string) (impl.Tree, impl.Fault) {
			n, fault := impl.AmountField(tree, path, key)
			return intOf(n), fault
		},
		byWords: func(value impl.Tree) (impl.Tree, int) {
			amount, code := 0, 11
			switch value.Kind {
			case 3:
				amount, code = thousandthsByWords(big.NewInt(int64(value.Num)), 1000)
			case 4:
				amount, code = amountCodeByWords(value.Text)
			}
			return intOf(amount), code
		}}
}

func listReader(most int) fieldReader {
	return fieldReader{name: fmt.Sprintf("ListField of at most %d", most), zero: listOf(), absent: listOf(),
		read: func(tree impl.Tree, path string, key string) (impl.Tree, impl.Fault) {
			list, fault := impl.ListField(tree, path, key, most)
			return listOf(list...), fault
		},
		byWords: func(value impl.Tree) (impl.Tree, int) {
			switch {
			case value.Kind != 5:
				return impl.Tree{}, 11
			case len(value.Kids) > most:
				return impl.Tree{}, 16
			}
			return listOf(value.Kids...), 0
		}}
}

func mapReader() fieldReader {
	return fieldReader{name: "MapField", absent: mapOf(""), read: impl.MapField,
		byWords: func(value impl.Tree) (impl.Tree, int) {
			if value.Kind != 6 {
				return impl.Tree{}, 11
			}
			return value, 0
		}}
}

func fieldReaders() []fieldReader {
	return []fieldReader{textReader(), amountReader(), mapReader(), wholeReader(0, 9, 7), wholeReader(-3, 3, 100), wholeReader(1, 0, 0), wholeReader(math.MinInt, math.MaxInt, -1),
		listReader(0), listReader(2), listReader(40), listReader(-1), listReader(math.MaxInt)}
}

func shownFault(f impl.Fault) string { return fmt.Sprintf("{%d %d %.60q}", f.Code, f.At, f.Path) }

// The following functions check one call.

func (r fieldReader) wantResult(t *testing.T, tree impl.Tree, path string, key string, want impl.Tree) {
	t.Helper()
	if got, fault := r.read(tree, path, key); fault != (impl.Fault{}) || !equalTrees(got, want) {
		t.Errorf("%s of %.40q at %.40q in %s = %s, %s; want %s and no fault", r.name, key, path, brief(tree), brief(got), shownFault(fault), brief(want))
	}
}

func (r fieldReader) wantFault(t *testing.T, tree impl.Tree, path string, key string, code int, at string) {
	t.Helper()
	if got, fault := r.read(tree, path, key); fault != (impl.Fault{Code: code, Path: at}) || !equalTrees(got, r.zero) {
		t.Errorf("%s of %.40q at %.40q in %s = %s, %s; want the zero value and code %d at %.60q", r.name, key, path, brief(tree), brief(got), shownFault(fault), code, at)
	}
}

func (r fieldReader) wantAsDocumented(t *testing.T, tree impl.Tree, path string, key string) {
	t.Helper()
	result, code := r.absent, r.absentCode
	if value, found := valueByWords(tree, key); found {
		result, code = r.byWords(value)
	}
	if code == 0 {
		r.wantResult(t, tree, path, key, result)
	} else {
		r.wantFault(t, tree, path, key, code, pathByWords(path, key))
	}
}

// wantRead and wantNotRead check a field in each place of a map.
func (r fieldReader) wantRead(t *testing.T, value impl.Tree, want impl.Tree) {
	t.Helper()
	for _, tree := range holders("k", value) {
		r.wantResult(t, tree, "", "k", want)
		r.wantResult(t, tree, "p", "k", want)
	}
}

func (r fieldReader) wantNotRead(t *testing.T, value impl.Tree, code int) {
	t.Helper()
	for _, tree := range holders("k", value) {
		r.wantFault(t, tree, "", "k", code, "k")
		r.wantFault(t, tree, "p[1]", "k", code, "p[1].k")
	}
}

func wantKnown(t *testing.T, tree impl.Tree, keys ...string) {
	t.Helper()
	for _, path := range fieldPaths() {
		if got := impl.KnownKeys(tree, path, keys); got != (impl.Fault{}) {
			t.Errorf("KnownKeys(%s, %.40q, %.200q) = %s; want no fault", brief(tree), path, keys, shownFault(got))
		}
	}
}

func wantKeysFault(t *testing.T, tree impl.Tree, path string, keys []string, code int, at string) {
	t.Helper()
	if got := impl.KnownKeys(tree, path, keys); got != (impl.Fault{Code: code, Path: at}) {
		t.Errorf("KnownKeys(%s, %.40q, %.200q) = %s; want code %d at %.60q", brief(tree), path, keys, shownFault(got), code, at)
	}
}

// wantUnknown is for the path p.
func wantUnknown(t *testing.T, tree impl.Tree, unknown string, keys ...string) {
	t.Helper()
	wantKeysFault(t, tree, "p", keys, 13, "p."+unknown)
	wantKeysFault(t, tree, "", keys, 13, unknown)
}

func wantKeysAsDocumented(t *testing.T, tree impl.Tree, path string, keys []string) {
	t.Helper()
	if got, want := impl.KnownKeys(tree, path, keys), unknownByWords(tree, path, keys); got != want {
		t.Errorf("KnownKeys(%s, %.40q, %.200q) = %s; want %s", brief(tree), path, keys, shownFault(got), shownFault(want))
	}
}

// The following functions make the arguments.

func fieldPaths() []string {
	return []string{"", "p", "labels", "needs[2]", "needs[2].values", "a.b.c", ".", "..", "[", "]", "[0]", " ", "0", "\x00", "\xff", "\xc3\xa9", strings.Repeat("ab.", 700)}
}

func fieldKeys() []string {
	return []string{"", "k", "cpu", "a.b", ".", "[0]", "k[0]", " ", "k ", "K", "0", "\x00", "\xff", "\xc3\xa9", strings.Repeat("k", 401)}
}

// treeKinds are the six kinds, and numbers that no constant names.
func treeKinds() []int {
	return []int{1, 2, 3, 4, 5, 6, 0, -1, -3, -4, -5, -6, 7, 8, 11, 256 + 3, 256 + 4, 1<<32 + 4, 1<<32 + 5, 1<<32 + 6, math.MinInt, math.MaxInt}
}

// valuesOf are values of one kind: without fields, and with all of them.
func valuesOf(kind int) []impl.Tree {
	return []impl.Tree{{Kind: kind}, {Kind: kind, Flag: true, Num: 2, Text: "5", Keys: []string{"k", "x"}, Kids: []impl.Tree{textOf("7"), intOf(3)}}}
}

// held is a map with these keys, of which the one in this place has the value.
func held(value impl.Tree, at int, keys ...string) impl.Tree {
	tree := impl.Tree{Kind: 6, Keys: keys}
	for i := range keys {
		tree.Kids = append(tree.Kids, listOf(textOf("other"), intOf(i)))
	}
	tree.Kids[at] = value
	return tree
}

// holders are maps in which key has this value. Some are not valid: their keys are not in order, or one stands there twice, or they have fields that a map does not use.
func holders(key string, value impl.Tree) []impl.Tree {
	odd := held(value, 0, key)
	odd.Flag, odd.Num, odd.Text = true, 5, "12"
	return []impl.Tree{held(value, 0, key), held(value, 0, key, key+"~"), held(value, 1, "-", key), held(value, 1, "-", key, key+"~"), held(value, 2, "-", "-.", key),
		held(value, 1, key+"~", key, "-"), held(value, 0, key, key), held(value, 1, "-", key, key, key), odd}
}

// noMaps are trees of all other kinds, which have the key nevertheless.
func noMaps(key string, value impl.Tree) []impl.Tree {
	list := []impl.Tree{}
	for _, kind := range treeKinds() {
		if kind != 6 {
			list = append(list, impl.Tree{Kind: kind}, impl.Tree{Kind: kind, Num: 1, Text: key, Keys: []string{key}, Kids: []impl.Tree{value}})
		}
	}
	return list
}

// strangers are maps without the key. Some are not valid: they have the key, but not as many values as keys.
func strangers(key string, value impl.Tree) []impl.Tree {
	nested := held(held(value, 0, key), 1, "-", key+"~")
	return []impl.Tree{{Kind: 6}, mapOf(""), {Kind: 6, Text: key}, held(value, 0, key+"~"), held(value, 1, "~"+key, key+key+"-"), held(textOf(key), 0, "-"), nested,
		{Kind: 6, Keys: []string{key}}, {Kind: 6, Kids: []impl.Tree{value}}, {Kind: 6, Keys: []string{key}, Kids: []impl.Tree{value, value}}, {Kind: 6, Keys: []string{key, "~~"}, Kids: []impl.Tree{value}},
		{Kind: 6, Keys: []string{"-", key, "~~"}, Kids: []impl.Tree{value, value}}, {Kind: 6, Keys: []string{"-", key}, Kids: []impl.Tree{value, value, value}}}
}

func TestFieldCodes(t *testing.T) {
	got := []int{impl.MfKind, impl.MfMissing, impl.MfUnknown, impl.MfValue, impl.MfRange, impl.MfMany, impl.MfFormat}
	if !slices.Equal(got, []int{11, 12, 13, 14, 15, 16, 17}) {
		t.Errorf("the codes are %d", got)
	}
}

func wantPathKey(t *testing.T, path string, key string, want string) {
	t.Helper()
	if got := impl.PathKey(path, key); got != want {
		t.Errorf("PathKey(%.40q, %.40q) = %.90q; want %.90q", path, key, got, want)
	}
}

func TestPathKey(t *testing.T) {
	wantPathKey(t, "labels", "app", "labels.app")
	wantPathKey(t, "needs[2]", "values", "needs[2].values")
	wantPathKey(t, "a.b", "c", "a.b.c")
	wantPathKey(t, "", "app", "app")
	wantPathKey(t, "", "a.b", "a.b")
	wantPathKey(t, "app", "", "app.")
	wantPathKey(t, "", "", "")
	wantPathKey(t, ".", "", "..")
	wantPathKey(t, "", ".", ".")
	wantPathKey(t, ".", ".", "...")
	wantPathKey(t, "\xff", "\x00", "\xff.\x00")
	wantPathKey(t, strings.Repeat("a", 30000), strings.Repeat("b", 30000), strings.Repeat("a", 30000)+"."+strings.Repeat("b", 30000))
	texts := slices.Concat(textsOf(3, "a", ".", "[", "]", "0", " "), fieldPaths(), fieldKeys())
	for _, path := range texts {
		for _, key := range texts {
			wantPathKey(t, path, key, pathByWords(path, key))
		}
	}
}

func wantPathPlace(t *testing.T, path string, i int, want string) {
	t.Helper()
	if got := impl.PathPlace(path, i); got != want {
		t.Errorf("PathPlace(%.40q, %d) = %.90q; want %.90q", path, i, got, want)
	}
}

func TestPathPlace(t *testing.T) {
	for i, want := range map[int]string{0: "[0]", 1: "[1]", 9: "[9]", 10: "[10]", 11: "[11]", 99: "[99]", 100: "[100]", 1000000000: "[1000000000]", 1000000001: "[1000000001]", math.MaxInt: "[9223372036854775807]",
		-1: "[-1]", -9: "[-9]", -10: "[-10]", math.MinInt: "[-9223372036854775808]"} {
		wantPathPlace(t, "", i, want)
		wantPathPlace(t, "needs", i, "needs"+want)
		wantPathPlace(t, strings.Repeat("a", 30000), i, strings.Repeat("a", 30000)+want)
	}
	for _, i := range append(edgeInts(), 20, 101, 110, -100, -101) {
		for _, path := range fieldPaths() {
			wantPathPlace(t, path, i, path+"["+strconv.Itoa(i)+"]")
		}
	}
	for i := -2000; i <= 2000; i++ {
		wantPathPlace(t, "x", i, "x["+strconv.Itoa(i)+"]")
	}
}

func TestPathsOfPaths(t *testing.T) {
	path := impl.PathPlace(impl.PathKey(impl.PathPlace(impl.PathKey("", "needs"), 2), "values"), 10)
	if path != "needs[2].values[10]" {
		t.Errorf("the path is %q", path)
	}
	wantPathPlace(t, impl.PathPlace("", 0), -1, "[0][-1]")
	wantPathKey(t, impl.PathKey(impl.PathKey("", ""), ""), "a", "a")
	wantPathKey(t, impl.PathKey(impl.PathKey("a", ""), ""), "", "a...")
}

func TestKnownKeysOfEachKind(t *testing.T) {
	for _, tree := range noMaps("k", intOf(1)) {
		for _, keys := range [][]string{{"k"}, {"k", "x"}, {"x"}, {""}, {}, nil} {
			wantKeysFault(t, tree, "p", keys, 11, "p")
			wantKeysFault(t, tree, "", keys, 11, "")
			for _, path := range fieldPaths() {
				wantKeysFault(t, tree, path, keys, 11, path)
			}
		}
	}
}

func TestKnownKeysWithoutKeys(t *testing.T) {
	for _, tree := range []impl.Tree{{Kind: 6}, mapOf(""), {Kind: 6, Flag: true, Num: 1, Text: "x"}, {Kind: 6, Kids: []impl.Tree{nullOf()}}, {Kind: 6, Keys: make([]string, 3)[:0]}} {
		wantKnown(t, tree)
		wantKnown(t, tree, []string{}...)
		wantKnown(t, tree, "k")
		wantKnown(t, tree, "", "k")
	}
}

func TestKnownKeysOfKnownKeys(t *testing.T) {
	wantKnown(t, wideMap(1), "k000")
	wantKnown(t, held(nullOf(), 0, ""), "")
	wantKnown(t, held(nullOf(), 0, "", "a", "b"), "b", "", "a")
	keys := []string{"cpu", "kind", "mem", "name"}
	for _, order := range orders(keys) {
		wantKnown(t, held(nullOf(), 0, keys...), order...)
		wantKnown(t, held(nullOf(), 3, order...), keys...)
		wantKnown(t, held(nullOf(), 1, order...), "\xff", "name", "a", "mem", "name", "kind", "", "cpu", "z")
		wantKnown(t, held(nullOf(), 0, order[:2]...), order...)
		wantKnown(t, held(nullOf(), 0, order[3:]...), order...)
	}
	wantKnown(t, held(nullOf(), 0, "cpu", "mem", "cpu", "cpu"), keys...)
	wantKnown(t, impl.Tree{Kind: 6, Keys: keys}, keys...)
	wantKnown(t, impl.Tree{Kind: 6, Keys: keys[:1], Kids: wideList(9).Kids}, keys...)
}

// The unknown key stands in each place of keys in each order, once alone, once before another one, and once twice.
func TestKnownKeysOfUnknownKeys(t *testing.T) {
	keys := []string{"cpu", "kind", "mem", "name"}
	for _, order := range orders(keys) {
		for at := range len(order) + 1 {
			for _, key := range []string{"", "a", "cp", "cpu ", " cpu", "CPU", "cpus", "cpukind", "z", "\xff", "cpu\x00"} {
				with := slices.Insert(slices.Clone(order), at, key)
				wantUnknown(t, held(nullOf(), 0, with...), key, keys...)
				wantUnknown(t, held(nullOf(), 0, append(with, "zz")...), key, keys...)
				wantUnknown(t, held(nullOf(), 0, append(with, "", "A", key)...), key, keys...)
				wantUnknown(t, impl.Tree{Kind: 6, Keys: with}, key, keys...)
			}
			without := slices.Delete(slices.Clone(keys), min(at, 3), min(at, 3)+1)
			wantUnknown(t, held(nullOf(), 0, order...), keys[min(at, 3)], without...)
		}
		wantUnknown(t, held(nullOf(), 0, order...), order[0])
		wantUnknown(t, held(nullOf(), 0, order...), order[0], []string{}...)
		wantUnknown(t, held(nullOf(), 0, order...), order[0], "")
		wantUnknown(t, held(nullOf(), 0, order...), order[1], order[0])
		wantUnknown(t, held(nullOf(), 0, order...), order[2], order[1], order[0])
		wantUnknown(t, held(nullOf(), 0, order...), order[3], order[1], order[0], order[2])
	}
}

func TestKnownKeysOfTheEmptyKey(t *testing.T) {
	wantKeysFault(t, held(nullOf(), 0, ""), "", nil, 13, "")
	wantKeysFault(t, held(nullOf(), 0, ""), "p", []string{"p", "p.", "."}, 13, "p.")
	wantKeysFault(t, held(nullOf(), 0, "a", ""), "", []string{"a"}, 13, "")
	wantKeysFault(t, held(nullOf(), 0, "", "a"), "p", []string{""}, 13, "p.a")
}

func TestKnownKeysOfManyKeys(t *testing.T) {
	tree := wideMap(299)
	wantKnown(t, tree, tree.Keys...)
	wantKnown(t, tree, reversed(tree.Keys)...)
	for at, key := range tree.Keys {
		wantUnknown(t, tree, key, slices.Delete(slices.Clone(tree.Keys), at, at+1)...)
		wantUnknown(t, tree, key, tree.Keys[:at]...)
		if at > 0 {
			wantUnknown(t, tree, "k000", tree.Keys[at:]...)
		}
	}
}

func TestKnownKeysAsDocumented(t *testing.T) {
	lists := shortListsOf(3, "", "a", "aa", "b", "p.a")
	for i, keys := range lists {
		for j, known := range lists {
			tree := impl.Tree{Kind: 6, Keys: keys, Kids: wideList((i + j) % 5).Kids}
			wantKeysAsDocumented(t, tree, []string{"", "p", "a"}[j%3], known)
		}
	}
	for _, tree := range allTrees() {
		for _, known := range [][]string{nil, tree.Keys, {"a", "b", "k"}, append(treeKeys(), wideMap(298).Keys...)} {
			wantKeysAsDocumented(t, tree, "", known)
			wantKeysAsDocumented(t, tree, "p[3]", known)
		}
	}
}

func TestFieldsOfTreesThatAreNoMaps(t *testing.T) {
	for _, value := range []impl.Tree{textOf("5"), intOf(2), listOf(nullOf()), mapOf("k", nullOf())} {
		for _, tree := range noMaps("k", value) {
			for _, path := range fieldPaths() {
				textReader().wantFault(t, tree, path, "k", 12, pathByWords(path, "k"))
				amountReader().wantFault(t, tree, path, "k", 12, pathByWords(path, "k"))
				wholeReader(0, 9, 7).wantResult(t, tree, path, "k", intOf(7))
				listReader(2).wantResult(t, tree, path, "k", listOf())
				mapReader().wantResult(t, tree, path, "k", mapOf(""))
			}
		}
	}
}

func TestFieldsThatAreMissing(t *testing.T) {
	for _, value := range []impl.Tree{textOf("5"), intOf(2), listOf(nullOf()), mapOf("k", nullOf())} {
		for _, tree := range strangers("k", value) {
			textReader().wantFault(t, tree, "", "k", 12, "k")
			textReader().wantFault(t, tree, "p[0]", "k", 12, "p[0].k")
			amountReader().wantFault(t, tree, "", "k", 12, "k")
			amountReader().wantFault(t, tree, "p[0]", "k", 12, "p[0].k")
			for _, path := range fieldPaths() {
				wholeReader(0, 9, 7).wantResult(t, tree, path, "k", intOf(7))
				listReader(2).wantResult(t, tree, path, "k", listOf())
				mapReader().wantResult(t, tree, path, "k", mapOf(""))
			}
		}
	}
	textReader().wantFault(t, mapOf(""), "", "", 12, "")
	textReader().wantFault(t, mapOf(""), "p", "", 12, "p.")
	amountReader().wantFault(t, mapOf(""), "", "", 12, "")
	amountReader().wantFault(t, mapOf(""), "p", "", 12, "p.")
}

func TestFieldsOfEveryKind(t *testing.T) {
	for _, kind := range treeKinds() {
		for _, value := range valuesOf(kind) {
			if kind != 3 {
				wholeReader(0, 9, 7).wantNotRead(t, value, 11)
			}
			if kind != 4 {
				textReader().wantNotRead(t, value, 11)
			}
			if kind != 3 && kind != 4 {
				amountReader().wantNotRead(t, value, 11)
			}
			if kind != 5 {
				listReader(2).wantNotRead(t, value, 11)
			}
			if kind != 6 {
				mapReader().wantNotRead(t, value, 11)
			}
		}
	}
}

// The value is right, but has fields that its kind does not use.
func TestFieldsWithUnusedFields(t *testing.T) {
	value := valuesOf(0)[1]
	for _, c := range []struct {
		reader fieldReader
		kind   int
		want   impl.Tree
	}{
		{textReader(), 4, textOf("5")},
		{wholeReader(0, 9, 7), 3, intOf(2)},
		{amountReader(), 3, intOf(2000)},
		{amountReader(), 4, intOf(5000)},
		{listReader(2), 5, listOf(value.Kids...)},
		{mapReader(), 6, impl.Tree{Kind: 6, Flag: true, Num: 2, Text: "5", Keys: value.Keys, Kids: value.Kids}},
	} {
		value.Kind = c.kind
		c.reader.wantRead(t, value, c.want)
	}
}

func TestTextField(t *testing.T) {
	for _, s := range slices.Concat(goodStrings(), badStrings(), fieldPaths(), []string{"null", "true", "12", "500m", strings.Repeat("text ", 20000)}) {
		textReader().wantRead(t, textOf(s), textOf(s))
	}
	for _, key := range fieldKeys() {
		textReader().wantResult(t, held(textOf("x"), 0, key), "p", key, textOf("x"))
		textReader().wantResult(t, held(textOf(""), 1, "-", key), "", key, textOf(""))
		textReader().wantFault(t, held(intOf(1), 1, "-", key), "", key, 11, key)
	}
}

func TestWholeFieldAtTheEndsOfTheRange(t *testing.T) {
	for _, ends := range [][2]int{{0, 9}, {1, 12}, {-3, 3}, {5, 5}, {0, 0}, {-9, -2}, {0, 1000000000}, {math.MinInt + 1, math.MaxInt - 1}} {
		least, most := ends[0], ends[1]
		reader := wholeReader(least, most, 7)
		for _, n := range []int{least, min(least+1, most), max(least, min(4, most)), max(most-1, least), most} {
			reader.wantRead(t, intOf(n), intOf(n))
		}
		for _, n := range append(edgeInts(), least-1, most+1, least-2, math.MinInt, math.MaxInt) {
			if n < least || n > most {
				reader.wantNotRead(t, intOf(n), 15)
			}
		}
	}
}

func TestWholeFieldOfAllInts(t *testing.T) {
	for _, n := range append(edgeInts(), math.MinInt, math.MinInt+1, math.MaxInt-1, math.MaxInt) {
		wholeReader(math.MinInt, math.MaxInt, 7).wantRead(t, intOf(n), intOf(n))
		wholeReader(n, n, 7).wantRead(t, intOf(n), intOf(n))
		if n < math.MaxInt {
			wholeReader(n+1, math.MaxInt, n).wantNotRead(t, intOf(n), 15)
		}
		if n > math.MinInt {
			wholeReader(math.MinInt, n-1, n).wantNotRead(t, intOf(n), 15)
		}
	}
}

func TestWholeFieldOfAnEmptyRange(t *testing.T) {
	for _, ends := range [][2]int{{1, 0}, {9, 0}, {0, -1}, {3, -3}, {math.MaxInt, math.MinInt}, {math.MinInt + 1, math.MinInt}, {math.MaxInt, math.MaxInt - 1}} {
		reader := wholeReader(ends[0], ends[1], 5)
		for _, n := range []int{0, 1, -1, 5, ends[0], ends[1], math.MinInt, math.MaxInt} {
			reader.wantNotRead(t, intOf(n), 15)
		}
		reader.wantNotRead(t, textOf("5"), 11)
		reader.wantResult(t, mapOf(""), "p", "k", intOf(5))
	}
}

func TestWholeFieldOfTheUsualValue(t *testing.T) {
	for _, usual := range append(edgeInts(), 0, 1, 9, 10, -1, math.MinInt, math.MaxInt) {
		reader := wholeReader(0, 9, usual)
		for _, tree := range strangers("k", intOf(5)) {
			reader.wantResult(t, tree, "p", "k", intOf(usual))
		}
		reader.wantRead(t, intOf(4), intOf(4))
		reader.wantNotRead(t, intOf(10), 15)
		reader.wantNotRead(t, intOf(-1), 15)
		reader.wantNotRead(t, nullOf(), 11)
	}
}

func TestWholeFieldAsDocumented(t *testing.T) {
	ints := []int{math.MinInt, math.MinInt + 1, -2, -1, 0, 1, 2, 1 << 31, 1 << 32, math.MaxInt - 1, math.MaxInt}
	for _, least := range ints {
		for _, most := range ints {
			for _, n := range ints {
				wholeReader(least, most, 3).wantAsDocumented(t, held(intOf(n), 1, "-", "k"), "p", "k")
				wholeReader(least, most, n).wantAsDocumented(t, held(intOf(n), 1, "-", "k"), "p", "kk")
			}
		}
	}
}

func TestAmountFieldOfTexts(t *testing.T) {
	for amount, text := range amountCases() {
		amountReader().wantRead(t, textOf(text), intOf(amount))
	}
	for text, want := range map[string]int{"0": 0, "0m": 0, "0Ti": 0, "1": 1000, "1m": 1, "500m": 500, "2k": 2000000, "3M": 3000000000, "1G": 1000000000000, "1T": 1000000000000000, "1Ki": 1024000, "1Mi": 1048576000, "1Gi": 1073741824000, "1Ti": 1099511627776000} {
		amountReader().wantRead(t, textOf(text), intOf(want))
	}
	for _, c := range suffixCases() {
		for _, count := range []int{0, 1, 9, 10, 1000, c.most - 1, c.most} {
			if count <= c.most {
				amountReader().wantRead(t, textOf(strconv.Itoa(count)+c.suffix), intOf(count*c.unit))
			}
		}
	}
	for _, amount := range edgeAmounts() {
		amountReader().wantRead(t, textOf(impl.AmountText(amount)), intOf(amount))
	}
}

func TestAmountFieldOfTextsThatAreNoQuantity(t *testing.T) {
	for _, suffix := range unknownSuffixes() {
		amountReader().wantNotRead(t, textOf("1"+suffix), 14)
	}
	for _, text := range []string{"", " ", "m", "Ki", "00", "01", "00m", "-1", "-0", "-1m", "+1", " 1", "1 ", "1.5", "1,5", "1e3", "0x1", "five", "1_000", "\xff", "\x00", "9223372036854775808x", "-9223372036854775808",
		strings.Repeat("1", 41), strings.Repeat("1", 40) + "m", "0" + strings.Repeat("1", 39), strings.Repeat("1", 20000)} {
		amountReader().wantNotRead(t, textOf(text), 14)
	}
}

func TestAmountFieldOfTextsOutOfRange(t *testing.T) {
	for _, c := range suffixCases() {
		if c.most < math.MaxInt {
			amountReader().wantNotRead(t, textOf(strconv.Itoa(c.most+1)+c.suffix), 15)
		}
		amountReader().wantNotRead(t, textOf("9223372036854775808"+c.suffix), 15)
		amountReader().wantNotRead(t, textOf(strings.Repeat("1", 40-len(c.suffix))+c.suffix), 15)
	}
}

func TestAmountFieldOfInts(t *testing.T) {
	for n, want := range map[int]int{0: 0, 1: 1000, 2: 2000, 500: 500000, 1024: 1024000, math.MaxInt/1000 - 1: 9223372036854774000, math.MaxInt / 1000: 9223372036854775000} {
		amountReader().wantRead(t, intOf(n), intOf(want))
	}
	for _, n := range []int{math.MaxInt/1000 + 1, math.MaxInt / 999, 1 << 54, 1 << 61, 1 << 62, 1<<61 + 1, 18446744073709552, math.MaxInt - 1, math.MaxInt} {
		amountReader().wantNotRead(t, intOf(n), 15)
	}
	for _, n := range append(negativeInts(), -1, -2, -1000, -9223372036854775, -9223372036854776, math.MinInt+1, math.MinInt) {
		amountReader().wantNotRead(t, intOf(n), 14)
	}
	for _, n := range edgeInts() {
		amountReader().wantAsDocumented(t, held(intOf(n), 0, "k"), "p", "k")
	}
}

func TestAmountFieldAsDocumented(t *testing.T) {
	for _, text := range slices.Concat(textsOf(4, "0", "1", "92", "m", "K", "i", "G"), goodStrings(), badStrings()) {
		amountReader().wantAsDocumented(t, held(textOf(text), 1, "-", "k"), "p", "k")
	}
	r := rand.New(rand.NewSource(18))
	for range 20000 {
		digits := strconv.Itoa(r.Intn(math.MaxInt) >> r.Intn(63))
		amountReader().wantAsDocumented(t, held(textOf(digits+suffixCases()[r.Intn(10)].suffix), 0, "k"), "", "k")
		amountReader().wantAsDocumented(t, held(intOf(r.Intn(math.MaxInt)>>r.Intn(63)), 0, "k"), "", "k")
	}
}

func TestListFieldOfEachLength(t *testing.T) {
	for _, most := range []int{0, 1, 2, 3, 12, 39, 40, 41} {
		for count := range 45 {
			value := wideList(count)
			if count <= most {
				listReader(most).wantRead(t, value, value)
			} else {
				listReader(most).wantNotRead(t, value, 16)
			}
		}
		listReader(most).wantRead(t, impl.Tree{Kind: 5}, listOf())
		listReader(most).wantResult(t, mapOf(""), "p", "k", listOf())
	}
	for _, most := range []int{math.MinInt, -1000, -2, -1} {
		for _, count := range []int{0, 1, 2, 40} {
			listReader(most).wantNotRead(t, wideList(count), 16)
		}
		listReader(most).wantNotRead(t, textOf("5"), 11)
		listReader(most).wantResult(t, mapOf(""), "p", "k", listOf())
	}
	listReader(3000).wantRead(t, wideList(3000), wideList(3000))
	listReader(2999).wantNotRead(t, wideList(3000), 16)
	listReader(math.MaxInt).wantRead(t, wideList(3000), wideList(3000))
}

func TestListFieldOfAllTrees(t *testing.T) {
	for i, kid := range allTrees() {
		for _, kids := range [][]impl.Tree{{kid}, {nullOf(), kid}, {kid, intOf(i), kid}} {
			listReader(3).wantResult(t, held(listOf(kids...), 1, "-", "k"), "p", "k", listOf(kids...))
			listReader(len(kids)-1).wantFault(t, held(listOf(kids...), 1, "-", "k"), "p", "k", 16, "p.k")
		}
	}
	listReader(math.MaxInt).wantRead(t, listOf(allTrees()...), listOf(allTrees()...))
}

func TestMapField(t *testing.T) {
	for _, value := range []impl.Tree{{Kind: 6}, mapOf(""), mapOf("k", intOf(1)), mapOf("a b", textOf("x"), listOf(nullOf())), wideMap(299), wideMap(3000), inMaps(8, nullOf()), inMaps(500, listOf()),
		mapOf("b a b", nullOf(), nullOf(), nullOf()), mapOf("a b", nullOf()), mapOf("a"), mapOf("", nullOf()), mapOf("\xff", textOf("\xff"))} {
		mapReader().wantRead(t, value, value)
	}
	for _, value := range allTrees() {
		mapReader().wantAsDocumented(t, held(value, 1, "-", "k"), "p", "k")
		mapReader().wantAsDocumented(t, value, "", "a")
	}
}

func fieldValues() []impl.Tree {
	list := []impl.Tree{textOf(""), textOf("x"), textOf("500m"), textOf("01"), textOf("9223372036854775808"), intOf(0), intOf(9), intOf(10), intOf(-4), intOf(math.MinInt), intOf(math.MaxInt),
		listOf(), wideList(2), wideList(3), wideList(41), mapOf(""), wideMap(2), mapOf("k", mapOf("k", textOf("x")))}
	for _, kind := range treeKinds() {
		list = append(list, valuesOf(kind)...)
	}
	return list
}

// Each path stands beside each key.
func TestFieldsAsDocumented(t *testing.T) {
	for i, value := range fieldValues() {
		for j, key := range fieldKeys() {
			trees := slices.Concat(holders(key, value), noMaps(key, value), strangers(key, value))
			for k, path := range fieldPaths() {
				for l, reader := range fieldReaders() {
					reader.wantAsDocumented(t, trees[(17*i+5*j+7*k+l)%len(trees)], path, key)
				}
			}
		}
	}
}

// TestFieldsOfRandomTrees reads fields of all trees on the way down to one of the descendants, with the path of each of them.
func TestFieldsOfRandomTrees(t *testing.T) {
	r := rand.New(rand.NewSource(181))
	readers, bad := fieldReaders(), badStrings()
	for round := range 4000 {
		tree, path := randomTree(r, 4), ""
		for range round % 3 {
			spoil(r, &tree, bad)
		}
		for {
			for _, key := range append(tree.Keys, "", "a", "k") {
				for _, reader := range readers {
					reader.wantAsDocumented(t, tree, path, key)
				}
			}
			wantKeysAsDocumented(t, tree, path, tree.Keys[len(tree.Keys)/3:])
			if len(tree.Kids) == 0 {
				break
			}
			at := r.Intn(len(tree.Kids))
			if path = impl.PathPlace(path, at); at < len(tree.Keys) {
				path = impl.PathKey(path, tree.Keys[at])
			}
			tree = tree.Kids[at]
		}
	}
}

// What was put at a key is read there as it is.
func TestFieldsThatWerePut(t *testing.T) {
	for _, value := range goodTrees() {
		for _, tree := range []impl.Tree{mapOf(""), mapOf("a z", nullOf(), nullOf()), mapOf("a k", nullOf(), intOf(5))} {
			put, ok := impl.PutKid(tree, "k", value)
			if !ok {
				continue
			}
			for _, reader := range fieldReaders() {
				if want, code := reader.byWords(value); code == 0 {
					reader.wantResult(t, put, "p", "k", want)
				} else {
					reader.wantFault(t, put, "p", "k", code, "p.k")
				}
			}
		}
	}
}

// A fault is found without a look at what is inside a value, so that also one that contains itself has it.
func TestFieldsThatContainThemselves(t *testing.T) {
	list, m := listOf(nullOf()), mapOf("k", nullOf())
	list.Kids[0], m.Kids[0] = list, m
	tree := mapOf("k m", list, m)
	for _, reader := range []fieldReader{textReader(), amountReader(), wholeReader(0, 9, 7), mapReader()} {
		if _, fault := reader.read(tree, "p", "k"); fault != (impl.Fault{Code: 11, Path: "p.k"}) {
			t.Errorf("%s of a list that contains itself has the fault %v", reader.name, fault)
		}
	}
	if list, fault := impl.ListField(tree, "p", "k", 0); len(list) > 0 || fault != (impl.Fault{Code: 16, Path: "p.k"}) {
		t.Errorf("ListField of a list that contains itself = %d kids, %v", len(list), fault)
	}
	if _, fault := impl.ListField(tree, "p", "m", 5); fault != (impl.Fault{Code: 11, Path: "p.m"}) {
		t.Errorf("ListField of a map that contains itself has the fault %v", fault)
	}
	if fault := impl.KnownKeys(m, "p", []string{"k"}); fault != (impl.Fault{}) {
		t.Errorf("KnownKeys of a map that contains itself = %v", fault)
	}
}

// Each field is read twice, so that the results of both calls are compared too.
func TestFieldsAreNewMemory(t *testing.T) {
	for _, value := range slices.Concat(fieldValues(), []impl.Tree{listOf(listOf(), listOf(listOf(textOf("x"))), mapOf("a b", listOf(nullOf()), mapOf("c", nullOf()))), mapOf("a b", wideMap(3), inLists(4, mapOf("a", wideList(2)))), wideMap(299)}) {
		trees := holders("k", value)
		for _, tree := range append(trees, strangers("k", value)...) {
			for _, reader := range fieldReaders() {
				wantNewMemory(t, reader.name, func(args []impl.Tree) []impl.Tree {
					first, _ := reader.read(args[0], "p", "k")
					second, _ := reader.read(args[0], "p", "k")
					return []impl.Tree{first, second}
				}, roomy(tree))
			}
		}
	}
}

func TestKnownKeysKeepsItsArguments(t *testing.T) {
	spare := []string{"z", "a", "m", "", "k"}
	for _, tree := range append(holders("k", wideMap(2)), noMaps("k", intOf(1))...) {
		for _, keys := range shortListsOf(3, "k", "k~", "-", "x") {
			all, arg := between(keys, spare)
			kept := slices.Clone(all)
			wantNewMemory(t, "KnownKeys", func(args []impl.Tree) []impl.Tree {
				wantKeysAsDocumented(t, args[0], "p", arg)
				return nil
			}, roomy(tree))
			if !slices.Equal(all, kept) {
				t.Fatalf("KnownKeys changed %q to %q", kept, all)
			}
		}
	}
}

// A change of a result changes neither the tree nor what is read from it later.
func TestFieldsMayBeChanged(t *testing.T) {
	tree := mapOf("k m", listOf(mapOf("a", textOf("x")), listOf(intOf(1))), mapOf("a b", listOf(intOf(1)), textOf("y")))
	kept := roomy(tree)
	for range 3 {
		list, _ := impl.ListField(tree, "", "k", 2)
		m, _ := impl.MapField(tree, "", "m")
		none, _ := impl.MapField(tree, "", "none")
		if !equalTrees(listOf(list...), kept.Kids[0]) || !equalTrees(m, kept.Kids[1]) || !equalTrees(none, mapOf("")) {
			t.Fatalf("the fields are %s, %s and %s", brief(listOf(list...)), brief(m), brief(none))
		}
		both := listOf(append(list, m, none)...)
		overwrite(&both)
		if !equalTrees(tree, kept) {
			t.Fatalf("the tree is %s; want %s", brief(tree), brief(kept))
		}
	}
}
