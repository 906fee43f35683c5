package tests

import (
	"fmt"
	"math"
	"math/big"
	"slices"
	"strings"
	"testing"

	"loop.example/g00968/impl"
)

type checkedOp func(a int, b int) (int, bool)

func wantOp(t *testing.T, name string, op checkedOp, a int, b int, want int) {
	t.Helper()
	if got, ok := op(a, b); got != want || !ok {
		t.Errorf("%s(%d, %d) = %d, %v; want %d, true", name, a, b, got, ok, want)
	}
}

func wantNoOp(t *testing.T, name string, op checkedOp, a int, b int) {
	t.Helper()
	if got, ok := op(a, b); got != 0 || ok {
		t.Errorf("%s(%d, %d) = %d, %v; want 0, false", name, a, b, got, ok)
	}
}

// wantExact compares op with the exact result: nil if the arguments are not admitted.
func wantExact(t *testing.T, name string, op checkedOp, a int, b int, exact *big.Int) {
	t.Helper()
	if exact != nil && exact.Sign() >= 0 && exact.IsInt64() {
		wantOp(t, name, op, a, b, int(exact.Int64()))
	} else {
		wantNoOp(t, name, op, a, b)
	}
}

func exactOp(a int, b int, op func(z, x, y *big.Int) *big.Int) *big.Int {
	if a < 0 || b < 0 {
		return nil
	}
	return op(new(big.Int), big.NewInt(int64(a)), big.NewInt(int64(b)))
}

// edgeInts are small numbers and those beside the powers of two, the root of MaxInt, its halves and thirds, and both ends.
func edgeInts() []int {
	list := []int{3037000498, 3037000499, 3037000500, math.MaxInt / 3, math.MaxInt/3 + 1, math.MaxInt - 1, math.MaxInt, math.MinInt, math.MinInt + 1}
	for n := -3; n <= 12; n++ {
		list = append(list, n)
	}
	for shift := 4; shift < 63; shift++ {
		power := 1 << shift
		list = append(list, power-1, power, power+1, -power)
	}
	return list
}

func wantReadInt(t *testing.T, text string, want int) {
	t.Helper()
	if got, ok := impl.ReadInt(text); got != want || !ok {
		t.Errorf("ReadInt(%q) = %d, %v; want %d, true", text, got, ok, want)
	}
}

func wantNoReadInt(t *testing.T, text string) {
	t.Helper()
	if got, ok := impl.ReadInt(text); got != 0 || ok {
		t.Errorf("ReadInt(%.30q) = %d, %v; want 0, false", text, got, ok)
	}
}

func wantSum(t *testing.T, want int, list ...int) {
	t.Helper()
	if got, ok := impl.SumInts(list); got != want || !ok {
		t.Errorf("SumInts(%d) = %d, %v; want %d, true", list, got, ok, want)
	}
}

func wantNoSum(t *testing.T, list ...int) {
	t.Helper()
	if got, ok := impl.SumInts(list); got != 0 || ok {
		t.Errorf("SumInts(%d) = %d, %v; want 0, false", list, got, ok)
	}
}

func TestMaxIntIsTheLargestInt(t *testing.T) {
	if impl.MaxInt != math.MaxInt {
		t.Errorf("MaxInt = %d; want 9223372036854775807", impl.MaxInt)
	}
}

func TestAddIntOfOrdinaryNumbers(t *testing.T) {
	wantOp(t, "AddInt", impl.AddInt, 0, 0, 0)
	wantOp(t, "AddInt", impl.AddInt, 2, 3, 5)
	wantOp(t, "AddInt", impl.AddInt, 0, 7, 7)
	wantOp(t, "AddInt", impl.AddInt, 7, 0, 7)
	wantOp(t, "AddInt", impl.AddInt, 999999999, 1, 1000000000)
	wantOp(t, "AddInt", impl.AddInt, 5000000000, 6000000000, 11000000000)
}

func TestAddIntBesideMaxInt(t *testing.T) {
	wantOp(t, "AddInt", impl.AddInt, math.MaxInt, 0, math.MaxInt)
	wantOp(t, "AddInt", impl.AddInt, 0, math.MaxInt, math.MaxInt)
	wantOp(t, "AddInt", impl.AddInt, math.MaxInt-1, 1, math.MaxInt)
	wantOp(t, "AddInt", impl.AddInt, 1, math.MaxInt-1, math.MaxInt)
	wantOp(t, "AddInt", impl.AddInt, 1<<62, 1<<62-1, math.MaxInt)
	wantOp(t, "AddInt", impl.AddInt, math.MaxInt-1, 0, math.MaxInt-1)
	wantNoOp(t, "AddInt", impl.AddInt, math.MaxInt, 1)
	wantNoOp(t, "AddInt", impl.AddInt, 1, math.MaxInt)
	wantNoOp(t, "AddInt", impl.AddInt, math.MaxInt-1, 2)
	wantNoOp(t, "AddInt", impl.AddInt, 1<<62, 1<<62)
	wantNoOp(t, "AddInt", impl.AddInt, math.MaxInt, math.MaxInt)
}

func TestAddIntOfNegativeNumbers(t *testing.T) {
	for _, n := range []int{-1, -5, -math.MaxInt, math.MinInt} {
		wantNoOp(t, "AddInt", impl.AddInt, n, 0)
		wantNoOp(t, "AddInt", impl.AddInt, 0, n)
		wantNoOp(t, "AddInt", impl.AddInt, n, n)
		wantNoOp(t, "AddInt", impl.AddInt, n, 10)
		wantNoOp(t, "AddInt", impl.AddInt, 10, n)
		wantNoOp(t, "AddInt", impl.AddInt, n, math.MaxInt)
		wantNoOp(t, "AddInt", impl.AddInt, math.MaxInt, n)
	}
}

func TestSubIntOfOrdinaryNumbers(t *testing.T) {
	wantOp(t, "SubInt", impl.SubInt, 5, 3, 2)
	wantOp(t, "SubInt", impl.SubInt, 5, 0, 5)
	wantOp(t, "SubInt", impl.SubInt, 5, 4, 1)
	wantOp(t, "SubInt", impl.SubInt, 11000000000, 6000000000, 5000000000)
	wantOp(t, "SubInt", impl.SubInt, math.MaxInt, 0, math.MaxInt)
	wantOp(t, "SubInt", impl.SubInt, math.MaxInt, 1, math.MaxInt-1)
	wantOp(t, "SubInt", impl.SubInt, math.MaxInt, math.MaxInt-1, 1)
}

func TestSubIntOfEqualNumbers(t *testing.T) {
	for _, n := range []int{0, 1, 5, 1000000000, 1 << 62, math.MaxInt - 1, math.MaxInt} {
		wantOp(t, "SubInt", impl.SubInt, n, n, 0)
	}
}

func TestSubIntOfAGreaterNumber(t *testing.T) {
	wantNoOp(t, "SubInt", impl.SubInt, 0, 1)
	wantNoOp(t, "SubInt", impl.SubInt, 5, 6)
	wantNoOp(t, "SubInt", impl.SubInt, 3, 5)
	wantNoOp(t, "SubInt", impl.SubInt, 0, math.MaxInt)
	wantNoOp(t, "SubInt", impl.SubInt, math.MaxInt-1, math.MaxInt)
}

func TestSubIntOfNegativeNumbers(t *testing.T) {
	for _, n := range []int{-1, -5, -math.MaxInt, math.MinInt} {
		wantNoOp(t, "SubInt", impl.SubInt, 0, n)
		wantNoOp(t, "SubInt", impl.SubInt, 10, n)
		wantNoOp(t, "SubInt", impl.SubInt, math.MaxInt, n)
		wantNoOp(t, "SubInt", impl.SubInt, n, n)
		wantNoOp(t, "SubInt", impl.SubInt, n, 0)
		wantNoOp(t, "SubInt", impl.SubInt, n, 1)
		wantNoOp(t, "SubInt", impl.SubInt, n, math.MaxInt)
	}
	wantNoOp(t, "SubInt", impl.SubInt, -3, -5)
	wantNoOp(t, "SubInt", impl.SubInt, math.MaxInt, math.MinInt)
	wantNoOp(t, "SubInt", impl.SubInt, math.MinInt, math.MaxInt)
}

func TestMulIntOfOrdinaryNumbers(t *testing.T) {
	wantOp(t, "MulInt", impl.MulInt, 2, 3, 6)
	wantOp(t, "MulInt", impl.MulInt, 1, 7, 7)
	wantOp(t, "MulInt", impl.MulInt, 7, 1, 7)
	wantOp(t, "MulInt", impl.MulInt, 1000000000, 1000000000, 1000000000000000000)
	wantOp(t, "MulInt", impl.MulInt, 4294967296, 1073741824, 4611686018427387904)
}

func TestMulIntByZero(t *testing.T) {
	for _, n := range []int{0, 1, 2, 1 << 62, math.MaxInt - 1, math.MaxInt} {
		wantOp(t, "MulInt", impl.MulInt, n, 0, 0)
		wantOp(t, "MulInt", impl.MulInt, 0, n, 0)
	}
}

func TestMulIntBesideMaxInt(t *testing.T) {
	wantOp(t, "MulInt", impl.MulInt, math.MaxInt, 1, math.MaxInt)
	wantOp(t, "MulInt", impl.MulInt, 1, math.MaxInt, math.MaxInt)
	wantOp(t, "MulInt", impl.MulInt, 7, 1317624576693539401, math.MaxInt)
	wantOp(t, "MulInt", impl.MulInt, 1317624576693539401, 7, math.MaxInt)
	wantOp(t, "MulInt", impl.MulInt, 2, 1<<62-1, math.MaxInt-1)
	wantOp(t, "MulInt", impl.MulInt, 3037000499, 3037000499, 9223372030926249001)
	wantNoOp(t, "MulInt", impl.MulInt, 2, 1<<62)
	wantNoOp(t, "MulInt", impl.MulInt, 1<<62, 2)
	wantNoOp(t, "MulInt", impl.MulInt, 7, 1317624576693539402)
	wantNoOp(t, "MulInt", impl.MulInt, 3037000500, 3037000500)
	wantNoOp(t, "MulInt", impl.MulInt, math.MaxInt, 2)
	wantNoOp(t, "MulInt", impl.MulInt, 2, math.MaxInt)
}

// Without a check, these products wrap around to numbers that are not negative.
func TestMulIntOfProductsThatWouldWrap(t *testing.T) {
	wantNoOp(t, "MulInt", impl.MulInt, math.MaxInt, math.MaxInt)
	wantNoOp(t, "MulInt", impl.MulInt, 1<<32, 1<<32)
	wantNoOp(t, "MulInt", impl.MulInt, 1<<62, 4)
	wantNoOp(t, "MulInt", impl.MulInt, 4, 1<<62)
	wantNoOp(t, "MulInt", impl.MulInt, 1<<62+1, 4)
	wantNoOp(t, "MulInt", impl.MulInt, math.MaxInt, 3)
	wantNoOp(t, "MulInt", impl.MulInt, 10, 1844674407370955162)
}

func TestMulIntOfNegativeNumbers(t *testing.T) {
	for _, n := range []int{-1, -5, -math.MaxInt, math.MinInt} {
		wantNoOp(t, "MulInt", impl.MulInt, n, 0)
		wantNoOp(t, "MulInt", impl.MulInt, 0, n)
		wantNoOp(t, "MulInt", impl.MulInt, n, 1)
		wantNoOp(t, "MulInt", impl.MulInt, 1, n)
		wantNoOp(t, "MulInt", impl.MulInt, n, n)
		wantNoOp(t, "MulInt", impl.MulInt, n, -1)
		wantNoOp(t, "MulInt", impl.MulInt, -1, n)
		wantNoOp(t, "MulInt", impl.MulInt, n, math.MaxInt)
		wantNoOp(t, "MulInt", impl.MulInt, math.MaxInt, n)
	}
}

func TestEachPairOfEdgeInts(t *testing.T) {
	for _, a := range edgeInts() {
		for _, b := range edgeInts() {
			wantExact(t, "AddInt", impl.AddInt, a, b, exactOp(a, b, (*big.Int).Add))
			wantExact(t, "SubInt", impl.SubInt, a, b, exactOp(a, b, (*big.Int).Sub))
			wantExact(t, "MulInt", impl.MulInt, a, b, exactOp(a, b, (*big.Int).Mul))
		}
	}
}

func TestSubtractionUndoesAddition(t *testing.T) {
	for _, a := range edgeInts() {
		for _, b := range edgeInts() {
			if sum, ok := impl.AddInt(a, b); ok {
				wantOp(t, "SubInt", impl.SubInt, sum, b, a)
				wantOp(t, "SubInt", impl.SubInt, sum, a, b)
			}
			if rest, ok := impl.SubInt(a, b); ok {
				wantOp(t, "AddInt", impl.AddInt, rest, b, a)
			}
		}
	}
}

func TestCompareIntOfKnownNumbers(t *testing.T) {
	for _, c := range []struct{ a, b, want int }{
		{0, 0, 0}, {1, 2, -1}, {2, 1, 1}, {5, 9, -1}, {9, 5, 1}, {0, 1, -1},
		{-1, 0, -1}, {0, -1, 1}, {-2, -1, -1}, {-1, -2, 1}, {-7, -7, 0}, {-5, 5, -1}, {5, -5, 1},
		{math.MinInt, math.MinInt, 0}, {math.MaxInt, math.MaxInt, 0},
		{math.MinInt, math.MaxInt, -1}, {math.MaxInt, math.MinInt, 1},
		{math.MinInt, 0, -1}, {0, math.MinInt, 1}, {math.MinInt, 1, -1}, {1, math.MinInt, 1},
		{math.MaxInt, -1, 1}, {-1, math.MaxInt, -1}, {math.MaxInt, 0, 1}, {0, math.MaxInt, -1},
		{math.MinInt, math.MinInt + 1, -1}, {math.MinInt + 1, math.MinInt, 1},
		{math.MaxInt - 1, math.MaxInt, -1}, {math.MaxInt, math.MaxInt - 1, 1},
	} {
		if got := impl.CompareInt(c.a, c.b); got != c.want {
			t.Errorf("CompareInt(%d, %d) = %d; want %d", c.a, c.b, got, c.want)
		}
	}
}

func TestCompareIntOrdersTheEdgeInts(t *testing.T) {
	list := edgeInts()
	slices.Sort(list)
	list = slices.Compact(list)
	for i, a := range list {
		for k, b := range list {
			want := 0
			if i < k {
				want = -1
			} else if i > k {
				want = 1
			}
			if got := impl.CompareInt(a, b); got != want {
				t.Errorf("CompareInt(%d, %d) = %d; want %d", a, b, got, want)
			}
		}
	}
}

func TestPowIntOfOrdinaryNumbers(t *testing.T) {
	wantOp(t, "PowInt", impl.PowInt, 2, 3, 8)
	wantOp(t, "PowInt", impl.PowInt, 3, 2, 9)
	wantOp(t, "PowInt", impl.PowInt, 2, 10, 1024)
	wantOp(t, "PowInt", impl.PowInt, 10, 9, 1000000000)
	wantOp(t, "PowInt", impl.PowInt, 1000, 5, 1000000000000000)
	wantOp(t, "PowInt", impl.PowInt, 1024, 5, 1125899906842624)
	wantOp(t, "PowInt", impl.PowInt, 5, 1, 5)
	wantOp(t, "PowInt", impl.PowInt, math.MaxInt, 1, math.MaxInt)
}

func TestPowIntWithExponentZero(t *testing.T) {
	for _, base := range []int{0, 1, 2, 10, 3037000500, math.MaxInt} {
		wantOp(t, "PowInt", impl.PowInt, base, 0, 1)
	}
}

func TestPowIntOfZeroAndOne(t *testing.T) {
	for n := 1; n <= 100; n++ {
		wantOp(t, "PowInt", impl.PowInt, 0, n, 0)
		wantOp(t, "PowInt", impl.PowInt, 1, n, 1)
	}
}

func TestPowIntBeyondItsExponents(t *testing.T) {
	for _, n := range []int{101, 102, 128, 1000, math.MaxInt, -1, -2, -100, math.MinInt} {
		for _, base := range []int{0, 1, 2, math.MaxInt, -1} {
			wantNoOp(t, "PowInt", impl.PowInt, base, n)
		}
	}
}

func TestPowIntOfNegativeBases(t *testing.T) {
	for _, base := range []int{-1, -2, -10, -math.MaxInt, math.MinInt} {
		for _, n := range []int{0, 1, 2, 3, 62, 63, 64, 100} {
			wantNoOp(t, "PowInt", impl.PowInt, base, n)
		}
	}
}

func TestPowIntBesideMaxInt(t *testing.T) {
	wantOp(t, "PowInt", impl.PowInt, 2, 62, 4611686018427387904)
	wantOp(t, "PowInt", impl.PowInt, 3, 39, 4052555153018976267)
	wantOp(t, "PowInt", impl.PowInt, 10, 18, 1000000000000000000)
	wantOp(t, "PowInt", impl.PowInt, 2097151, 3, 9223358842721533951)
	wantOp(t, "PowInt", impl.PowInt, 3037000499, 2, 9223372030926249001)
	wantNoOp(t, "PowInt", impl.PowInt, 2, 63)
	wantNoOp(t, "PowInt", impl.PowInt, 3, 40)
	wantNoOp(t, "PowInt", impl.PowInt, 10, 19)
	wantNoOp(t, "PowInt", impl.PowInt, 2097152, 3)
	wantNoOp(t, "PowInt", impl.PowInt, 3037000500, 2)
}

// Without a check, these powers wrap around to numbers that are not negative.
func TestPowIntOfPowersThatWouldWrap(t *testing.T) {
	wantNoOp(t, "PowInt", impl.PowInt, 2, 64)
	wantNoOp(t, "PowInt", impl.PowInt, 2, 100)
	wantNoOp(t, "PowInt", impl.PowInt, 4, 32)
	wantNoOp(t, "PowInt", impl.PowInt, 1<<32, 2)
	wantNoOp(t, "PowInt", impl.PowInt, math.MaxInt, 2)
	wantNoOp(t, "PowInt", impl.PowInt, math.MaxInt, 100)
}

func TestPowIntAtTheGreatestBaseOfEachExponent(t *testing.T) {
	for n := 2; n <= 62; n++ {
		least, most := 2, 3037000500
		for most-least > 1 {
			middle := (least + most) / 2
			if exactOp(middle, n, exactPower).IsInt64() {
				least = middle
			} else {
				most = middle
			}
		}
		for base := least - 1; base <= most+1; base++ {
			wantExact(t, "PowInt", impl.PowInt, base, n, exactOp(base, n, exactPower))
		}
	}
}

func TestPowIntOfSmallBases(t *testing.T) {
	for base := range 40 {
		for n := 0; n <= 100; n++ {
			wantExact(t, "PowInt", impl.PowInt, base, n, exactOp(base, n, exactPower))
		}
	}
}

func exactPower(z, x, y *big.Int) *big.Int { return z.Exp(x, y, nil) }

func TestIntTextOfKnownNumbers(t *testing.T) {
	for n, want := range map[int]string{
		0: "0", 7: "7", 10: "10", 1000000001: "1000000001", -1: "-1", -5: "-5", -10: "-10",
		math.MaxInt:     "9223372036854775807",
		math.MaxInt - 1: "9223372036854775806",
		math.MinInt:     "-9223372036854775808",
		math.MinInt + 1: "-9223372036854775807",
	} {
		if got := impl.IntText(n); got != want {
			t.Errorf("IntText(%d) = %q; want %q", n, got, want)
		}
	}
}

func TestIntTextIsDecimal(t *testing.T) {
	for _, n := range edgeInts() {
		if got, want := impl.IntText(n), fmt.Sprintf("%d", n); got != want || got != impl.Decimal(n) {
			t.Errorf("IntText(%d) = %q and Decimal(%d) = %q; want %q", n, got, n, impl.Decimal(n), want)
		}
	}
}

func TestReadIntUndoesIntText(t *testing.T) {
	for n := range 3000 {
		wantReadInt(t, impl.IntText(n), n)
	}
	for _, n := range edgeInts() {
		if n >= 0 {
			wantReadInt(t, impl.IntText(n), n)
		} else {
			wantNoReadInt(t, impl.IntText(n))
		}
	}
}

func TestReadIntOfKnownTexts(t *testing.T) {
	for text, want := range map[string]int{
		"0": 0, "1": 1, "7": 7, "10": 10, "100": 100, "2026": 2026, "1000000000": 1000000000, "1000000001": 1000000001,
		"9223372036854775799": math.MaxInt - 8, "9223372036854775806": math.MaxInt - 1, "9223372036854775807": math.MaxInt,
	} {
		wantReadInt(t, text, want)
	}
}

func TestReadIntBeyondItsRange(t *testing.T) {
	for _, text := range []string{
		"9223372036854775808", "9223372036854775809", "9223372036854775810", "9300000000000000000", "10000000000000000000",
		"18446744073709551615", "18446744073709551616", "18446744073709551617", "92233720368547758070", strings.Repeat("9", 5000),
	} {
		wantNoReadInt(t, text)
	}
}

func TestReadIntOfLeadingZeros(t *testing.T) {
	for _, text := range []string{"00", "01", "007", "010", "000", "09223372036854775807", strings.Repeat("0", 5000) + "1"} {
		wantNoReadInt(t, text)
	}
}

func TestReadIntOfSigns(t *testing.T) {
	for _, text := range []string{"-", "+", "-0", "+0", "-1", "+1", "--1", "++1", "+9223372036854775807", "-9223372036854775807", "-9223372036854775808", "-9223372036854775809", "1-", "1+1"} {
		wantNoReadInt(t, text)
	}
}

func TestReadIntOfOtherTexts(t *testing.T) {
	for _, text := range []string{"", " ", " 1", "1 ", "1 2", "1\n", "\t1", "1_000", "1,000", "1.0", "1.", ".5", "1e3", "0x1", "0b1", "0o7", "a", "1a", "a1", "1m", "\x001", "1\x00", "\uff11", "\u0661", "\xff"} {
		wantNoReadInt(t, text)
	}
}

func TestSumIntsOfOrdinaryLists(t *testing.T) {
	wantSum(t, 6, 1, 2, 3)
	wantSum(t, 5, 5)
	wantSum(t, 0, 0)
	wantSum(t, 0, 0, 0, 0)
	wantSum(t, 3000000000, 1000000000, 0, 2000000000)
	wantSum(t, 5050, hundredInts()...)
}

func hundredInts() []int {
	list := []int{}
	for n := 1; n <= 100; n++ {
		list = append(list, n)
	}
	return list
}

func TestSumIntsOfEmptyLists(t *testing.T) {
	for _, list := range [][]int{nil, {}, make([]int, 0, 4)} {
		if got, ok := impl.SumInts(list); got != 0 || !ok {
			t.Errorf("SumInts of an empty list = %d, %v; want 0, true", got, ok)
		}
	}
}

func TestSumIntsBesideMaxInt(t *testing.T) {
	wantSum(t, math.MaxInt, math.MaxInt)
	wantSum(t, math.MaxInt, 0, math.MaxInt, 0)
	wantSum(t, math.MaxInt, math.MaxInt-1, 1)
	wantSum(t, math.MaxInt, 1<<62, 1<<61, 1<<61-1)
	wantNoSum(t, math.MaxInt, 1)
	wantNoSum(t, 1, math.MaxInt)
	wantNoSum(t, math.MaxInt, 0, 0, 1)
	wantNoSum(t, 1<<62, 1<<61, 1<<61)
	wantNoSum(t, 1<<62, 1<<62, 5)
}

// Without a check at each addition, these sums wrap around to numbers that are not negative.
func TestSumIntsOfSumsThatWouldWrap(t *testing.T) {
	wantNoSum(t, math.MaxInt, math.MaxInt, 2)
	wantNoSum(t, math.MaxInt, math.MaxInt, math.MaxInt)
	wantNoSum(t, 1<<62, 1<<62, 1<<62, 1<<62)
	wantNoSum(t, math.MaxInt, math.MaxInt, 2, 1, 2)
}

func TestSumIntsOfNegativeNumbers(t *testing.T) {
	wantNoSum(t, -1)
	wantNoSum(t, math.MinInt)
	wantNoSum(t, -1, 5, 6)
	wantNoSum(t, 5, -1, 6)
	wantNoSum(t, 5, 6, -1)
	wantNoSum(t, 5, -5)
	wantNoSum(t, 1, math.MinInt)
	wantNoSum(t, math.MaxInt, 1, -1)
	wantNoSum(t, math.MaxInt, -1, 1)
}

func TestSumIntsKeepsItsArgument(t *testing.T) {
	spare := []int{1, 2, 3, 40, 50}
	wantSum(t, 6, spare[:3]...)
	if !slices.Equal(spare, []int{1, 2, 3, 40, 50}) {
		t.Errorf("SumInts left %d in the list", spare)
	}
}
