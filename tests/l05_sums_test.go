package tests

import (
	"encoding/binary"
	"hash/crc32"
	"math"
	"math/big"
	"slices"
	"strings"
	"testing"

	"loop.example/g00968/impl"
)

type sumCase struct {
	text string
	sum  int
}

// sumCases holds published values of this checksum.
func sumCases() []sumCase {
	return []sumCase{
		{"", 0}, {"\x00", 0xd202ef8d}, {"a", 0xe8b7be43}, {"abc", 0x352441c2}, {"message digest", 0x20159d7f},
		{"123456789", 0xcbf43926}, {"The quick brown fox jumps over the lazy dog", 0x414fa339},
		{"abcdefghijklmnopqrstuvwxyz", 0x4c2750bd}, {"\xff\xff\xff\xff", 0xffffffff}, {"\x00\x00\x00\x00", 0x2144df1c},
		{strings.Repeat("\x00", 32), 0x190a55ad}, {strings.Repeat("\xff", 32), 0xff6cab0b}, {allBytes(), 0x29058c73},
	}
}

func sumTexts() []string {
	list := []string{"caf\u00e9\n", "\x80\x00\x01", "BERTH\x01", strings.Repeat("ab", 500), longest(), longest() + "x", strings.Repeat(allBytes(), 400)}
	for _, c := range sumCases() {
		list = append(list, c.text)
	}
	return list
}

// longest is the longest text that can be sealed.
func longest() string {
	return strings.Repeat(allBytes(), impl.MaxText/256+1)[:impl.MaxText]
}

// shortSealed are sealed texts that are short enough for a visit to every offset.
func shortSealed(t *testing.T) []string {
	t.Helper()
	list := []string{}
	for _, text := range []string{"", "\x00", "\xff", "abc", "pods: []", "\x00\x00\x00\x00\x00\x00\x00\x00\x00\x00", "a host and a pod\n"} {
		sealed, ok := impl.Sealed(text)
		if !ok {
			t.Fatalf("Sealed(%q) failed", text)
		}
		list = append(list, sealed)
	}
	return list
}

// wordsOutside are numbers that do not fit into 32 bits without a sign.
func wordsOutside() []int {
	return []int{-1, -2, -4294967295, -4294967296, -4294967297, math.MinInt, math.MinInt + 1, 4294967296, 4294967297, 1 << 33, 1<<40 + 1, 1 << 62, math.MaxInt - 1, math.MaxInt}
}

// edgeWords are numbers of up to 32 bits.
func edgeWords() []int {
	list := []int{0, 3, 5, 255, 256, 257, 65535, 0x12345678, 0xdeadbeef, 0xaaaaaaaa, 0x55555555, 0xedb88320, 0x80000001, 0xc0000003, 4294967294, 4294967295}
	for i := range 32 {
		list = append(list, 1<<i)
	}
	return list
}

// burstsOf are bursts of exactly size bits: the first and the last bit are set.
func burstsOf(size int) []int {
	list := []int{}
	for _, inner := range edgeWords() {
		list = append(list, inner&(1<<size-1)|1<<(size-1)|1)
	}
	slices.Sort(list)
	return slices.Compact(list)
}

// withFlipped is Flipped for offsets that are not negative, by way of one large number.
func withFlipped(text string, at int, bits int) string {
	if at >= 8*len(text) {
		return text
	}
	reversed := []byte(text)
	slices.Reverse(reversed)
	burst := new(big.Int).Lsh(big.NewInt(int64(bits)), uint(at))
	end := new(big.Int).Lsh(big.NewInt(1), uint(8*len(text)))
	number := new(big.Int).SetBytes(reversed)
	number.Xor(number, burst.Mod(burst, end)).FillBytes(reversed)
	slices.Reverse(reversed)
	return string(reversed)
}

func wantSumMore(t *testing.T, sum int, text string, want int) {
	t.Helper()
	if got := impl.SumMore(sum, text); got != want {
		t.Errorf("SumMore(%d, %.40q of %d bytes) = %d; want %d", sum, text, len(text), got, want)
	}
}

func wantSumOf(t *testing.T, text string, want int) {
	t.Helper()
	if got := impl.SumOf(text); got != want {
		t.Errorf("SumOf(%.40q of %d bytes) = %d; want %d", text, len(text), got, want)
	}
}

func wantSealed(t *testing.T, text string, want string) {
	t.Helper()
	if got, ok := impl.Sealed(text); got != want || !ok {
		t.Errorf("Sealed(%.40q of %d bytes) = %.40q of %d bytes, %v; want %.40q of %d bytes, true", text, len(text), got, len(got), ok, want, len(want))
	}
}

func wantNoSealed(t *testing.T, text string) {
	t.Helper()
	if got, ok := impl.Sealed(text); got != "" || ok {
		t.Errorf("Sealed of %d bytes = %d bytes, %v; want \"\", false", len(text), len(got), ok)
	}
}

func wantUnsealed(t *testing.T, text string, want string) {
	t.Helper()
	if got, ok := impl.Unsealed(text); got != want || !ok {
		t.Errorf("Unsealed(%.40q of %d bytes) = %.40q of %d bytes, %v; want %.40q of %d bytes, true", text, len(text), got, len(got), ok, want, len(want))
	}
}

func wantNoUnsealed(t *testing.T, text string) {
	t.Helper()
	if got, ok := impl.Unsealed(text); got != "" || ok {
		t.Errorf("Unsealed(%.40q of %d bytes) = %.40q of %d bytes, %v; want \"\", false", text, len(text), got, len(got), ok)
	}
}

func wantFlipped(t *testing.T, text string, at int, bits int, want string) {
	t.Helper()
	if got := impl.Flipped(text, at, bits); got != want {
		t.Errorf("Flipped(%.40q of %d bytes, %d, %d) = %.40q of %d bytes; want %.40q", text, len(text), at, bits, got, len(got), want)
	}
}

// wantDetected checks that a burst makes a sealed text unreadable.
func wantDetected(t *testing.T, sealed string, at int, bits int) {
	t.Helper()
	damaged := impl.Flipped(sealed, at, bits)
	if damaged == sealed {
		t.Errorf("Flipped(%.40q of %d bytes, %d, %d) is unchanged", sealed, len(sealed), at, bits)
		return
	}
	if got, ok := impl.Unsealed(damaged); got != "" || ok {
		t.Errorf("Unsealed after the burst %#x at bit %d of %d bytes = %.40q, %v; want \"\", false", bits, at, len(sealed), got, ok)
	}
}

func TestSumMoreOfKnownTexts(t *testing.T) {
	wantSumMore(t, 0, "\x00", 0)
	wantSumMore(t, 0, "\x01", 0x77073096)
	wantSumMore(t, 0, "\x80", 3988292384)
	wantSumMore(t, 0, "\xff", 0x2d02ef8d)
	wantSumMore(t, 1, "\x01", 0)
	wantSumMore(t, 256, "\x00", 1)
	wantSumMore(t, 4294967295, "\xff", 0x00ffffff)
	wantSumMore(t, 4294967295, "123456789", 4294967295-0xcbf43926)
}

func TestSumMoreOfTheEmptyText(t *testing.T) {
	for _, sum := range edgeWords() {
		wantSumMore(t, sum, "", sum)
	}
}

func TestSumMoreOfManySums(t *testing.T) {
	for _, text := range sumTexts() {
		for _, sum := range edgeWords() {
			want := ^crc32.Update(^uint32(sum), crc32.IEEETable, []byte(text))
			wantSumMore(t, sum, text, int(want))
		}
	}
}

func TestSumMoreOfSumsOutsideTheRange(t *testing.T) {
	for _, sum := range wordsOutside() {
		for _, text := range []string{"", "\x00", "\xff", "a", "123456789", allBytes()} {
			wantSumMore(t, sum, text, 0)
		}
	}
}

func TestSumMoreOfATextInTwoParts(t *testing.T) {
	for _, text := range []string{"", "a", "ab", "123456789", allBytes()} {
		for _, sum := range []int{0, 1, 0xdeadbeef, 4294967294, 4294967295} {
			whole := impl.SumMore(sum, text)
			for cut := range len(text) + 1 {
				wantSumMore(t, impl.SumMore(sum, text[:cut]), text[cut:], whole)
			}
		}
	}
	text := longest()
	wantSumMore(t, impl.SumMore(0, text[:7777]), text[7777:], impl.SumMore(0, text))
}

func TestSumOfKnownTexts(t *testing.T) {
	for _, c := range sumCases() {
		wantSumOf(t, c.text, c.sum)
	}
}

func TestSumOfManyTexts(t *testing.T) {
	for _, text := range append(bytesTexts(), sumTexts()...) {
		wantSumOf(t, text, int(crc32.ChecksumIEEE([]byte(text))))
	}
	for size := range 300 {
		text := longest()[:size]
		wantSumOf(t, text, int(crc32.ChecksumIEEE([]byte(text))))
	}
}

func TestSealedOfKnownTexts(t *testing.T) {
	wantSealed(t, "", "\x00\x00\x00\x00")
	wantSealed(t, "\x00", "\x00\x8d\xef\x02\xd2")
	wantSealed(t, "abc", "abc\xc2\x41\x24\x35")
	wantSealed(t, "123456789", "123456789\x26\x39\xf4\xcb")
	wantSealed(t, "\xff\xff\xff\xff", "\xff\xff\xff\xff\xff\xff\xff\xff")
	for _, c := range sumCases() {
		wantSealed(t, c.text, string(binary.LittleEndian.AppendUint32([]byte(c.text), uint32(c.sum))))
	}
}

func TestSealedOfLongTexts(t *testing.T) {
	for _, text := range []string{longest(), longest()[1:], strings.Repeat("\x00", impl.MaxText), strings.Repeat("x", impl.MaxText)} {
		wantSealed(t, text, string(binary.LittleEndian.AppendUint32([]byte(text), crc32.ChecksumIEEE([]byte(text)))))
	}
	for _, text := range []string{longest() + "\x00", longest() + "x", strings.Repeat("\x00", impl.MaxText+1), strings.Repeat("x", 2*impl.MaxText)} {
		wantNoSealed(t, text)
	}
}

func TestUnsealedUndoesSealed(t *testing.T) {
	wantUnsealed(t, "\x00\x00\x00\x00", "")
	wantUnsealed(t, "abc\xc2\x41\x24\x35", "abc")
	for _, text := range append(bytesTexts(), longest(), longest()[1:], strings.Repeat("x", impl.MaxText)) {
		sealed, _ := impl.Sealed(text)
		wantUnsealed(t, sealed, text)
	}
}

// Of a text that was sealed twice, only one checksum is removed.
func TestUnsealedOfATextSealedTwice(t *testing.T) {
	for _, sealed := range shortSealed(t) {
		twice, _ := impl.Sealed(sealed)
		wantUnsealed(t, twice, sealed)
	}
}

func TestUnsealedOfFewerThanFourBytes(t *testing.T) {
	for _, text := range bytesTexts() {
		if len(text) < 4 {
			wantNoUnsealed(t, text)
		}
	}
	for size := range 4 {
		wantNoUnsealed(t, strings.Repeat("\x00", size))
		wantNoUnsealed(t, strings.Repeat("\xff", size))
	}
}

func TestUnsealedOfNoOtherBytes(t *testing.T) {
	for _, text := range bytesTexts() {
		size := len(text) - 4
		if size >= 0 && crc32.ChecksumIEEE([]byte(text[:size])) == binary.LittleEndian.Uint32([]byte(text[size:])) {
			wantUnsealed(t, text, text[:size])
		} else {
			wantNoUnsealed(t, text)
		}
	}
}

func TestUnsealedWithOneByteTooManyOrTooFew(t *testing.T) {
	for _, sealed := range shortSealed(t) {
		wantNoUnsealed(t, sealed[:len(sealed)-1])
		for i := range 256 {
			extra := string([]byte{byte(i)})
			wantNoUnsealed(t, sealed+extra)
			wantNoUnsealed(t, extra+sealed)
		}
	}
	wantNoUnsealed(t, "bc\xc2\x41\x24\x35")
}

func TestUnsealedOfOtherOrdersOfTheBytes(t *testing.T) {
	wantNoUnsealed(t, "abc\x35\x24\x41\xc2")
	wantNoUnsealed(t, "\xc2\x41\x24\x35abc")
	wantNoUnsealed(t, "abc352441c2")
	wantNoUnsealed(t, "abc891568578")
}

func TestUnsealedOfLongTexts(t *testing.T) {
	text := longest()
	sealed, _ := impl.Sealed(text)
	wantUnsealed(t, sealed, text)
	wantNoUnsealed(t, sealed[:len(sealed)-1])
	wantNoUnsealed(t, sealed+"\x00")
	for _, longer := range []string{text + "\x00", text + "x", strings.Repeat("\x00", impl.MaxText+1), text + text} {
		// The checksum is right, but Sealed returns nothing for a text of this length.
		wantNoUnsealed(t, string(binary.LittleEndian.AppendUint32([]byte(longer), crc32.ChecksumIEEE([]byte(longer)))))
	}
}

func TestFlippedOfKnownBits(t *testing.T) {
	wantFlipped(t, "a", 0, 3, "b")
	wantFlipped(t, "\x00\x00", 0, 1, "\x01\x00")
	wantFlipped(t, "\x00\x00", 3, 1, "\x08\x00")
	wantFlipped(t, "\x00\x00", 3, 5, "\x28\x00")
	wantFlipped(t, "\x00\x00", 7, 1, "\x80\x00")
	wantFlipped(t, "\x00\x00", 7, 3, "\x80\x01")
	wantFlipped(t, "\x00\x00", 8, 1, "\x00\x01")
	wantFlipped(t, "\xff\xff", 4, 255, "\x0f\xf0")
	wantFlipped(t, "\x00\x00\x00\x00\x00", 4, 4294967295, "\xf0\xff\xff\xff\x0f")
	wantFlipped(t, "abcdef", 8, 0x20202020, "aBCDEf")
	wantFlipped(t, "\x00\x00\x00\x00\x00", 0, 1<<31, "\x00\x00\x00\x80\x00")
}

func TestFlippedAtTheEndAndBehindIt(t *testing.T) {
	wantFlipped(t, "\x00\x00", 15, 1, "\x00\x80")
	wantFlipped(t, "\x00\x00", 15, 4294967295, "\x00\x80")
	wantFlipped(t, "\x00\x00", 14, 7, "\x00\xc0")
	wantFlipped(t, "\x00\x00", 15, 4294967294, "\x00\x00")
	wantFlipped(t, "\x00\x00", 0, 4294967295, "\xff\xff")
	wantFlipped(t, "\x00\x00", 0, 1<<16, "\x00\x00")
	for _, text := range []string{"", "a", "ab", "\xff\xff\xff\xff\xff", allBytes()} {
		for _, at := range []int{8 * len(text), 8*len(text) + 1, 8*len(text) + 32, 1 << 32, 1 << 62, math.MaxInt - 32, math.MaxInt - 31, math.MaxInt - 30, math.MaxInt - 1, math.MaxInt} {
			for _, bits := range edgeWords() {
				wantFlipped(t, text, at, bits, text)
			}
		}
	}
}

func TestFlippedAtNegativeOffsets(t *testing.T) {
	for _, text := range []string{"", "a", "ab", allBytes()} {
		for _, at := range []int{-1, -2, -7, -8, -9, -31, -32, -33, -1 << 32, math.MinInt, math.MinInt + 1} {
			for _, bits := range edgeWords() {
				wantFlipped(t, text, at, bits, text)
			}
		}
	}
}

func TestFlippedOfBitsOutsideTheRange(t *testing.T) {
	for _, text := range []string{"", "a", "ab", allBytes()} {
		for _, at := range []int{0, 1, 7, 8, 15, 100, -1} {
			for _, bits := range wordsOutside() {
				wantFlipped(t, text, at, bits, text)
			}
		}
	}
}

func TestFlippedOfNoBits(t *testing.T) {
	for _, text := range []string{"", "a", "ab", allBytes()} {
		for at := range 8*len(text) + 2 {
			wantFlipped(t, text, at, 0, text)
		}
	}
}

func TestFlippedAtEveryOffset(t *testing.T) {
	for _, text := range []string{"", "a", "ab", "\x00\xff\x00\xff\x55", "123456789", longest()[:40]} {
		for at := range 8*len(text) + 3 {
			for _, bits := range edgeWords() {
				want := withFlipped(text, at, bits)
				wantFlipped(t, text, at, bits, want)
				wantFlipped(t, want, at, bits, text)
			}
		}
	}
}

func TestFlippedOfALongText(t *testing.T) {
	text := longest() + "tail"
	for _, at := range []int{0, 5, 80000, 159990, 159999, 160000, 160001, 160016, 160031} {
		for _, bits := range []int{1, 3, 0x80000001, 4294967295} {
			wantFlipped(t, text, at, bits, withFlipped(text, at, bits))
		}
	}
}

// The bursts reach from the text into the checksum, and behind the end.
func TestEveryShortBurstIsDetected(t *testing.T) {
	for _, sealed := range shortSealed(t) {
		for at := range 8 * len(sealed) {
			for bits := 1; bits < 1<<10; bits += 2 {
				wantDetected(t, sealed, at, bits)
			}
		}
	}
}

func TestBurstsOfEachLengthAreDetected(t *testing.T) {
	for _, sealed := range shortSealed(t) {
		for size := 1; size <= 32; size++ {
			for at := range 8 * len(sealed) {
				for _, bits := range burstsOf(size) {
					wantDetected(t, sealed, at, bits)
				}
			}
		}
	}
}

func TestBurstsInTheLongestTextAreDetected(t *testing.T) {
	sealed, _ := impl.Sealed(longest())
	end := 8 * len(sealed)
	offsets := []int{0, 1, 7, 8, 9, 31, 32}
	for at := 33; at < end-70; at += 1999 {
		offsets = append(offsets, at)
	}
	for at := end - 70; at < end; at++ {
		offsets = append(offsets, at)
	}
	for _, at := range offsets {
		for _, bits := range []int{1, 3, 0x101, 0xedb88321, 0x80000001, 4294967295} {
			wantDetected(t, sealed, at, bits)
		}
	}
}

func TestBurstsBehindTheEndChangeNothing(t *testing.T) {
	for _, sealed := range shortSealed(t) {
		for _, bits := range edgeWords() {
			wantUnsealed(t, impl.Flipped(sealed, 8*len(sealed), bits), sealed[:len(sealed)-4])
			wantUnsealed(t, impl.Flipped(sealed, -1, bits), sealed[:len(sealed)-4])
		}
	}
}

// syndrome is 0 if the last four bytes of text are the checksum of those before them.
func syndrome(text string) int {
	size := len(text) - 4
	return impl.SumOf(text[:size]) ^ int(binary.LittleEndian.Uint32([]byte(text[size:])))
}

// The syndrome of a burst is the exclusive or of those of its bits. So if
// those of 32 bits side by side are independent, no burst of them has the syndrome 0.
func TestTheBitsOfABurstAreIndependent(t *testing.T) {
	sealed, _ := impl.Sealed(longest()[:120])
	single := []int{}
	for at := range 8 * len(sealed) {
		single = append(single, syndrome(impl.Flipped(sealed, at, 1)))
	}
	for at := range len(single) - 31 {
		if rank := rankOf(single[at : at+32]); rank != 32 {
			t.Errorf("the syndromes of the bits from %d on have rank %d; want 32", at, rank)
		}
		for _, bits := range edgeWords() {
			want := 0
			for i := range 32 {
				want ^= single[at+i] * (bits >> i & 1)
			}
			if got := syndrome(impl.Flipped(sealed, at, bits)); got != want {
				t.Errorf("the syndrome of the burst %#x at %d is %#x; want %#x", bits, at, got, want)
			}
		}
	}
}

// rankOf counts the numbers that are not an exclusive or of others before them.
func rankOf(numbers []int) int {
	var leading [32]int
	rank := 0
	for _, n := range numbers {
		for i := 31; i >= 0 && n != 0; i-- {
			if n>>i&1 == 0 {
				continue
			}
			if leading[i] == 0 {
				leading[i] = n
				rank++
				break
			}
			n ^= leading[i]
		}
	}
	return rank
}
