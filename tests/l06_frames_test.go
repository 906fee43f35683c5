package tests

import (
	"encoding/binary"
	"hash/crc32"
	"math"
	"slices"
	"strings"
	"testing"

	"loop.example/g00968/impl"
)

type frameCase struct {
	version int
	payload string
	text    string
}

// frameCases holds frames whose checksums come from another program.
func frameCases() []frameCase {
	return []frameCase{
		{1, "", "BERTH\x01\x00\x00\x00\x00\x0d\x61\x32\xf3"},
		{9, "", "BERTH\x09\x00\x00\x00\x00\xcc\x2a\x42\xc3"},
		{2, "abc", "BERTH\x02\x03\x00\x00\x00abc\x7a\xc4\xaa\x36"},
		{3, "\x00", "BERTH\x03\x01\x00\x00\x00\x00\xea\x29\xe8\xdc"},
		{1, "BERTH", "BERTH\x01\x05\x00\x00\x00BERTH\x0f\x6d\xd0\xa8"},
		{9, "\xff\xff\xff\xff", "BERTH\x09\x04\x00\x00\x00\xff\xff\xff\xff\x00\xdd\xd6\xb2"},
		{4, "pods: []", "BERTH\x04\x08\x00\x00\x00pods: []\x13\x49\x14\x99"},
	}
}

// frameParts are what the bytes of a frame are made of, right or wrong.
type frameParts struct {
	magic   string
	version byte
	length  uint32
	payload string
	keep    int    // the number of bytes kept before the checksum
	damage  uint32 // what the right checksum is combined with
}

func partsOfFrame(version int, payload string) frameParts {
	return frameParts{magic: "BERTH", version: byte(version), length: uint32(len(payload)), payload: payload, keep: 10 + len(payload)}
}

func (p frameParts) text() string {
	body := append([]byte(p.magic), p.version)
	body = binary.LittleEndian.AppendUint32(body, p.length)
	body = append(body, p.payload...)
	body = body[:min(p.keep, len(body))]
	return string(binary.LittleEndian.AppendUint32(body, crc32.ChecksumIEEE(body)^p.damage))
}

// framed is the text of a valid frame.
func framed(version int, payload string) string { return partsOfFrame(version, payload).text() }

// longestPayload is the longest payload of a valid frame.
func longestPayload() string { return longest()[:19980] }

func framePayloads() []string {
	list := []string{"", "a", "abc", "\x00", "\xff", "BERTH", "\x00\x00\x00\x00", "caf\u00e9\n", "\x80\xfe\xff", allBytes(), framed(1, ""), framed(9, "abc")}
	for _, size := range []int{13, 14, 127, 128, 255, 256, 257, 511, 4096, 16383, 16384, 19979, 19980} {
		list = append(list, longest()[:size], strings.Repeat("\x00", size))
	}
	return list
}

// shortFrames are frames that are short enough for a visit to every offset.
func shortFrames() []frameCase {
	list := frameCases()
	for version := 1; version <= 9; version++ {
		list = append(list, frameCase{version, "one", framed(version, "one")})
	}
	return append(list, frameCase{7, longest()[:60], framed(7, longest()[:60])})
}

// badVersions are versions outside the range, among them ones whose lowest byte is within it.
func badVersions() []int {
	return []int{0, 10, 11, 127, 128, 255, 256, 257, 265, 65537, 1<<32 + 1, 1 << 62, math.MaxInt, math.MaxInt - 1, -1, -2, -9, -247, -255, math.MinInt, math.MinInt + 1}
}

// codeOfFrame is the code of ReadFrame, by the words of the document.
func codeOfFrame(text string) int {
	if len(text) < 14 {
		return 1
	}
	if text[:5] != "BERTH" {
		return 2
	}
	if text[5] < 1 || text[5] > 9 {
		return 3
	}
	length := int(binary.LittleEndian.Uint32([]byte(text[6:10])))
	if length != len(text)-14 || length > 19980 {
		return 4
	}
	end := len(text) - 4
	if binary.LittleEndian.Uint32([]byte(text[end:])) != crc32.ChecksumIEEE([]byte(text[:end])) {
		return 5
	}
	return 0
}

// wantFrame checks that a frame and a text stand for each other.
func wantFrame(t *testing.T, version int, payload string, text string) {
	t.Helper()
	f := impl.Frame{Version: version, Payload: payload}
	if !impl.FrameOk(f) {
		t.Errorf("FrameOk(%d, %.40q of %d bytes) = false; want true", version, payload, len(payload))
	}
	if got := impl.FrameText(f); got != text {
		t.Errorf("FrameText(%d, %.40q of %d bytes) = %.60q of %d bytes; want %.60q of %d bytes", version, payload, len(payload), got, len(got), text, len(text))
	}
	if got := impl.FrameSize(f); got != len(text) {
		t.Errorf("FrameSize(%d, %.40q of %d bytes) = %d; want %d", version, payload, len(payload), got, len(text))
	}
	if got, code := impl.ReadFrame(text); got != f || code != 0 {
		t.Errorf("ReadFrame(%.60q of %d bytes) = %d, %.40q of %d bytes, code %d; want %d, %.40q, code 0", text, len(text), got.Version, got.Payload, len(got.Payload), code, version, payload)
	}
	if got, code := impl.VersionIn(text); got != version || code != 0 {
		t.Errorf("VersionIn(%.60q of %d bytes) = %d, %d; want %d, 0", text, len(text), got, code, version)
	}
}

// wantNoFrame checks that a text stands for no frame.
func wantNoFrame(t *testing.T, text string, want int) {
	t.Helper()
	if got, code := impl.ReadFrame(text); got != (impl.Frame{}) || code != want {
		t.Errorf("ReadFrame(%.60q of %d bytes) = %d, %.40q of %d bytes, code %d; want the zero Frame, code %d", text, len(text), got.Version, got.Payload, len(got.Payload), code, want)
	}
	if got, code := impl.VersionIn(text); got != 0 || code != want {
		t.Errorf("VersionIn(%.60q of %d bytes) = %d, %d; want 0, %d", text, len(text), got, code, want)
	}
	for _, version := range []int{1, 2, 9, 0, 10} {
		wantReframed(t, text, version, "")
	}
}

func wantNoFrameText(t *testing.T, version int, payload string) {
	t.Helper()
	f := impl.Frame{Version: version, Payload: payload}
	if impl.FrameOk(f) {
		t.Errorf("FrameOk(%d, %d bytes) = true; want false", version, len(payload))
	}
	if got := impl.FrameText(f); got != "" {
		t.Errorf("FrameText(%d, %d bytes) = %.60q of %d bytes; want \"\"", version, len(payload), got, len(got))
	}
	if got := impl.FrameSize(f); got != 0 {
		t.Errorf("FrameSize(%d, %d bytes) = %d; want 0", version, len(payload), got)
	}
}

func wantReframed(t *testing.T, text string, version int, want string) {
	t.Helper()
	if got := impl.Reframed(text, version); got != want {
		t.Errorf("Reframed(%.60q of %d bytes, %d) = %.60q of %d bytes; want %.60q of %d bytes", text, len(text), version, got, len(got), want, len(want))
	}
}

func TestFrameConstants(t *testing.T) {
	if impl.Magic != "BERTH" || impl.MaxVersion != 9 {
		t.Errorf("Magic, MaxVersion = %q, %d; want \"BERTH\", 9", impl.Magic, impl.MaxVersion)
	}
	codes := []int{impl.FrShort, impl.FrMagic, impl.FrVersion, impl.FrLength, impl.FrSum}
	if !slices.Equal(codes, []int{1, 2, 3, 4, 5}) {
		t.Errorf("the codes are %v; want 1 to 5", codes)
	}
}

func TestFramesOfKnownBytes(t *testing.T) {
	for _, c := range frameCases() {
		wantFrame(t, c.version, c.payload, c.text)
	}
}

func TestFramesOfEachVersionAndManyPayloads(t *testing.T) {
	for version := 1; version <= 9; version++ {
		for _, payload := range framePayloads() {
			wantFrame(t, version, payload, framed(version, payload))
		}
	}
}

func TestFramesOfAllShortPayloads(t *testing.T) {
	for i, payload := range bytesTexts() {
		version := i%9 + 1
		wantFrame(t, version, payload, framed(version, payload))
	}
}

func TestFramesWithVersionsOutsideTheRange(t *testing.T) {
	for _, version := range badVersions() {
		for _, payload := range []string{"", "abc", longestPayload(), longest()} {
			wantNoFrameText(t, version, payload)
		}
	}
}

func TestFramesOfTheZeroFrame(t *testing.T) {
	if impl.FrameOk(impl.Frame{}) || impl.FrameText(impl.Frame{}) != "" || impl.FrameSize(impl.Frame{}) != 0 {
		t.Errorf("the zero Frame: %v, %q, %d; want false, \"\", 0", impl.FrameOk(impl.Frame{}), impl.FrameText(impl.Frame{}), impl.FrameSize(impl.Frame{}))
	}
}

func TestFramesAtTheLongestPayload(t *testing.T) {
	for version := 1; version <= 9; version++ {
		for _, payload := range []string{longestPayload(), strings.Repeat("\x00", 19980), strings.Repeat("\xff", 19980)} {
			text := framed(version, payload)
			if len(text) != 19994 {
				t.Fatalf("the longest frame has %d bytes; want 19994", len(text))
			}
			wantFrame(t, version, payload, text)
			wantFrame(t, version, payload[1:], framed(version, payload[1:]))
			wantNoFrameText(t, version, payload+"x")
		}
	}
}

func TestFramesBeyondTheLongestPayload(t *testing.T) {
	for _, size := range []int{19981, 19982, 19986, 19990, 19991, 20000, 20001, 65535, 65536, 65537, 1 << 20} {
		for _, version := range []int{1, 5, 9} {
			payload := strings.Repeat("x", size)
			wantNoFrameText(t, version, payload)
			// Its checksum is right and its length that of the rest, but FrameText returns nothing for this payload.
			wantNoFrame(t, framed(version, payload), impl.FrLength)
		}
	}
}

func TestReadFrameOfFewerThanFourteenBytes(t *testing.T) {
	for _, text := range bytesTexts() {
		wantNoFrame(t, text, impl.FrShort)
	}
	for _, c := range shortFrames() {
		for size := range 14 {
			wantNoFrame(t, c.text[:size], impl.FrShort)
			wantNoFrame(t, c.text[len(c.text)-size:], impl.FrShort)
			wantNoFrame(t, strings.Repeat("\x00", size), impl.FrShort)
		}
	}
	sealed, _ := impl.Sealed("BERTH\x01\x00\x00\x00")
	wantNoFrame(t, sealed, impl.FrShort)
}

func TestReadFrameOfFourteenBytes(t *testing.T) {
	wantFrame(t, 1, "", "BERTH\x01\x00\x00\x00\x00\x0d\x61\x32\xf3")
	wantNoFrame(t, strings.Repeat("\x00", 14), impl.FrMagic)
	wantNoFrame(t, "BERTH"+strings.Repeat("\x00", 9), impl.FrVersion)
	wantNoFrame(t, "BERTH\x01\x01"+strings.Repeat("\x00", 7), impl.FrLength)
	wantNoFrame(t, "BERTH\x01"+strings.Repeat("\x00", 8), impl.FrSum)
}

func TestReadFrameWithOneByteTooManyOrTooFew(t *testing.T) {
	for _, c := range shortFrames() {
		if len(c.text) == 14 {
			wantNoFrame(t, c.text[:13], impl.FrShort)
			wantNoFrame(t, c.text[1:], impl.FrShort)
		} else {
			wantNoFrame(t, c.text[:len(c.text)-1], impl.FrLength)
			wantNoFrame(t, c.text[1:], impl.FrMagic)
		}
		for i := range 256 {
			extra := string([]byte{byte(i)})
			wantNoFrame(t, c.text+extra, impl.FrLength)
			wantNoFrame(t, extra+c.text, impl.FrMagic)
		}
	}
	text := framed(3, longestPayload())
	wantNoFrame(t, text[:len(text)-1], impl.FrLength)
	wantNoFrame(t, text+"\x00", impl.FrLength)
	wantNoFrame(t, text[1:], impl.FrMagic)
}

func TestReadFrameOfEachPrefix(t *testing.T) {
	for _, c := range shortFrames() {
		for size := 14; size < len(c.text); size++ {
			wantNoFrame(t, c.text[:size], impl.FrLength)
		}
		wantNoFrame(t, c.text+c.text, impl.FrLength)
	}
}

func TestReadFrameWithEachByteOfMagicChanged(t *testing.T) {
	for _, c := range shortFrames() {
		for at := range 5 {
			for i := range 256 {
				if byte(i) == c.text[at] {
					continue
				}
				p := partsOfFrame(c.version, c.payload)
				p.magic = c.text[:at] + string([]byte{byte(i)}) + c.text[at+1:5]
				wantNoFrame(t, p.text(), impl.FrMagic)
				wantNoFrame(t, p.magic+c.text[5:], impl.FrMagic)
			}
		}
	}
	for _, magic := range []string{"berth", "Berth", "HTREB", "BERHT", "\x00\x00\x00\x00\x00", " BERT"} {
		p := partsOfFrame(1, "abc")
		p.magic = magic
		wantNoFrame(t, p.text(), impl.FrMagic)
	}
}

func TestReadFrameOfEachVersionByte(t *testing.T) {
	for _, payload := range []string{"", "abc", longestPayload()} {
		for version := range 256 {
			text := framed(version, payload)
			if version >= 1 && version <= 9 {
				wantFrame(t, version, payload, text)
			} else {
				wantNoFrame(t, text, impl.FrVersion)
			}
		}
	}
}

// The checksum covers the version, so that another one cannot be put in its place.
func TestReadFrameWithTheVersionOfAnotherFrame(t *testing.T) {
	for _, c := range shortFrames() {
		for version := range 256 {
			text := c.text[:5] + string([]byte{byte(version)}) + c.text[6:]
			switch {
			case version == c.version:
				wantFrame(t, c.version, c.payload, text)
			case version >= 1 && version <= 9:
				wantNoFrame(t, text, impl.FrSum)
			default:
				wantNoFrame(t, text, impl.FrVersion)
			}
		}
	}
}

func TestReadFrameOfOtherLengths(t *testing.T) {
	for _, payload := range framePayloads() {
		right := uint32(len(payload))
		for _, length := range []uint32{0, right - 1, right + 1, right + 4, right + 10, right + 14, right ^ 1<<8, right ^ 1<<15, right ^ 1<<16, right ^ 1<<23, right ^ 1<<24, right ^ 1<<31, right | 0xff000000, right + 1<<16, 0x7fffffff, 0x80000000, 0xffffffff} {
			p := partsOfFrame(2, payload)
			p.length = length
			if length == right {
				wantFrame(t, 2, payload, p.text())
			} else {
				wantNoFrame(t, p.text(), impl.FrLength)
			}
		}
	}
}

// The four bytes of the length are in the order of FixedText.
func TestReadFrameOfALengthInTheOtherOrder(t *testing.T) {
	p := partsOfFrame(2, "abc")
	p.length = 3 << 24
	wantNoFrame(t, p.text(), impl.FrLength)
	p = partsOfFrame(2, longest()[:257])
	p.length = 0x01010000
	wantNoFrame(t, p.text(), impl.FrLength)
}

func TestReadFrameOfOtherChecksums(t *testing.T) {
	for _, c := range shortFrames() {
		body := c.text[:len(c.text)-4]
		right := crc32.ChecksumIEEE([]byte(body))
		for _, damage := range edgeWords() {
			p := partsOfFrame(c.version, c.payload)
			p.damage = uint32(damage)
			if damage == 0 {
				wantFrame(t, c.version, c.payload, p.text())
			} else {
				wantNoFrame(t, p.text(), impl.FrSum)
			}
		}
		for _, sum := range []uint32{0, ^right, crc32.ChecksumIEEE([]byte(c.payload)), crc32.ChecksumIEEE([]byte(body[5:])), crc32.ChecksumIEEE([]byte(body[:10])) ^ 1} {
			wantNoFrame(t, string(binary.LittleEndian.AppendUint32([]byte(body), sum)), impl.FrSum)
		}
		wantNoFrame(t, string(binary.BigEndian.AppendUint32([]byte(body), right)), impl.FrSum)
	}
	p := partsOfFrame(9, longestPayload())
	p.damage = 1 << 31
	wantNoFrame(t, p.text(), impl.FrSum)
}

// frameFaults holds, for each code, ways to damage a frame so that the code applies.
func frameFaults() [][]func(p *frameParts) {
	return [][]func(p *frameParts){
		{
			func(p *frameParts) { p.keep = 9 },
			func(p *frameParts) { p.keep = 6 },
		},
		{
			func(p *frameParts) { p.magic = "XERTH" },
			func(p *frameParts) { p.magic = "BERTh" },
			func(p *frameParts) { p.magic = "\x00\x00\x00\x00\x00" },
		},
		{
			func(p *frameParts) { p.version = 0 },
			func(p *frameParts) { p.version = 10 },
			func(p *frameParts) { p.version = 255 },
		},
		{
			func(p *frameParts) { p.length = uint32(len(p.payload)) + 1 },
			func(p *frameParts) { p.length = uint32(len(p.payload)) - 1 },
			func(p *frameParts) { p.length = uint32(len(p.payload)) | 1<<31 },
			func(p *frameParts) {
				p.payload = longestPayload() + "x"
				p.length = uint32(len(p.payload))
				p.keep += len(p.payload)
			},
		},
		{
			func(p *frameParts) { p.damage = 1 },
			func(p *frameParts) { p.damage = 1 << 31 },
			func(p *frameParts) { p.damage = 0xffffffff },
		},
	}
}

func TestReadFrameOfEachSingleFault(t *testing.T) {
	for i, ways := range frameFaults() {
		for _, damage := range ways {
			for _, payload := range []string{"", "abc", longestPayload()} {
				p := partsOfFrame(3, payload)
				damage(&p)
				wantNoFrame(t, p.text(), i+1)
			}
		}
	}
}

func TestReadFrameOfEachPairOfFaults(t *testing.T) {
	faults := frameFaults()
	for i, ways := range faults {
		for j := i + 1; j < len(faults); j++ {
			for _, first := range ways {
				for _, second := range faults[j] {
					for _, payload := range []string{"", "abc", allBytes()} {
						p := partsOfFrame(3, payload)
						second(&p)
						first(&p)
						wantNoFrame(t, p.text(), i+1)
					}
				}
			}
		}
	}
}

func TestReadFrameOfEachSetOfFaults(t *testing.T) {
	faults := frameFaults()
	for set := 1; set < 1<<len(faults); set++ {
		for way := range 4 {
			p := partsOfFrame(8, "pods: []")
			want := 0
			for i := len(faults) - 1; i >= 0; i-- {
				if set>>i&1 == 1 {
					faults[i][way%len(faults[i])](&p)
					want = i + 1
				}
			}
			wantNoFrame(t, p.text(), want)
		}
	}
}

func TestReadFrameWithEachByteChanged(t *testing.T) {
	for _, c := range shortFrames() {
		for at := range len(c.text) {
			want := impl.FrSum
			switch {
			case at < 5:
				want = impl.FrMagic
			case at >= 6 && at < 10:
				want = impl.FrLength
			}
			for i := range 256 {
				// Versions have a test of their own.
				if byte(i) == c.text[at] || at == 5 {
					continue
				}
				wantNoFrame(t, c.text[:at]+string([]byte{byte(i)})+c.text[at+1:], want)
			}
		}
	}
}

func TestReadFrameWithTwoBytesChanged(t *testing.T) {
	for _, c := range frameCases() {
		for first := range len(c.text) {
			for second := range first {
				for _, change := range []byte{1, 2, 8, 0x80, 0xff} {
					text := []byte(c.text)
					text[first] ^= change
					text[second] ^= 3
					if want := codeOfFrame(string(text)); want == 0 {
						t.Errorf("the checksum of %q is right", text)
					} else {
						wantNoFrame(t, string(text), want)
					}
				}
			}
		}
	}
}

func TestReadFrameOfBytesInAnotherOrder(t *testing.T) {
	for _, c := range shortFrames() {
		reversed := []byte(c.text)
		slices.Reverse(reversed)
		wantNoFrame(t, string(reversed), impl.FrMagic)
		for at := 1; at < len(c.text); at++ {
			text := c.text[at:] + c.text[:at]
			wantNoFrame(t, text, codeOfFrame(text))
		}
	}
}

func TestReadFrameOfABurst(t *testing.T) {
	for _, c := range frameCases() {
		for at := range 8 * len(c.text) {
			for size := 1; size <= 32; size++ {
				bursts := burstsOf(size)
				for _, bits := range bursts[:min(4, len(bursts))] {
					text := impl.Flipped(c.text, at, bits)
					if want := codeOfFrame(text); want == 0 {
						t.Errorf("the burst %#x at %d of %q leaves a frame", bits, at, c.text)
					} else {
						wantNoFrame(t, text, want)
					}
				}
			}
		}
	}
}

func TestReadFrameOfTextsThatAreNoFrames(t *testing.T) {
	wantNoFrame(t, "hosts: []\npods: []", impl.FrMagic)
	wantNoFrame(t, "BERTHBERTHBERTH", impl.FrVersion)
	wantNoFrame(t, "BERTH9\x00\x00\x00\x00\x00\x00\x00\x00", impl.FrVersion)
	wantNoFrame(t, allBytes(), impl.FrMagic)
	wantNoFrame(t, longest()+longest(), impl.FrMagic)
	for _, c := range shortFrames() {
		digits, _ := impl.Hex(c.text)
		wantNoFrame(t, digits, impl.FrMagic)
		sealed, _ := impl.Sealed(c.text)
		wantNoFrame(t, sealed, impl.FrLength)
	}
}

// A frame inside a frame is a payload like any other.
func TestReadFrameOfAFrameInAFrame(t *testing.T) {
	for _, c := range shortFrames() {
		wantFrame(t, 5, c.text, framed(5, c.text))
		wantNoFrame(t, "BERTH"+c.text, impl.FrVersion)
	}
}

func TestReframedToEachVersion(t *testing.T) {
	for _, payload := range framePayloads() {
		for from := 1; from <= 9; from++ {
			for to := 1; to <= 9; to++ {
				wantReframed(t, framed(from, payload), to, framed(to, payload))
			}
		}
	}
}

func TestReframedToVersionsOutsideTheRange(t *testing.T) {
	for _, payload := range []string{"", "abc", longestPayload()} {
		for from := 1; from <= 9; from++ {
			for _, to := range badVersions() {
				wantReframed(t, framed(from, payload), to, "")
			}
		}
	}
}

// The zero Frame that belongs to an error must not be written with the new version.
func TestReframedOfTextsThatAreNoFrames(t *testing.T) {
	texts := []string{"", "x", "BERTH", "hosts: []\npods: []", strings.Repeat("\x00", 14), framed(0, ""), framed(10, ""), framed(1, longest()), framed(1, "")[1:], framed(1, "") + "x", "BERTH\x01" + strings.Repeat("\x00", 8)}
	for _, text := range texts {
		for to := -2; to <= 12; to++ {
			wantReframed(t, text, to, "")
		}
	}
}

func TestReframedUndoesItself(t *testing.T) {
	for _, c := range shortFrames() {
		for to := 1; to <= 9; to++ {
			wantReframed(t, impl.Reframed(c.text, to), c.version, c.text)
		}
	}
}

func TestDifferentFramesHaveDifferentTexts(t *testing.T) {
	seen := map[string]impl.Frame{}
	for version := 1; version <= 9; version++ {
		for _, payload := range framePayloads() {
			f := impl.Frame{Version: version, Payload: payload}
			text := impl.FrameText(f)
			if other, ok := seen[text]; ok && other != f {
				t.Errorf("FrameText(%d, %d bytes) is that of %d, %d bytes", version, len(payload), other.Version, len(other.Payload))
			}
			seen[text] = f
		}
	}
}
