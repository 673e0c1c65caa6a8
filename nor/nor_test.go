package nor_test

import (
	"math"
	"strings"
	"sync"
	"testing"
	"unsafe"

	"skiff/api"
	"skiff/nor"
)

// mixed is a flash of bytes of every value, no two neighbouring words of it alike; each seed makes another one.
func mixed(seed int) string {
	b := make([]byte, api.FlashSize)
	for i := range b {
		b[i] = byte(i*7 + i/256*31 + seed*101)
	}
	return string(b)
}

// someFlashes are flashes that may be: blank, all cleared, mixed.
func someFlashes() []string {
	return []string{strings.Repeat("\xff", 768), strings.Repeat("\x00", 768), mixed(0), mixed(1), mixed(2)}
}

// wrongFlashes are texts that no flash may be.
func wrongFlashes() []string {
	long := mixed(0) + mixed(1)
	return []string{"", "\xff", long[:4], long[:96], long[:767], long[:769], long, strings.Repeat("é", 768)}
}

// someWords are words: all bits, none, each half, each bit alone, each bit missing.
func someWords() []string {
	words := []string{"\xff\xff\xff\xff", "\x00\x00\x00\x00", "\x0f\xf0\x55\xaa", "\x01\x80\xfe\x7f", "skif"}
	for bit := range 32 {
		words = append(words, wordOf(1<<bit), wordOf(^uint32(1<<bit)))
	}
	return words
}

// wordOf is the word of these bits, the lowest of its first byte first.
func wordOf(n uint32) string {
	return string([]byte{byte(n), byte(n >> 8), byte(n >> 16), byte(n >> 24)})
}

// bitsOf turns a word back.
func bitsOf(w string) uint32 {
	return uint32(w[0]) | uint32(w[1])<<8 | uint32(w[2])<<16 | uint32(w[3])<<24
}

// wrongPlaces are places at which no word begins.
func wrongPlaces() []int {
	return []int{math.MinInt, -768, -8, -4, -3, -1, 1, 2, 3, 5, 6, 7, 94, 97, 763, 765, 766, 767, 768, 769, 772, 1536,
		math.MaxInt - 3, math.MaxInt, 1 << 32, 1<<32 + 4, 1 << 62, -(1 << 62)}
}

// wrongWords are texts that have not Word bytes.
func wrongWords() []string {
	return []string{"", "a", "ab", "abc", "abcde", "abcdefgh", "\xff\xff\xff", "\xff\xff\xff\xff\xff", "éé\x00", strings.Repeat("w", 768)}
}

// wrongSectors are sectors that are not there.
func wrongSectors() []int {
	return []int{math.MinInt, -8, -2, -1, 8, 9, 96, 768, 1 << 32, 1 << 62, math.MaxInt}
}

// wrongBits are below 0, or more than a word has.
func wrongBits() []int {
	return []int{math.MinInt, -32, -1, 33, 34, 40, 64, 256, 1 << 32, math.MaxInt}
}

// wrongMany are below 0, or more bytes than a sector has.
func wrongMany() []int {
	return []int{math.MinInt, -96, -1, 97, 98, 192, 768, 1 << 32, math.MaxInt}
}

// refused fails unless the answer is ErrNorForm with nothing beside it.
func refused(t *testing.T, what string, got string, e api.Errno) {
	t.Helper()
	if got != "" || e != api.ErrNorForm {
		t.Errorf("%s: %d bytes, error %d; want none, error %d", what, len(got), e, api.ErrNorForm)
	}
}

// answered fails unless the answer is just this flash.
func answered(t *testing.T, what string, got string, e api.Errno, want string) {
	t.Helper()
	if e != api.OK {
		t.Fatalf("%s: error %d", what, e)
	}
	if got == want {
		return
	}
	if len(got) != len(want) {
		t.Fatalf("%s: %d bytes, want %d", what, len(got), len(want))
	}
	for i := range len(want) {
		if got[i] != want[i] {
			t.Fatalf("%s: byte %d is %#x, want %#x", what, i, got[i], want[i])
		}
	}
}

// P2.1: a blank flash is FlashSize bytes 255, and may be.
func TestBlank(t *testing.T) {
	f := nor.Blank()
	if len(f) != 768 {
		t.Fatalf("P2.1: %d bytes, want 768", len(f))
	}
	for i := range len(f) {
		if f[i] != 255 {
			t.Fatalf("P2.1: byte %d is %d", i, f[i])
		}
	}
	if !nor.May(f) {
		t.Error("P2.1: a blank flash may not be")
	}
}

// P2.1: a flash may be whatever its bytes are, if they are FlashSize.
func TestMay(t *testing.T) {
	for i, f := range someFlashes() {
		if !nor.May(f) {
			t.Errorf("P2.1: flash %d may not be", i)
		}
	}
	for i, f := range wrongFlashes() {
		if nor.May(f) {
			t.Errorf("P2.1: wrong flash %d (%d bytes) may be", i, len(f))
		}
	}
	for n := range 2 * 768 {
		if got := nor.May(strings.Repeat("\xff", n)); got != (n == 768) {
			t.Errorf("P2.1: of %d bytes: %t", n, got)
		}
	}
	// Bytes count, not letters: this one has 768 letters, and 1536 bytes; that one 384 letters, and 768 bytes.
	if nor.May(strings.Repeat("é", 768)) || !nor.May(strings.Repeat("é", 384)) {
		t.Error("P2.1: letters are counted")
	}
}

// P2.2: at every word, of every kind of word: the bits that both have; all else stays.
func TestProgram(t *testing.T) {
	for _, f := range someFlashes() {
		for at := 0; at < 768; at += 4 {
			for _, w := range someWords() {
				got, e := nor.Program(f, at, w)
				both := wordOf(bitsOf(f[at:at+4]) & bitsOf(w))
				answered(t, "P2.2: Program", got, e, f[:at]+both+f[at+4:])
			}
		}
	}
}

// P2.2: each pair of a flash's byte and a word's byte.
func TestProgramEveryPairOfBytes(t *testing.T) {
	for had := range 256 {
		f := strings.Repeat(string([]byte{byte(had)}), 768)
		for put := range 256 {
			got, e := nor.Program(f, 8, strings.Repeat(string([]byte{byte(put)}), 4))
			both := strings.Repeat(string([]byte{byte(had & put)}), 4)
			answered(t, "P2.2: Program", got, e, f[:8]+both+f[12:])
		}
	}
}

// P2.2: programming sets no bit again; a second time the same word changes nothing.
func TestProgramOnlyClears(t *testing.T) {
	once, e := nor.Program(nor.Blank(), 96, "\x12\x34\x56\x78")
	answered(t, "P2.2: on blank", once, e, strings.Repeat("\xff", 96)+"\x12\x34\x56\x78"+strings.Repeat("\xff", 668))
	again, e := nor.Program(once, 96, "\x12\x34\x56\x78")
	answered(t, "P2.2: again", again, e, once)
	nothing, e := nor.Program(once, 96, "\xff\xff\xff\xff")
	answered(t, "P2.2: all bits", nothing, e, once)
	other, e := nor.Program(once, 96, "\xed\xcb\xa9\x87")
	answered(t, "P2.2: the complement", other, e, once[:96]+"\x00\x00\x00\x00"+once[100:])
}

// P2.2: what Program refuses.
func TestProgramRefuses(t *testing.T) {
	for _, f := range wrongFlashes() {
		got, e := nor.Program(f, 0, "abcd")
		refused(t, "P2.2: wrong flash", got, e)
	}
	for _, f := range someFlashes() {
		for _, at := range wrongPlaces() {
			got, e := nor.Program(f, at, "abcd")
			refused(t, "P2.2: wrong place", got, e)
		}
		for _, w := range wrongWords() {
			got, e := nor.Program(f, 0, w)
			refused(t, "P2.2: wrong word", got, e)
			got, e = nor.Program(f, 764, w)
			refused(t, "P2.2: wrong word at the last place", got, e)
		}
	}
	got, e := nor.Program("", -1, "")
	refused(t, "P2.2: all of it wrong", got, e)
}

// P2.2: of every place from below the flash to beyond it, just the words' beginnings are taken.
func TestProgramEveryPlace(t *testing.T) {
	f := mixed(3)
	for at := -100; at < 900; at++ {
		_, e := nor.Program(f, at, "abcd")
		if taken := at >= 0 && at <= 764 && at%4 == 0; taken != (e == api.OK) {
			t.Errorf("P2.2: at %d: error %d", at, e)
		}
	}
}

// P2.2: each sector's bytes are 255, those of the others stay.
func TestErase(t *testing.T) {
	for _, f := range someFlashes() {
		for sector := range 8 {
			got, e := nor.Erase(f, sector)
			answered(t, "P2.2: Erase", got, e, f[:96*sector]+strings.Repeat("\xff", 96)+f[96*sector+96:])
		}
	}
}

// P2.2: all sectors erased, one behind the other, are a blank flash.
func TestEraseAll(t *testing.T) {
	f := mixed(4)
	for sector := range 8 {
		next, e := nor.Erase(f, sector)
		if e != api.OK {
			t.Fatalf("P2.2: sector %d: error %d", sector, e)
		}
		f = next
	}
	if f != nor.Blank() {
		t.Error("P2.2: not blank behind all of them")
	}
}

// P2.2: what Erase refuses.
func TestEraseRefuses(t *testing.T) {
	for _, f := range wrongFlashes() {
		for sector := range 8 {
			got, e := nor.Erase(f, sector)
			refused(t, "P2.2: wrong flash", got, e)
		}
	}
	for _, f := range someFlashes() {
		for _, sector := range wrongSectors() {
			got, e := nor.Erase(f, sector)
			refused(t, "P2.2: wrong sector", got, e)
		}
	}
}

// P2.3: of each number of bits just these, the lowest of the first byte first; all else stays.
func TestTorn(t *testing.T) {
	for _, f := range someFlashes() {
		for _, at := range []int{0, 4, 92, 96, 380, 764} {
			for _, w := range someWords() {
				for bits := range 33 {
					// Shifting by 32 leaves none: that is all of the word.
					lasting := bitsOf(w) | ^uint32(0)<<bits
					torn := wordOf(bitsOf(f[at:at+4]) & lasting)
					got, e := nor.Torn(f, at, w, bits)
					answered(t, "P2.3: Torn", got, e, f[:at]+torn+f[at+4:])
				}
			}
		}
	}
}

// P2.3: at every word.
func TestTornEveryPlace(t *testing.T) {
	f := mixed(5)
	for at := 0; at < 768; at += 4 {
		got, e := nor.Torn(f, at, "\x00\x00\x00\x00", 11)
		torn := string([]byte{0, f[at+1] & 0xf8}) + f[at+2:at+4]
		answered(t, "P2.3: Torn", got, e, f[:at]+torn+f[at+4:])
	}
}

// P2.3: known words: bits go from the lowest of the first byte on.
func TestTornKnown(t *testing.T) {
	for _, c := range []struct {
		bits int
		want string
	}{
		{0, "\xff\xff\xff\xff"},
		{1, "\xfe\xff\xff\xff"},
		{7, "\x80\xff\xff\xff"},
		{8, "\x00\xff\xff\xff"},
		{9, "\x00\xfe\xff\xff"},
		{16, "\x00\x00\xff\xff"},
		{20, "\x00\x00\xf0\xff"},
		{24, "\x00\x00\x00\xff"},
		{31, "\x00\x00\x00\x80"},
		{32, "\x00\x00\x00\x00"},
	} {
		got, e := nor.Torn(nor.Blank(), 4, "\x00\x00\x00\x00", c.bits)
		blank := nor.Blank()
		answered(t, "P2.3: Torn", got, e, blank[:4]+c.want+blank[8:])
	}
}

// P2.3: of no bits nothing is done, of all it is Program.
func TestTornEnds(t *testing.T) {
	for _, f := range someFlashes() {
		for _, w := range someWords() {
			none, e := nor.Torn(f, 8, w, 0)
			answered(t, "P2.3: no bits", none, e, f)
			all, e := nor.Torn(f, 8, w, 32)
			whole, _ := nor.Program(f, 8, w)
			answered(t, "P2.3: all bits", all, e, whole)
		}
	}
}

// P2.3: what Torn refuses.
func TestTornRefuses(t *testing.T) {
	for bits := range 33 {
		for _, f := range wrongFlashes() {
			got, e := nor.Torn(f, 0, "abcd", bits)
			refused(t, "P2.3: wrong flash", got, e)
		}
		for _, at := range wrongPlaces() {
			got, e := nor.Torn(mixed(0), at, "abcd", bits)
			refused(t, "P2.3: wrong place", got, e)
		}
		for _, w := range wrongWords() {
			got, e := nor.Torn(mixed(0), 0, w, bits)
			refused(t, "P2.3: wrong word", got, e)
		}
	}
	for _, f := range someFlashes() {
		for _, bits := range wrongBits() {
			got, e := nor.Torn(f, 0, "abcd", bits)
			refused(t, "P2.3: wrong bits", got, e)
		}
	}
}

// P2.3: of each sector and each number of bytes just these are 255; all else stays.
func TestWorn(t *testing.T) {
	for _, f := range someFlashes() {
		for sector := range 8 {
			for many := range 97 {
				got, e := nor.Worn(f, sector, many)
				from := 96 * sector
				answered(t, "P2.3: Worn", got, e, f[:from]+strings.Repeat("\xff", many)+f[from+many:])
			}
		}
	}
}

// P2.3: of no bytes nothing is done, of all it is Erase.
func TestWornEnds(t *testing.T) {
	for _, f := range someFlashes() {
		for sector := range 8 {
			none, e := nor.Worn(f, sector, 0)
			answered(t, "P2.3: no bytes", none, e, f)
			all, e := nor.Worn(f, sector, 96)
			whole, _ := nor.Erase(f, sector)
			answered(t, "P2.3: all bytes", all, e, whole)
		}
	}
}

// P2.3: what Worn refuses.
func TestWornRefuses(t *testing.T) {
	for many := range 97 {
		for _, f := range wrongFlashes() {
			got, e := nor.Worn(f, 0, many)
			refused(t, "P2.3: wrong flash", got, e)
		}
		for _, sector := range wrongSectors() {
			got, e := nor.Worn(mixed(0), sector, many)
			refused(t, "P2.3: wrong sector", got, e)
		}
	}
	for _, f := range someFlashes() {
		for _, many := range wrongMany() {
			got, e := nor.Worn(f, 0, many)
			refused(t, "P2.3: wrong many", got, e)
			got, e = nor.Worn(f, 7, many)
			refused(t, "P2.3: wrong many in the last sector", got, e)
		}
	}
}

// R4: what is answered is new memory, where nothing changes too, and what was handed in stays.
func TestAnswersAreNew(t *testing.T) {
	f, w := mixed(6), strings.Repeat("\xff", 4)
	kept := strings.Clone(f)
	program, _ := nor.Program(f, 0, w)
	erase, _ := nor.Erase(nor.Blank(), 0)
	torn, _ := nor.Torn(f, 0, w, 0)
	worn, _ := nor.Worn(f, 0, 0)
	seen := map[*byte]int{unsafe.StringData(f): -1}
	for i, got := range []string{program, erase, torn, worn, nor.Blank(), nor.Blank()} {
		if other, was := seen[unsafe.StringData(got)]; was {
			t.Errorf("R4: answer %d shares memory with %d", i, other)
		}
		seen[unsafe.StringData(got)] = i
	}
	if f != kept {
		t.Error("R4: the flash that was handed in has changed")
	}
}

// R5: one question has one answer, whoever asks at the same time.
func TestManyAtOneTime(t *testing.T) {
	f := mixed(7)
	var wait sync.WaitGroup
	for n := range 8 {
		wait.Go(func() {
			for many := range 97 {
				got, e := nor.Worn(f, n, many)
				if e != api.OK || got != f[:96*n]+strings.Repeat("\xff", many)+f[96*n+many:] {
					t.Errorf("R5: Worn of sector %d, %d bytes: error %d", n, many, e)
				}
				got, e = nor.Program(f, 4*many, "\x00\x00\x00\x00")
				if e != api.OK || got != f[:4*many]+"\x00\x00\x00\x00"+f[4*many+4:] {
					t.Errorf("R5: Program at %d: error %d", 4*many, e)
				}
			}
		})
	}
	wait.Wait()
}
