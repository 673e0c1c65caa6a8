package suffix_test

import (
	"hash/crc32"
	"math"
	"strings"
	"sync"
	"testing"
	"unsafe"

	"skiff/api"
	"skiff/suffix"
)

// sample has so many bytes, of all values if there are enough of them.
func sample(size int) string {
	b := make([]byte, size)
	for n := range b {
		b[n] = byte(7*n + n/256*31 + 3)
	}
	return string(b)
}

// images are of one length each, bytes of all kinds.
func images(size int) []string {
	return []string{sample(size), strings.Repeat("\x00", size), strings.Repeat("\xff", size), strings.Repeat("é", size)[:size]}
}

// someIds are such as may be: each of some numbers in each place.
func someIds() []api.Ids {
	var out []api.Ids
	some := []int{0, 1, 255, 256, 0x1234, 0xFF00, 65534, 65535}
	for _, vendor := range some {
		for _, product := range some {
			for _, version := range some {
				out = append(out, api.Ids{Vendor: vendor, Product: product, Version: version})
			}
		}
	}
	return out
}

// wrongIds are such as may not be: each field in turn is wrong, then all of them are.
func wrongIds() []api.Ids {
	var out []api.Ids
	for _, n := range []int{-1, -2, -65535, -65536, 65536, 65537, 1 << 20, 1 << 32, 1<<32 + 5, 1 << 62, math.MinInt, math.MaxInt} {
		out = append(out,
			api.Ids{Vendor: n, Product: 2, Version: 3},
			api.Ids{Vendor: 1, Product: n, Version: 3},
			api.Ids{Vendor: 1, Product: 2, Version: n},
			api.Ids{Vendor: n, Product: n, Version: n})
	}
	return out
}

// summed is a text with its sum behind it, as Go's own library has the sum.
func summed(s string) string {
	x := crc32.ChecksumIEEE([]byte(s))
	return s + string([]byte{byte(x), byte(x >> 8), byte(x >> 16), byte(x >> 24)})
}

// file is one worked out by hand, whether it may be or not.
func file(image string, i api.Ids) string {
	return summed(image + string([]byte{
		byte(i.Version % 256), byte(i.Version / 256),
		byte(i.Product % 256), byte(i.Product / 256),
		byte(i.Vendor % 256), byte(i.Vendor / 256),
		0, 1, 'U', 'F', 'D', 16,
	}))
}

// built fails unless Build tells this file.
func built(t *testing.T, image string, i api.Ids, want string) {
	t.Helper()
	if got, e := suffix.Build(image, i); got != want || e != api.OK {
		t.Errorf("P11.1: Build(%q, %+v) = %q, error %d, want %q", image, i, got, e, want)
	}
}

// parsed fails unless Parse tells this image, and these.
func parsed(t *testing.T, s string, image string, i api.Ids) {
	t.Helper()
	if got, j, e := suffix.Parse(s); got != image || j != i || e != api.OK {
		t.Errorf("P11.1: Parse(%q) = %q, %+v, error %d, want %q, %+v", s, got, j, e, image, i)
	}
}

// unbuilt fails unless Build tells nothing but its error.
func unbuilt(t *testing.T, image string, i api.Ids) {
	t.Helper()
	if got, e := suffix.Build(image, i); got != "" || e != api.ErrSuffixForm {
		t.Errorf("P11.1: Build of %d bytes, %+v: %d bytes, error %d", len(image), i, len(got), e)
	}
}

// refused fails unless Parse tells nothing but this error.
func refused(t *testing.T, what string, s string, want api.Errno) {
	t.Helper()
	if got, j, e := suffix.Parse(s); got != "" || j != (api.Ids{}) || e != want {
		t.Errorf("P11.1: %s: Parse of %d bytes: %d bytes, %+v, error %d, want error %d", what, len(s), len(got), j, e, want)
	}
}

// P11.1: files that are written out, byte for byte; their sums are zlib's.
func TestKnown(t *testing.T) {
	for _, c := range []struct {
		image string
		i     api.Ids
		want  string
	}{
		{"hello", api.Ids{Vendor: 0x1234, Product: 0x5678, Version: 0x9ABC},
			"hello\xbc\x9a\x78\x56\x34\x12\x00\x01UFD\x10\xa6\x69\x28\xf4"},
		{"a", api.Ids{}, "a\x00\x00\x00\x00\x00\x00\x00\x01UFD\x10\x6e\xf8\x17\xe0"},
		{"\x00", api.Ids{Vendor: 65535, Product: 65535, Version: 65535},
			"\x00\xff\xff\xff\xff\xff\xff\x00\x01UFD\x10\xf3\x8e\x25\x03"},
	} {
		built(t, c.image, c.i, c.want)
		parsed(t, c.want, c.image, c.i)
	}
}

// P11.1: images of every length that one may have.
func TestEveryLength(t *testing.T) {
	i := api.Ids{Vendor: 0x0102, Product: 0xFFFE, Version: 0x00FF}
	for size := 1; size <= 288; size++ {
		for _, image := range images(size) {
			built(t, image, i, file(image, i))
			parsed(t, file(image, i), image, i)
		}
	}
}

// P11.1: whom files are for: each number in each place.
func TestEveryPlace(t *testing.T) {
	for _, i := range someIds() {
		for _, image := range []string{"x", sample(32), sample(288)} {
			built(t, image, i, file(image, i))
			parsed(t, file(image, i), image, i)
		}
	}
}

// P11.1: every number that two bytes can tell comes back, of each place.
func TestEveryNumber(t *testing.T) {
	for n := range 65536 {
		i := api.Ids{Vendor: n, Product: (n + 21845) % 65536, Version: (n + 43690) % 65536}
		s, e := suffix.Build("x", i)
		image, j, f := suffix.Parse(s)
		if len(s) != 17 || e != api.OK || image != "x" || j != i || f != api.OK {
			t.Fatalf("P11.1: %+v: %q, error %d, comes back as %q, %+v, error %d", i, s, e, image, j, f)
		}
	}
}

// P11.1: no image has these lengths, whomever it is for.
func TestBuildOfWrongLengths(t *testing.T) {
	for _, size := range []int{0, 289, 290, 304, 320, 576, 65536, 65536 + 32, 1 << 20} {
		for _, image := range images(size) {
			unbuilt(t, image, api.Ids{})
			unbuilt(t, image, api.Ids{Vendor: 65535, Product: 65535, Version: 65535})
			unbuilt(t, image, api.Ids{Vendor: -1})
		}
	}
}

// P11.1: no file is for these, whatever the image.
func TestBuildForWrongIds(t *testing.T) {
	for _, i := range wrongIds() {
		for _, size := range []int{1, 2, 32, 288} {
			unbuilt(t, sample(size), i)
		}
	}
}

// P11.1: files that are too short, or too long, though all that stands there is right.
func TestParseOfWrongLengths(t *testing.T) {
	refused(t, "nothing", "", api.ErrSuffixForm)
	refused(t, "no image", file("", api.Ids{}), api.ErrSuffixForm)
	for n := range 17 {
		refused(t, "the end of a file", file("x", api.Ids{})[17-n:], api.ErrSuffixForm)
		refused(t, "zeros", strings.Repeat("\x00", n), api.ErrSuffixForm)
	}
	for _, size := range []int{289, 290, 304, 320, 576, 65536, 65536 + 32, 1 << 20} {
		refused(t, "too long", file(sample(size), api.Ids{}), api.ErrSuffixForm)
	}
}

// P11.1: each byte of a file in turn is each other one: the bytes that stand in every file are asked ahead of the sum.
func TestEachByteSpoiled(t *testing.T) {
	for _, image := range []string{"x", sample(3), sample(40)} {
		whole := file(image, api.Ids{Vendor: 0x1234, Product: 0x5678, Version: 0x9ABC})
		for at := range len(whole) {
			want := api.ErrSuffixSum
			if behind := at - len(image); behind >= 6 && behind < 12 {
				want = api.ErrSuffixForm
			}
			for turn := 1; turn < 256; turn++ {
				refused(t, "a spoiled byte", spoiled(whole, at, byte(turn)), want)
			}
		}
	}
}

// P11.1: each bit of the longest file, turned.
func TestEachBitOfTheLongest(t *testing.T) {
	whole := file(sample(288), api.Ids{Vendor: 1, Product: 2, Version: 65535})
	for bit := range 8 * len(whole) {
		want := api.ErrSuffixSum
		if bit/8 >= 294 && bit/8 < 300 {
			want = api.ErrSuffixForm
		}
		refused(t, "a turned bit", spoiled(whole, bit/8, 1<<(bit%8)), want)
	}
}

// spoiled is a text, some bits of whose byte at this place are turned.
func spoiled(s string, at int, turn byte) string {
	b := []byte(s)
	b[at] ^= turn
	return string(b)
}

// P11.1: the bytes that stand in every file are others, and the sum is right: it does not make up for them.
func TestOtherMarks(t *testing.T) {
	ahead := sample(20) + "\x01\x02\x03\x04\x05\x06"
	mark := "\x00\x01UFD\x10"
	parsed(t, summed(ahead+mark), sample(20), api.Ids{Version: 0x0201, Product: 0x0403, Vendor: 0x0605})
	for at := range len(mark) {
		for turn := 1; turn < 256; turn++ {
			refused(t, "another mark", summed(ahead+spoiled(mark, at, byte(turn))), api.ErrSuffixForm)
		}
	}
	for _, other := range []string{"\x01\x00UFD\x10", "\x00\x01DFU\x10", "\x00\x01ufd\x10", "\x10UFD\x00\x01", "UFD\x10\x00\x01", "\x00\x01UFD\x0c", "\x00\x01UFD\x00"} {
		refused(t, "another mark", summed(ahead+other), api.ErrSuffixForm)
	}
}

// P11.1: the mark stands at the wrong place: a byte is put in behind it, or left out.
func TestMovedMark(t *testing.T) {
	ahead := sample(20) + "\x01\x02\x03\x04\x05\x06"
	refused(t, "a byte behind it", summed(ahead+"\x00\x01UFD\x10x"), api.ErrSuffixForm)
	refused(t, "a byte left out", summed(ahead+"\x00\x01UFD"), api.ErrSuffixForm)
	whole := file(sample(20), api.Ids{Vendor: 1, Product: 2, Version: 3})
	for n := 1; n < 20; n++ {
		refused(t, "bytes behind", whole+sample(n), api.ErrSuffixForm)
		refused(t, "the last ones left out", whole[:len(whole)-n], api.ErrSuffixForm)
		refused(t, "the first ones left out", whole[n:], api.ErrSuffixSum)
		refused(t, "bytes ahead", sample(n)+whole, api.ErrSuffixSum)
	}
}

// P11.1: sums that are made otherwise: bytes turned round, of the image alone, of what comes with the sum, none.
func TestOtherSums(t *testing.T) {
	whole := file(sample(50), api.Ids{Vendor: 7, Product: 8, Version: 9})
	told, sum := whole[:62], whole[62:]
	round := string([]byte{sum[3], sum[2], sum[1], sum[0]})
	other := string([]byte{^sum[0], ^sum[1], ^sum[2], ^sum[3]})
	for _, wrong := range []string{round, other, summed(sample(50))[50:], summed(told[:61])[61:], summed(told[50:])[12:], "\x00\x00\x00\x00", "\xff\xff\xff\xff"} {
		refused(t, "another sum", told+wrong, api.ErrSuffixSum)
	}
	parsed(t, told+sum, sample(50), api.Ids{Vendor: 7, Product: 8, Version: 9})
}

// P11.1: a sum's highest bit counts, and is no sign: sums with it and without come back.
func TestHighSums(t *testing.T) {
	high, low := 0, 0
	for n := range 64 {
		s := file("x", api.Ids{Vendor: n})
		if s[16] >= 128 {
			high++
		} else {
			low++
		}
		parsed(t, s, "x", api.Ids{Vendor: n})
		refused(t, "the highest bit turned", spoiled(s, 16, 128), api.ErrSuffixSum)
	}
	if high == 0 || low == 0 {
		t.Errorf("%d sums have their highest bit, %d have not", high, low)
	}
}

// P11.1: an image may be a file itself: just the last suffix is taken off.
func TestFileWithinAFile(t *testing.T) {
	inner := file("hello", api.Ids{Vendor: 1, Product: 2, Version: 3})
	outer := file(inner, api.Ids{Vendor: 4, Product: 5, Version: 6})
	built(t, inner, api.Ids{Vendor: 4, Product: 5, Version: 6}, outer)
	parsed(t, outer, inner, api.Ids{Vendor: 4, Product: 5, Version: 6})
	parsed(t, inner, "hello", api.Ids{Vendor: 1, Product: 2, Version: 3})
}

// R6: where the mark and the sum are both wrong, the mark's error is told; where the length is wrong too, that one.
func TestFirstError(t *testing.T) {
	refused(t, "zeros", strings.Repeat("\x00", 40), api.ErrSuffixForm)
	refused(t, "erased", strings.Repeat("\xff", 304), api.ErrSuffixForm)
	whole := file("hello", api.Ids{})
	refused(t, "mark and sum", spoiled(spoiled(whole, 13, 1), 20, 1), api.ErrSuffixForm)
	long := file(sample(289), api.Ids{})
	refused(t, "length and sum", spoiled(long, len(long)-1, 1), api.ErrSuffixForm)
}

// handed is a text in memory that the test can change behind the call's back.
func handed(s string) (string, []byte) {
	b := []byte(s)
	return unsafe.String(&b[0], len(b)), b
}

// R4: what is answered stays when what was handed in goes, and that stays as it was; no two answers share memory.
func TestAnswersAreNew(t *testing.T) {
	i := api.Ids{Vendor: 1, Product: 2, Version: 3}
	for _, size := range []int{1, 2, 31, 32, 33, 100, 287, 288} {
		image, b := handed(sample(size))
		s, _ := suffix.Build(image, i)
		again, _ := suffix.Build(image, i)
		whole, c := handed(file(sample(size), i))
		one, _, _ := suffix.Parse(whole)
		two, _, _ := suffix.Parse(whole)
		if string(b) != sample(size) || string(c) != file(sample(size), i) {
			t.Errorf("R4: %d bytes: what was handed in has changed", size)
		}
		clear(b)
		clear(c)
		if s != file(sample(size), i) || again != s || one != sample(size) || two != one {
			t.Errorf("R4: %d bytes: an answer goes with what was handed in", size)
		}
		if unsafe.StringData(s) == unsafe.StringData(again) {
			t.Errorf("R4: %d bytes: two files share memory", size)
		}
		if size > 1 && unsafe.StringData(one) == unsafe.StringData(two) {
			t.Errorf("R4: %d bytes: two images share memory", size)
		}
	}
}

// R5: one question has one answer, whoever asks at the same time.
func TestManyAtOneTime(t *testing.T) {
	var wait sync.WaitGroup
	for n := range 8 {
		wait.Go(func() {
			image := sample(36 * (n + 1))
			i := api.Ids{Vendor: n, Product: 65535 - n, Version: 256 * n}
			for range 100 {
				built(t, image, i, file(image, i))
				parsed(t, file(image, i), image, i)
				unbuilt(t, image, api.Ids{Product: -1 - n})
				refused(t, "one of many", spoiled(file(image, i), n, 1), api.ErrSuffixSum)
			}
		})
	}
	wait.Wait()
}
