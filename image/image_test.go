package image_test

import (
	"hash/crc32"
	"math"
	"strings"
	"sync"
	"testing"
	"unsafe"

	"skiff/api"
	"skiff/entry"
	"skiff/image"
	"skiff/journal"
	"skiff/nor"
	"skiff/ops"
)

// bases are the slots' beginnings, written out.
func bases() []int {
	return []int{192, 480}
}

// mixed is a flash in which no two words are alike, so that a piece that is taken a few bytes off is seen.
func mixed() string {
	var b []byte
	for n := range 192 {
		b = append(b, byte(n), byte(7*n+3), byte(n^0x5a), byte(255-n))
	}
	return string(b)
}

// sumOf is a text's sum by the library's own way.
func sumOf(s string) int {
	return int(crc32.ChecksumIEEE([]byte(s)))
}

// with is a flash whose bytes from at on are these.
func with(f string, at int, s string) string {
	return f[:at] + s + f[at+len(s):]
}

// told fails unless Of tells just this.
func told(t *testing.T, what string, f string, r api.Record, want string) {
	t.Helper()
	if got, e := image.Of(f, r); got != want || e != api.OK {
		t.Errorf("P6.2: %s: Of %+v: %q, error %d, want %q", what, r, got, e, want)
	}
}

// judged fails unless Good tells just this.
func judged(t *testing.T, what string, f string, r api.Record, want bool) {
	t.Helper()
	if got, e := image.Good(f, r); got != want || e != api.OK {
		t.Errorf("P6.2: %s: Good %+v: %v, error %d, want %v", what, r, got, e, want)
	}
}

// refused fails unless Of and Good answer their error, and nothing beside it.
func refused(t *testing.T, what string, f string, r api.Record) {
	t.Helper()
	if got, e := image.Of(f, r); got != "" || e != api.ErrImageForm {
		t.Errorf("P6.2: %s: Of %d bytes, %+v: %q, error %d", what, len(f), r, got, e)
	}
	if good, e := image.Good(f, r); good || e != api.ErrImageForm {
		t.Errorf("P6.2: %s: Good %d bytes, %+v: %v, error %d", what, len(f), r, good, e)
	}
}

// P6.1: both slots: sectors 2 to 4, and 5 to 7.
func TestBase(t *testing.T) {
	for slot, want := range bases() {
		if got, e := image.Base(slot); got != want || e != api.OK {
			t.Errorf("P6.1: slot %d: %d, error %d, want %d", slot, got, e, want)
		}
	}
}

// P6.1: no other slot has a beginning, not even one that is a slot once it has wrapped round.
func TestBaseRefused(t *testing.T) {
	for _, slot := range []int{math.MinInt, math.MinInt + 1, -1 << 32, -256, -2, -1, 2, 3, 5, 8, 192, 256, 257, 1 << 32, 1<<32 + 1, 1 << 62, math.MaxInt} {
		if got, e := image.Base(slot); got != 0 || e != api.ErrImageForm {
			t.Errorf("P6.1: slot %d: %d, error %d", slot, got, e)
		}
	}
}

// P6.2: every size of either slot; its own sum makes it good, the next sizes' sums do not.
func TestEverySize(t *testing.T) {
	f := mixed()
	for slot, base := range bases() {
		for size := 1; size <= 288; size++ {
			want := f[base : base+size]
			r := api.Record{Seq: 1, Slot: slot, Size: size, Sum: sumOf(want)}
			told(t, "a size", f, r, want)
			judged(t, "a size", f, r, true)
			for _, other := range []int{size - 1, size + 1} {
				if other >= 1 && other <= 288 {
					judged(t, "another size", f, api.Record{Seq: 1, Slot: slot, Size: other, Sum: r.Sum}, false)
				}
			}
			judged(t, "the other slot", f, api.Record{Seq: 1, Slot: 1 - slot, Size: size, Sum: r.Sum}, false)
		}
	}
}

// P6.2: a record's number turns nothing, and the image is told whether its sum is right or not.
func TestSeqAndSumTurnNothing(t *testing.T) {
	f := mixed()
	for slot, base := range bases() {
		want := f[base : base+100]
		sum := sumOf(want)
		for _, seq := range []int{1, 2, 255, 256, 65536, 1048575, 1048576} {
			for _, other := range []int{0, sum, 1 << 31, 4294967295} {
				r := api.Record{Seq: seq, Slot: slot, Size: 100, Sum: other}
				told(t, "a number and a sum", f, r, want)
				judged(t, "a number and a sum", f, r, other == sum)
			}
		}
	}
}

// P6.2: each bit of the sum counts.
func TestEveryBitOfTheSum(t *testing.T) {
	f := mixed()
	for slot, base := range bases() {
		for _, size := range []int{1, 4, 31, 96, 287, 288} {
			r := api.Record{Seq: 9, Slot: slot, Size: size, Sum: sumOf(f[base : base+size])}
			judged(t, "its own sum", f, r, true)
			for bit := range 32 {
				r := r
				r.Sum ^= 1 << bit
				judged(t, "one bit of the sum is another", f, r, false)
			}
		}
	}
}

// P6.2: each bit of the image counts, and no other one of the flash.
func TestEveryBitOfTheFlash(t *testing.T) {
	f := mixed()
	for slot, base := range bases() {
		for _, size := range []int{1, 150, 288} {
			want := f[base : base+size]
			r := api.Record{Seq: 9, Slot: slot, Size: size, Sum: sumOf(want)}
			for bit := range 8 * 768 {
				b := []byte(f)
				b[bit/8] ^= 1 << (bit % 8)
				inside := bit/8 >= base && bit/8 < base+size
				told(t, "one bit is another", string(b), r, string(b[base:base+size]))
				judged(t, "one bit is another", string(b), r, !inside)
			}
		}
	}
}

// P6.2: images whose sum is the least one, and the greatest one: four blank bytes are of the latter.
func TestSumsAtTheEnds(t *testing.T) {
	for slot, base := range bases() {
		least := api.Record{Seq: 1, Slot: slot, Size: 4}
		greatest := api.Record{Seq: 1, Slot: slot, Size: 4, Sum: 4294967295}
		f := with(nor.Blank(), base, "\x9d\x0a\xd9\x6d")
		told(t, "of sum 0", f, least, "\x9d\x0a\xd9\x6d")
		judged(t, "of sum 0", f, least, true)
		judged(t, "of sum 0", f, greatest, false)
		told(t, "blank", nor.Blank(), greatest, "\xff\xff\xff\xff")
		judged(t, "blank", nor.Blank(), least, false)
		judged(t, "blank", nor.Blank(), greatest, true)
	}
}

// P6.2: bytes are bytes: zeros and what is no letter of any text come as they stand.
func TestAnyBytes(t *testing.T) {
	for _, s := range []string{"\x00", "\x00\x00\xff\x00", "\xc3", "é\xa9\xc3", "a\r\nb\x00", strings.Repeat("\x80", 288), strings.Repeat("\x00", 288)} {
		for slot, base := range bases() {
			f := with(mixed(), base, s)
			r := api.Record{Seq: 3, Slot: slot, Size: len(s), Sum: sumOf(s)}
			told(t, "bytes", f, r, s)
			judged(t, "bytes", f, r, true)
		}
	}
}

// P6.2: what no flash may be, even where all of the image is there.
func TestWrongFlashes(t *testing.T) {
	long := mixed() + mixed()
	for _, f := range []string{"", "\xff", long[:192], long[:193], long[:480], long[:481], long[:767], long[:769], long[1:768], long, strings.Repeat("é", 768)} {
		for slot, base := range bases() {
			refused(t, "a wrong flash", f, api.Record{Seq: 1, Slot: slot, Size: 1, Sum: sumOf(long[base : base+1])})
			refused(t, "a wrong flash", f, api.Record{Seq: 1, Slot: slot, Size: 288, Sum: sumOf(long[base : base+288])})
			refused(t, "both are wrong", f, api.Record{Slot: slot})
		}
	}
}

// P6.2: records that may not be, one number wrong at a time; sums that are right but for what four bytes can't tell.
func TestWrongRecords(t *testing.T) {
	f := mixed()
	for slot, base := range bases() {
		r := api.Record{Seq: 5, Slot: slot, Size: 50, Sum: sumOf(f[base : base+50])}
		judged(t, "a right one", f, r, true)
		for _, seq := range []int{math.MinInt, -1 << 32, -5, -1, 0, 1048577, 1 << 32, 1<<32 + 5, math.MaxInt} {
			r := r
			r.Seq = seq
			refused(t, "a wrong number", f, r)
		}
		for _, other := range []int{math.MinInt, -2, -1, 2, 3, 256, 256 + slot, 1<<32 + slot, math.MaxInt} {
			r := r
			r.Slot = other
			refused(t, "a wrong slot", f, r)
		}
		for _, size := range []int{math.MinInt, -50, -1, 0, 289, 576, 768, 65536 + 50, 1<<32 + 50, math.MaxInt} {
			r := r
			r.Size = size
			refused(t, "a wrong size", f, r)
		}
		for _, sum := range []int{math.MinInt, r.Sum - 1<<32, -1, 1 << 32, r.Sum + 1<<32, math.MaxInt} {
			r := r
			r.Sum = sum
			refused(t, "a wrong sum", f, r)
		}
	}
	refused(t, "no record", f, api.Record{})
}

// P6.1, P6.2: an image is programmed at its slot's beginning, word by word, each of them cut anywhere: what the slot holds is told, and it is good just when it is whole.
func TestCarried(t *testing.T) {
	text := strings.Repeat("an image carried across; ", 7) + "\x00"
	for slot := range 2 {
		r := api.Record{Seq: 1, Slot: slot, Size: len(text), Sum: sumOf(text)}
		base, e := image.Base(slot)
		steps, g := ops.Words(base, text)
		if e != api.OK || g != api.OK {
			t.Fatalf("P6.1: errors %d, %d", e, g)
		}
		f := nor.Blank()
		for _, step := range steps {
			for bits := range 33 {
				cut, _ := ops.Cut(f, step, bits)
				there := cut[base : base+len(text)]
				told(t, "cut", cut, r, there)
				judged(t, "cut", cut, r, there == text)
			}
			f, _ = ops.Do(f, step)
		}
		told(t, "whole", f, r, text)
		judged(t, "whole", f, r, true)
		recorded(t, f, r, text)
	}
}

// recorded puts a record in the journal of a flash: its image is the one that the record tells of when it is got back.
func recorded(t *testing.T, f string, r api.Record, text string) {
	t.Helper()
	put, _ := entry.Put(r)
	found, e := journal.Scan(with(f, 120, put))
	if len(found) != 1 || e != api.OK {
		t.Fatalf("P6.2: %+v, error %d", found, e)
	}
	told(t, "of a journal", f, found[0].Record, text)
	judged(t, "of a journal", f, found[0].Record, true)
}

// R4: what is answered stays when what was handed in goes, and that is not changed.
func TestAnswersAreNew(t *testing.T) {
	for slot, base := range bases() {
		for _, size := range []int{1, 2, 100, 288} {
			b := []byte(mixed())
			f := unsafe.String(&b[0], len(b))
			want := mixed()[base : base+size]
			r := api.Record{Seq: 1, Slot: slot, Size: size, Sum: sumOf(want)}
			one, _ := image.Of(f, r)
			other, _ := image.Of(f, r)
			judged(t, "a flash", f, r, true)
			if string(b) != mixed() {
				t.Error("R4: what was handed in has changed")
			}
			if unsafe.StringData(one) == unsafe.StringData(other) && size > 1 {
				t.Error("R4: two answers share memory")
			}
			clear(b)
			if one != want || other != want {
				t.Errorf("R4: an answer goes with the flash: %q, %q", one, other)
			}
		}
	}
}

// R5: one question has one answer, whoever asks at the same time.
func TestManyAtOneTime(t *testing.T) {
	var wait sync.WaitGroup
	for n := range 8 {
		wait.Go(func() {
			slot, size := n%2, 36*(n+1)
			f := with(mixed(), 0, strings.Repeat(string([]byte{byte(n)}), 300))
			want := f[bases()[slot] : bases()[slot]+size]
			r := api.Record{Seq: n + 1, Slot: slot, Size: size, Sum: sumOf(want)}
			for range 200 {
				told(t, "one of many", f, r, want)
				judged(t, "one of many", f, r, true)
			}
		})
	}
	wait.Wait()
}
