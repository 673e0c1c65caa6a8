package stage_test

import (
	"hash/crc32"
	"math"
	"slices"
	"strings"
	"sync"
	"testing"
	"unsafe"

	"skiff/api"
	"skiff/choose"
	"skiff/image"
	"skiff/nor"
	"skiff/ops"
	"skiff/place"
	"skiff/stage"
)

// places are those of both sectors of records, written out.
func places() []int {
	return []int{0, 24, 48, 72, 96, 120, 144, 168}
}

// bases are the slots' beginnings, written out.
func bases() []int {
	return []int{192, 480}
}

// empty is a flash of two images and of no record; no two neighbouring bytes are alike.
func empty() string {
	b := []byte(strings.Repeat("\xff", 192))
	for n := range 576 {
		b = append(b, byte(7*n+n/256*31+3))
	}
	return string(b)
}

// sumOf is the library's sum.
func sumOf(s string) int {
	return int(crc32.ChecksumIEEE([]byte(s)))
}

// laid is a record's bytes worked out by hand, whether it may be or not.
func laid(r api.Record) string {
	b := []byte{
		byte(r.Seq), byte(r.Seq >> 8), byte(r.Seq >> 16), byte(r.Seq >> 24),
		byte(r.Slot), 0, byte(r.Size), byte(r.Size >> 8),
		byte(r.Sum), byte(r.Sum >> 8), byte(r.Sum >> 16), byte(r.Sum >> 24),
	}
	for at := range 12 {
		b = append(b, 255-b[at])
	}
	return string(b)
}

// with is a flash whose bytes from at on are these.
func with(f string, at int, s string) string {
	return f[:at] + s + f[at+len(s):]
}

// right is the record, worked out by hand, whose sum is that of its image in this flash.
func right(f string, seq, slot, size int) api.Record {
	from := bases()[slot]
	return api.Record{Seq: seq, Slot: slot, Size: size, Sum: sumOf(f[from : from+size])}
}

// wrong is the same record, but of another sum.
func wrong(f string, seq, slot, size int) api.Record {
	r := right(f, seq, slot, size)
	r.Sum ^= 1
	return r
}

// erased are the steps that erase a slot, written out.
func erased(slot int) []api.Op {
	if slot == 0 {
		return []api.Op{{Erase: true, At: 192}, {Erase: true, At: 288}, {Erase: true, At: 384}}
	}
	return []api.Op{{Erase: true, At: 480}, {Erase: true, At: 576}, {Erase: true, At: 672}}
}

// told fails unless Record tells this one.
func told(t *testing.T, what string, f string, slot, size int, want api.Record) {
	t.Helper()
	if r, e := stage.Record(f, slot, size); r != want || e != api.OK {
		t.Errorf("P9.2: %s: slot %d, size %d: %+v, error %d, want %+v", what, slot, size, r, e, want)
	}
}

// refused fails unless Record tells nothing but this error.
func refused(t *testing.T, what string, f string, slot, size int, want api.Errno) {
	t.Helper()
	if r, e := stage.Record(f, slot, size); r != (api.Record{}) || e != want {
		t.Errorf("P9.2: %s: %d bytes, slot %d, size %d: %+v, error %d, want %d", what, len(f), slot, size, r, e, want)
	}
}

// done does a step, and fails if it may not be.
func done(t *testing.T, f string, step api.Op) string {
	t.Helper()
	after, e := ops.Do(f, step)
	if e != api.OK {
		t.Fatalf("P9.1: Do %+v: error %d", step, e)
	}
	return after
}

// torn cuts a step, and fails if it may not be.
func torn(t *testing.T, f string, step api.Op, cut int) string {
	t.Helper()
	after, e := ops.Cut(f, step, cut)
	if e != api.OK {
		t.Fatalf("P9.1: Cut %+v at %d: error %d", step, cut, e)
	}
	return after
}

// staged are the steps that erase a slot, and then program text at its beginning.
func staged(t *testing.T, slot int, text string) []api.Op {
	t.Helper()
	steps, e := stage.Erases(slot)
	words, g := ops.Words(bases()[slot], text)
	if e != api.OK || g != api.OK {
		t.Fatalf("P9.1: slot %d: errors %d, %d", slot, e, g)
	}
	return append(steps, words...)
}

// wrongSlots are numbers that no slot has.
func wrongSlots() []int {
	return []int{math.MinInt, -1 << 32, -256, -2, -1, 2, 3, 7, 192, 255, 256, 257, 1 << 32, 1<<32 + 1, math.MaxInt}
}

// wrongSizes are numbers of bytes that no image has.
func wrongSizes() []int {
	return []int{math.MinInt, -1 << 32, -288, -1, 0, 289, 290, 576, 768, 65536 + 1, 1 << 32, 1<<32 + 1, math.MaxInt - 192, math.MaxInt}
}

// wrongFlashes are texts that no flash may be.
func wrongFlashes() []string {
	long := strings.Repeat(with(empty(), 0, laid(right(empty(), 1, 0, 10))), 2)
	return []string{"", "\xff", long[:24], long[:192], long[:480], long[:767], long[:769], long[1:768], long, strings.Repeat("é", 768)}
}

// P9.1: three steps, in their row, of either slot.
func TestErases(t *testing.T) {
	for slot := range bases() {
		if steps, e := stage.Erases(slot); !slices.Equal(steps, erased(slot)) || e != api.OK {
			t.Errorf("P9.1: slot %d: %+v, error %d", slot, steps, e)
		}
	}
}

// P9.1: neither slot.
func TestErasesOfWrongSlots(t *testing.T) {
	for _, slot := range wrongSlots() {
		if steps, e := stage.Erases(slot); len(steps) != 0 || e != api.ErrStageForm {
			t.Errorf("P9.1: slot %d: %+v, error %d", slot, steps, e)
		}
	}
}

// P9.1: each step may be; behind all of them the slot is blank, and all else as it was.
func TestErasesDone(t *testing.T) {
	for _, f := range []string{empty(), strings.Repeat("\x00", 768), nor.Blank(), strings.Repeat("skif", 192)} {
		for slot, base := range bases() {
			steps, _ := stage.Erases(slot)
			after := f
			for _, step := range steps {
				if !ops.May(step) {
					t.Errorf("P9.1: %+v may not be", step)
				}
				after = done(t, after, step)
			}
			if after != with(f, base, strings.Repeat("\xff", 288)) {
				t.Errorf("P9.1: slot %d: the flash is %q", slot, after)
			}
		}
	}
}

// P9.1: cut anywhere, the slot is erased from its beginning on up to the cut, and all else is as it was.
func TestErasesCut(t *testing.T) {
	f := empty()
	for slot, base := range bases() {
		steps, _ := stage.Erases(slot)
		after := f
		for n, step := range steps {
			for cut := range 97 {
				if torn(t, after, step, cut) != with(f, base, strings.Repeat("\xff", 96*n+cut)) {
					t.Errorf("P9.1: slot %d: cut %d of step %d", slot, cut, n)
				}
			}
			after = done(t, after, step)
		}
	}
}

// P9.2: every size of either slot, of flashes of all kinds without a record.
func TestRecordOfEverySize(t *testing.T) {
	for _, f := range []string{empty(), nor.Blank(), strings.Repeat("\x00", 768), strings.Repeat("skif", 192)} {
		for slot := range bases() {
			for size := 1; size <= 288; size++ {
				told(t, "no record", f, slot, size, right(f, 1, slot, size))
			}
		}
	}
}

// P9.2: known sums.
func TestRecordOfKnownSums(t *testing.T) {
	for slot, base := range bases() {
		f := with(nor.Blank(), base, "123456789")
		told(t, "digits", f, slot, 9, api.Record{Seq: 1, Slot: slot, Size: 9, Sum: 3421780262})
		told(t, "of the other slot", f, 1-slot, 1, api.Record{Seq: 1, Slot: 1 - slot, Size: 1, Sum: 0xFF000000})
		told(t, "a word of 255", nor.Blank(), slot, 4, api.Record{Seq: 1, Slot: slot, Size: 4, Sum: 0xFFFFFFFF})
		told(t, "a byte 0", with(f, base, "\x00"), slot, 1, api.Record{Seq: 1, Slot: slot, Size: 1, Sum: 0xD202EF8D})
	}
}

// P9.2: the sum hangs on the slot's first size bytes, on each bit of them, and on nothing else.
func TestSumsBytes(t *testing.T) {
	f := empty()
	for slot, base := range bases() {
		for _, size := range []int{1, 2, 95, 96, 97, 192, 287, 288} {
			was := right(f, 1, slot, size)
			for bit := range 8 * 768 {
				b := []byte(f)
				b[bit/8] ^= 1 << (bit % 8)
				r, e := stage.Record(string(b), slot, size)
				within := bit/8 >= base && bit/8 < base+size
				if e != api.OK || (r != was) != within || r != right(string(b), 1, slot, size) {
					t.Errorf("P9.2: slot %d, size %d, bit %d: %+v, error %d", slot, size, bit, r, e)
				}
			}
		}
	}
}

// P9.2: the number is one more than the greatest of all records, in every place, good or not, of either slot.
func TestRecordsNumber(t *testing.T) {
	f := empty()
	for n, at := range places() {
		for _, seq := range []int{1, 2, 254, 255, 256, 65535, 65536, 1048574, 1048575} {
			for slot := range bases() {
				good := with(f, at, laid(right(f, seq, 1-slot, 1+n)))
				told(t, "behind a good one", good, slot, 100, right(f, seq+1, slot, 100))
				bad := with(f, at, laid(wrong(f, seq, slot, 1+n)))
				told(t, "behind one that is not good", bad, slot, 288, right(f, seq+1, slot, 288))
			}
		}
	}
	two := with(with(f, 0, laid(right(f, 70, 1, 5))), 144, laid(wrong(f, 69, 0, 5)))
	told(t, "behind two", two, 0, 9, right(f, 71, 0, 9))
	told(t, "behind what is no record", with(f, 48, laid(api.Record{Seq: 1048577, Slot: 1, Size: 4})), 1, 9, right(f, 1, 1, 9))
}

// P9.2: no number is left: layer 8's error, as it is, in every place, good or not.
func TestRecordOfFull(t *testing.T) {
	f := empty()
	for _, at := range places() {
		for slot := range bases() {
			for _, size := range []int{1, 144, 288} {
				refused(t, "the last one is good", with(f, at, laid(right(f, 1048576, slot, 7))), slot, size, api.ErrPlaceFull)
				refused(t, "the last one is not good", with(f, at, laid(wrong(f, 1048576, 1-slot, 7))), slot, size, api.ErrPlaceFull)
			}
		}
	}
}

// P9.2: wrong flashes, slots and sizes, alone and together.
func TestRecordOfWrongArguments(t *testing.T) {
	for _, f := range wrongFlashes() {
		refused(t, "a wrong flash", f, 0, 1, api.ErrStageForm)
		refused(t, "a wrong flash", f, 1, 288, api.ErrStageForm)
		for n, slot := range wrongSlots() {
			refused(t, "a wrong flash, a wrong slot", f, slot, 1, api.ErrStageForm)
			refused(t, "all wrong", f, slot, wrongSizes()[n%len(wrongSizes())], api.ErrStageForm)
		}
	}
	for _, f := range []string{empty(), nor.Blank()} {
		for _, slot := range wrongSlots() {
			refused(t, "a wrong slot", f, slot, 1, api.ErrStageForm)
			refused(t, "a wrong slot", f, slot, 288, api.ErrStageForm)
			for _, size := range wrongSizes() {
				refused(t, "a wrong slot, a wrong size", f, slot, size, api.ErrStageForm)
			}
		}
		for _, size := range wrongSizes() {
			refused(t, "a wrong size", f, 0, size, api.ErrStageForm)
			refused(t, "a wrong size", f, 1, size, api.ErrStageForm)
		}
	}
}

// P9.2, R6: what may not be is told ahead of a number that is not left.
func TestFormAheadOfFull(t *testing.T) {
	full := with(empty(), 24, laid(right(empty(), 1048576, 1, 7)))
	for _, slot := range wrongSlots() {
		refused(t, "full, a wrong slot", full, slot, 1, api.ErrStageForm)
	}
	for _, size := range wrongSizes() {
		refused(t, "full, a wrong size", full, 0, size, api.ErrStageForm)
		refused(t, "full, a wrong size", full, 1, size, api.ErrStageForm)
	}
	refused(t, "full, too short", full[:767], 0, 1, api.ErrStageForm)
	refused(t, "full, too long", full+"\xff", 1, 1, api.ErrStageForm)
}

// P9.2: what is told is good of this flash, layer 8 takes it, and it becomes the active one; what Next tells then is one more.
func TestRecordBecomesActive(t *testing.T) {
	f := empty()
	for n := range 40 {
		slot, size := n%3%2, 1+n*97%288
		r, e := stage.Record(f, slot, size)
		if good, g := image.Good(f, r); e != api.OK || !good || g != api.OK || r.Seq != n+1 {
			t.Fatalf("P9.2: %+v, error %d: good %v, error %d", r, e, good, g)
		}
		steps, e := place.Append(f, r)
		if e != api.OK {
			t.Fatalf("P9.2: Append of %+v: error %d", r, e)
		}
		for _, step := range steps {
			f = done(t, f, step)
		}
		if active, e := choose.Active(f); active.Record != r || e != api.OK {
			t.Errorf("P9.2: %+v is active, error %d, not %+v", active, e, r)
		}
	}
}

// still fails unless what was active is so yet, with the image that it had.
func still(t *testing.T, f string, was api.Place, text string) {
	t.Helper()
	is, e := choose.Active(f)
	there, g := image.Of(f, is.Record)
	if is != was || e != api.OK || there != text || g != api.OK {
		t.Errorf("P9.1: %+v was active, now %+v, errors %d, %d; its image is %q", was, is, e, g, there)
	}
}

// appended lays the record of this text down, and answers the flash behind.
func appended(t *testing.T, f string, slot int, text string) string {
	t.Helper()
	r, e := stage.Record(f, slot, len(text))
	if e != api.OK || r.Size != len(text) || r.Sum != sumOf(text) {
		t.Fatalf("P9.2: %+v, error %d, of %q", r, e, text)
	}
	steps, e := place.Append(f, r)
	if e != api.OK {
		t.Fatalf("P9.2: Append of %+v: error %d", r, e)
	}
	for _, step := range steps {
		f = done(t, f, step)
	}
	return f
}

// P9.1, P9.2: image behind image, each into the slot that is not the active one's: while it is staged, every step cut anywhere, the active one stays whole; behind its record it is the active one.
func TestCarried(t *testing.T) {
	f := appended(t, empty(), 0, empty()[192:192+50])
	for n := range 12 {
		was, _ := choose.Active(f)
		old, _ := image.Of(f, was.Record)
		slot, _ := choose.Other(f)
		text := strings.Repeat(string([]byte{byte(n), byte(17 * n), 0, 255, byte(n + 3)}), 58)[:1+n*53%288]
		for _, step := range staged(t, slot, text) {
			for cut := range 97 {
				still(t, torn(t, f, step, cut), was, old)
			}
			f = done(t, f, step)
			still(t, f, was, old)
		}
		f = appended(t, f, slot, text)
		is, _ := choose.Active(f)
		if there, e := image.Of(f, is.Record); there != text || is.Record.Slot != slot || is.Record.Seq != n+2 || e != api.OK {
			t.Errorf("P9.2: %+v is active, its image %q, want %q", is, there, text)
		}
	}
}

// P9.2: of a slot that was cut short the record tells what is there, not what was to be.
func TestRecordOfCutSlot(t *testing.T) {
	text := strings.Repeat("an image carried across; ", 7)
	for slot, base := range bases() {
		f := empty()
		for _, step := range staged(t, slot, text) {
			for _, cut := range []int{0, 1, 7, 20, 31, 32, 60, 96} {
				short := torn(t, f, step, cut)
				told(t, "cut", short, slot, len(text), right(short, 1, slot, len(text)))
			}
			f = done(t, f, step)
		}
		told(t, "whole", f, slot, len(text), api.Record{Seq: 1, Slot: slot, Size: len(text), Sum: sumOf(text)})
		if f[base:base+len(text)] != text {
			t.Errorf("P9.1: slot %d: %q", slot, f[base:base+len(text)])
		}
	}
}

// R4: what was handed in stays as it is; answers share nothing with it, nor with each other.
func TestAnswersAreNew(t *testing.T) {
	for slot := range bases() {
		one, _ := stage.Erases(slot)
		two, _ := stage.Erases(slot)
		clear(one[:cap(one)])
		if three, _ := stage.Erases(slot); !slices.Equal(two, erased(slot)) || !slices.Equal(three, erased(slot)) {
			t.Errorf("R4: an answer goes with another one: %+v, %+v", two, three)
		}
		b := []byte(empty())
		r, _ := stage.Record(unsafe.String(&b[0], len(b)), slot, 288)
		if string(b) != empty() {
			t.Error("R4: what was handed in has changed")
		}
		clear(b)
		if r != right(empty(), 1, slot, 288) {
			t.Errorf("R4: an answer goes with the flash: %+v", r)
		}
	}
}

// R5: one question has one answer, whoever asks at the same time.
func TestManyAtOneTime(t *testing.T) {
	var wait sync.WaitGroup
	for n, at := range places() {
		wait.Go(func() {
			slot, size := n%2, 36*(n+1)
			f := with(empty(), at, laid(right(empty(), n+1, 0, 12)))
			for range 200 {
				told(t, "one of many", f, slot, size, right(f, n+2, slot, size))
				if steps, e := stage.Erases(slot); !slices.Equal(steps, erased(slot)) || e != api.OK {
					t.Errorf("R5: slot %d: %+v, error %d", slot, steps, e)
				}
			}
		})
	}
	wait.Wait()
}
