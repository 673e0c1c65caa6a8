package choose_test

import (
	"hash/crc32"
	"math"
	"strings"
	"sync"
	"testing"
	"unsafe"

	"skiff/api"
	"skiff/choose"
	"skiff/entry"
	"skiff/image"
	"skiff/nor"
	"skiff/ops"
)

// places are those of both sectors, written out.
func places() []int {
	return []int{0, 24, 48, 72, 96, 120, 144, 168}
}

// bases are the slots' beginnings, written out.
func bases() []int {
	return []int{192, 480}
}

// empty is a flash of two images and of no record.
func empty() string {
	b := []byte(strings.Repeat("\xff", 192))
	for n := range 576 {
		b = append(b, byte(7*n+n/256*31+3))
	}
	return string(b)
}

// laid is a record's bytes worked out by hand, whether it may be or not.
func laid(r api.Record) string {
	b := []byte{
		byte(r.Seq), byte(r.Seq >> 8), byte(r.Seq >> 16), byte(r.Seq >> 24),
		byte(r.Slot), 0, byte(r.Size), byte(r.Size >> 8),
		byte(r.Sum), byte(r.Sum >> 8), byte(r.Sum >> 16), byte(r.Sum >> 24),
	}
	for at := range 12 {
		b = append(b, 255-b[at])
	}
	return string(b)
}

// with is a flash whose bytes from at on are these.
func with(f string, at int, s string) string {
	return f[:at] + s + f[at+len(s):]
}

// right is the record of this flash whose sum is that of its image.
func right(f string, seq, slot, size int) api.Record {
	from := bases()[slot]
	return api.Record{Seq: seq, Slot: slot, Size: size, Sum: int(crc32.ChecksumIEEE([]byte(f[from : from+size])))}
}

// wrong is the same record, but of another sum.
func wrong(f string, seq, slot, size int) api.Record {
	r := right(f, seq, slot, size)
	r.Sum ^= 1
	return r
}

// chosen fails unless Active tells just this one, and Other the slot that is not its.
func chosen(t *testing.T, what string, f string, want api.Place) {
	t.Helper()
	if got, e := choose.Active(f); got != want || e != api.OK {
		t.Errorf("P7.1: %s: Active: %+v, error %d, want %+v", what, got, e, want)
	}
	if got, e := choose.Other(f); got != 1-want.Record.Slot || e != api.OK {
		t.Errorf("P7.1: %s: Other: %d, error %d, where slot %d is active", what, got, e, want.Record.Slot)
	}
}

// none fails unless Active tells that there is none, and Other 0.
func none(t *testing.T, what string, f string) {
	t.Helper()
	if got, e := choose.Active(f); got != (api.Place{}) || e != api.ErrChooseNone {
		t.Errorf("P7.1: %s: Active: %+v, error %d, want none", what, got, e)
	}
	if got, e := choose.Other(f); got != 0 || e != api.OK {
		t.Errorf("P7.1: %s: Other: %d, error %d, where none is active", what, got, e)
	}
}

// P7.1: of a flash without records none is active, and the first slot is the other one.
func TestNone(t *testing.T) {
	none(t, "a blank flash", nor.Blank())
	none(t, "zeros", strings.Repeat("\x00", 768))
	none(t, "images alone", empty())
	none(t, "a text", strings.Repeat("skif", 192))
}

// P7.1: one record that is good, in every place, of either slot, of the ends of all numbers.
func TestOne(t *testing.T) {
	f := empty()
	for _, at := range places() {
		for slot := range bases() {
			for _, seq := range []int{1, 2, 255, 256, 65536, 1048575, 1048576} {
				for _, size := range []int{1, 2, 4, 96, 255, 256, 287, 288} {
					r := right(f, seq, slot, size)
					chosen(t, "one record", with(f, at, laid(r)), api.Place{At: at, Record: r})
					none(t, "one that is not good", with(f, at, laid(wrong(f, seq, slot, size))))
				}
			}
		}
	}
}

// P7.1: what stands anywhere but in a place, or may not be, is no record, though the image is right.
func TestNoRecords(t *testing.T) {
	f := empty()
	for at := range 192 - 24 + 1 {
		if at%24 != 0 {
			none(t, "between places", with(f, at, laid(right(f, 9, 1, 100))))
		}
	}
	for _, at := range places() {
		for slot := range bases() {
			r := right(f, 1, slot, 100)
			for _, seq := range []int{0, 1048577, 1<<32 - 1} {
				r := r
				r.Seq = seq
				none(t, "a wrong number", with(f, at, laid(r)))
			}
			r.Slot += 2
			none(t, "a wrong slot", with(f, at, laid(r)))
			r.Slot, r.Size, r.Sum = slot, 0, 0
			none(t, "no bytes", with(f, at, laid(r)))
		}
	}
}

// orders are rows of numbers for the eight places: upward, downward, mixed, with one twice or more, all alike.
func orders() [][8]int {
	return [][8]int{
		{1, 2, 3, 4, 5, 6, 7, 8},
		{8, 7, 6, 5, 4, 3, 2, 1},
		{3, 8, 1, 6, 2, 7, 4, 5},
		{256, 255, 65536, 1, 257, 65535, 2, 512},
		{5, 9, 9, 2, 9, 1, 5, 9},
		{2, 2, 1, 1, 2, 2, 1, 1},
		{1048576, 1, 1048575, 1048576, 1, 1048575, 1048576, 1},
		{1, 1, 1, 1, 1, 1, 1, 1},
	}
}

// P7.1: every choice of blank, good and wrong records in the eight places, in each of these orders.
func TestEveryChoice(t *testing.T) {
	base := empty()
	for _, order := range orders() {
		for choice := range 6561 {
			f := base
			var want api.Place
			rest := choice
			for n, at := range places() {
				slot, size := n*5/2%2, 1+40*n
				kind := rest % 3
				rest /= 3
				if kind == 1 {
					f = with(f, at, laid(wrong(base, order[n], slot, size)))
				}
				if kind != 2 {
					continue
				}
				r := right(base, order[n], slot, size)
				f = with(f, at, laid(r))
				// Places go upward, so that of alike numbers this keeps the last one.
				if r.Seq >= want.Record.Seq {
					want = api.Place{At: at, Record: r}
				}
			}
			if want.Record.Seq == 0 {
				none(t, "a choice of places", f)
			} else {
				chosen(t, "a choice of places", f, want)
			}
		}
	}
}

// P7.1: of two records the one of the greater number, wherever both stand; of alike numbers the last one.
func TestEveryPair(t *testing.T) {
	f := empty()
	for _, one := range places() {
		for _, two := range places() {
			if one == two {
				continue
			}
			for slots := range 4 {
				less, more := right(f, 255, slots%2, 50), right(f, 256, slots/2, 60)
				chosen(t, "a greater one", with(with(f, one, laid(less)), two, laid(more)), api.Place{At: two, Record: more})
				more.Seq = 255
				last := api.Place{At: one, Record: less}
				if two > one {
					last = api.Place{At: two, Record: more}
				}
				chosen(t, "alike", with(with(f, one, laid(less)), two, laid(more)), last)
			}
		}
	}
}

// P7.1: records that are alike in all: the last place is told.
func TestAlike(t *testing.T) {
	f := empty()
	for slot := range bases() {
		r := right(f, 77, slot, 288)
		for many := 1; many <= 8; many++ {
			chosen(t, "so many alike", with(f, 0, strings.Repeat(laid(r), many)), api.Place{At: 24 * (many - 1), Record: r})
		}
	}
}

// P7.1: a wrong record does not stand in the way of an elder one, nor, of one number, of one ahead of it or behind.
func TestWrongOnesGiveWay(t *testing.T) {
	f := empty()
	for slot := range bases() {
		for _, seq := range []int{1, 40, 1048576} {
			elder := right(f, 1, slot, 30)
			other := wrong(f, seq, 1-slot, 90)
			chosen(t, "behind it", with(with(f, 24, laid(elder)), 48, laid(other)), api.Place{At: 24, Record: elder})
			chosen(t, "ahead of it", with(with(f, 24, laid(other)), 48, laid(elder)), api.Place{At: 48, Record: elder})
			chosen(t, "all others", with(strings.Repeat(laid(other), 8)+f[192:], 120, laid(elder)), api.Place{At: 120, Record: elder})
			none(t, "no right one", strings.Repeat(laid(other), 8)+f[192:])
		}
	}
}

// P7.1: each bit of the flash that is another: its record, or the record of its image, is no more; the next one is.
func TestEveryBit(t *testing.T) {
	f := empty()
	first, second := right(f, 6, 0, 200), right(f, 7, 1, 250)
	f = with(with(f, 144, laid(first)), 48, laid(second))
	for bit := range 8 * 768 {
		b := []byte(f)
		b[bit/8] ^= 1 << (bit % 8)
		at := bit / 8
		if at >= 48 && at < 72 || at >= 480 && at < 730 {
			chosen(t, "the greater one is touched", string(b), api.Place{At: 144, Record: first})
		} else {
			chosen(t, "another bit", string(b), api.Place{At: 48, Record: second})
		}
	}
}

// P7.1: sums at both ends: blank bytes are good for a record that tells their sum, as layer 6 says.
func TestSumsAtTheEnds(t *testing.T) {
	for slot, base := range bases() {
		r := api.Record{Seq: 3, Slot: slot, Size: 4, Sum: 4294967295}
		chosen(t, "blank bytes", with(nor.Blank(), 72, laid(r)), api.Place{At: 72, Record: r})
		r.Sum = 0
		none(t, "blank bytes of sum 0", with(nor.Blank(), 72, laid(r)))
		chosen(t, "of sum 0", with(with(nor.Blank(), 72, laid(r)), base, "\x9d\x0a\xd9\x6d"), api.Place{At: 72, Record: r})
	}
}

// P7.1: what no flash may be, though records and images stand in it.
func TestWrongFlashes(t *testing.T) {
	f := empty()
	long := strings.Repeat(with(f, 0, laid(right(f, 1, 0, 10))+laid(right(f, 2, 1, 10))), 2)
	chosen(t, "a right one", long[:768], api.Place{At: 24, Record: right(f, 2, 1, 10)})
	for _, f := range []string{"", "\xff", long[:24], long[:96], long[:192], long[:480], long[:767], long[:769], long[1:768], long, strings.Repeat("é", 768)} {
		if got, e := choose.Active(f); got != (api.Place{}) || e != api.ErrChooseForm {
			t.Errorf("P7.1: Active of %d bytes: %+v, error %d", len(f), got, e)
		}
		if got, e := choose.Other(f); got != 0 || e != api.ErrChooseForm {
			t.Errorf("P7.1: Other of %d bytes: %d, error %d", len(f), got, e)
		}
	}
}

// done does a step, and fails if it may not be.
func done(t *testing.T, f string, step api.Op) string {
	t.Helper()
	after, e := ops.Do(f, step)
	if e != api.OK {
		t.Fatalf("P7.1: Do %+v: error %d", step, e)
	}
	return after
}

// words are the steps that program a text.
func words(t *testing.T, at int, text string) []api.Op {
	t.Helper()
	steps, e := ops.Words(at, text)
	if e != api.OK {
		t.Fatalf("P7.1: Words: error %d", e)
	}
	return steps
}

// carry is the steps of a new image: its slot's sectors are erased, it is programmed, and then its record.
func carry(t *testing.T, r api.Record, at int, text string) []api.Op {
	t.Helper()
	base, _ := image.Base(r.Slot)
	var steps []api.Op
	for n := range 3 {
		steps = append(steps, api.Op{Erase: true, At: base + 96*n})
	}
	put, e := entry.Put(r)
	if e != api.OK {
		t.Fatalf("P7.1: Put: error %d", e)
	}
	return append(append(steps, words(t, base, text)...), words(t, at, put)...)
}

// P7.1, T2: images carried one behind the other to the slot that Other tells, each step cut anywhere: the elder one is active till the new one's record is whole.
func TestCarriedAndCut(t *testing.T) {
	f := empty()
	elder := api.Place{At: 0, Record: right(f, 1, 1, 288)}
	f = with(f, 0, laid(elder.Record))
	for n, text := range []string{"a", "an image", strings.Repeat("another one; ", 22), strings.Repeat("\x00\xff", 144)} {
		slot, e := choose.Other(f)
		if e != api.OK || slot != n%2 {
			t.Fatalf("P7.1: image %d goes to slot %d, error %d", n, slot, e)
		}
		r := api.Record{Seq: n + 2, Slot: slot, Size: len(text), Sum: int(crc32.ChecksumIEEE([]byte(text)))}
		newer := api.Place{At: places()[n+1], Record: r}
		for _, step := range carry(t, r, newer.At, text) {
			for cut := range 97 {
				torn, _ := ops.Cut(f, step, cut)
				if torn[newer.At:newer.At+24] == laid(r) {
					chosen(t, "a whole record", torn, newer)
				} else {
					chosen(t, "a cut one", torn, elder)
				}
			}
			f = done(t, f, step)
		}
		chosen(t, "carried", f, newer)
		elder = newer
	}
}

// P7.1, T2: the slot of the active one is erased, cut anywhere: the one ahead takes over, and no other record does.
func TestActiveOneErased(t *testing.T) {
	f := empty()
	first, second := api.Place{At: 24, Record: right(f, 4, 1, 96)}, api.Place{At: 96, Record: right(f, 5, 0, 96)}
	f = with(with(f, first.At, laid(first.Record)), second.At, laid(second.Record))
	chosen(t, "whole", f, second)
	for cut := range 97 {
		torn, _ := ops.Cut(f, api.Op{Erase: true, At: 192}, cut)
		if torn == f {
			chosen(t, "nothing is cut", torn, second)
		} else {
			chosen(t, "its image is cut", torn, first)
		}
		torn, _ = ops.Cut(f, api.Op{Erase: true, At: 96}, cut)
		if torn == f {
			chosen(t, "nothing is cut", torn, second)
		} else {
			chosen(t, "its record is cut", torn, first)
		}
	}
	f = done(t, f, api.Op{Erase: true, At: 0})
	chosen(t, "the elder one's sector is erased", f, second)
	none(t, "both are", done(t, f, api.Op{Erase: true, At: 96}))
}

// R4: what was handed in stays as it is, and what is answered stays when that goes.
func TestAnswersAreNew(t *testing.T) {
	f := empty()
	r := right(f, math.MaxUint16, 0, 288)
	f = with(f, 168, laid(r))
	b := []byte(f)
	handed := unsafe.String(&b[0], len(b))
	got, _ := choose.Active(handed)
	other, _ := choose.Other(handed)
	if string(b) != f {
		t.Error("R4: what was handed in has changed")
	}
	clear(b)
	if got != (api.Place{At: 168, Record: r}) || other != 1 {
		t.Errorf("R4: an answer goes with the flash: %+v, %d", got, other)
	}
	none(t, "the flash is cleared", handed)
	chosen(t, "asked again", f, got)
}

// R5: one question has one answer, whoever asks at the same time.
func TestManyAtOneTime(t *testing.T) {
	var wait sync.WaitGroup
	for n, at := range places() {
		wait.Go(func() {
			f := empty()
			r := right(f, n+1, n%2, 30*(n+1))
			f = with(f, at, laid(r))
			for range 200 {
				chosen(t, "one of many", f, api.Place{At: at, Record: r})
			}
		})
	}
	wait.Wait()
}
