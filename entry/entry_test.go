package entry_test

import (
	"math"
	"strings"
	"sync"
	"testing"
	"unsafe"

	"skiff/api"
	"skiff/entry"
	"skiff/nor"
	"skiff/ops"
)

// someSeqs, someSizes, someSums are numbers that a record may have: the ends, and such as tell their bytes apart.
func someSeqs() []int {
	return []int{1, 2, 127, 128, 255, 256, 257, 65535, 65536, 65537, 0x0ABCDE, 1048575, 1048576}
}

func someSizes() []int {
	return []int{1, 2, 31, 32, 33, 96, 127, 128, 255, 256, 257, 287, 288}
}

func someSums() []int {
	return []int{0, 1, 255, 256, 65535, 65536, 0x00FF00FF, 0x12345678, 0x7FFFFFFF, 0x80000000, 0xFF000000, 0xFEFFFFFF, 4294967294, 4294967295}
}

// someRecords are records that may be, each number with each.
func someRecords() []api.Record {
	var out []api.Record
	for _, seq := range someSeqs() {
		for slot := range 2 {
			for _, size := range someSizes() {
				for _, sum := range someSums() {
					out = append(out, api.Record{Seq: seq, Slot: slot, Size: size, Sum: sum})
				}
			}
		}
	}
	return out
}

// wrongRecords are records that may not be: each field in turn is wrong.
func wrongRecords() []api.Record {
	good := api.Record{Seq: 7, Slot: 1, Size: 100, Sum: 12345}
	out := []api.Record{{}, {Slot: 1, Size: 1}, {Seq: -1, Slot: -1, Size: -1, Sum: -1}}
	for _, seq := range []int{0, -1, -7, 1048577, 1 << 24, 1<<32 + 7, 1 << 62, math.MinInt, math.MaxInt} {
		r := good
		r.Seq = seq
		out = append(out, r)
	}
	for _, slot := range []int{-1, 2, 3, 255, 256, 257, 1 << 32, math.MinInt, math.MaxInt} {
		r := good
		r.Slot = slot
		out = append(out, r)
	}
	for _, size := range []int{0, -1, -288, 289, 290, 65535, 65536, 65636, math.MinInt, math.MaxInt} {
		r := good
		r.Size = size
		out = append(out, r)
	}
	for _, sum := range []int{-1, -12345, 1 << 32, 1<<32 + 12345, math.MinInt, math.MaxInt} {
		r := good
		r.Sum = sum
		out = append(out, r)
	}
	return out
}

// laid is a record's bytes worked out by hand, whether it may be or not.
func laid(r api.Record) string {
	b := []byte{
		byte(r.Seq), byte(r.Seq >> 8), byte(r.Seq >> 16), byte(r.Seq >> 24),
		byte(r.Slot), 0, byte(r.Size), byte(r.Size >> 8),
		byte(r.Sum), byte(r.Sum >> 8), byte(r.Sum >> 16), byte(r.Sum >> 24),
	}
	return withComplement(b)
}

// withComplement is half an entry, and the half that belongs to it.
func withComplement(half []byte) string {
	out := append([]byte{}, half...)
	for _, v := range half {
		out = append(out, 255-v)
	}
	return string(out)
}

// refused fails unless nothing can be got of s.
func refused(t *testing.T, what string, s string) {
	t.Helper()
	if got, e := entry.Get(s); got != (api.Record{}) || e != api.ErrEntryForm {
		t.Errorf("P4.1: Get of %s: %q: %+v, error %d", what, s, got, e)
	}
}

// P4.1: known records stand in just these bytes.
func TestPutKnown(t *testing.T) {
	for _, c := range []struct {
		r    api.Record
		want string
	}{
		{api.Record{Seq: 1, Size: 1}, "\x01\x00\x00\x00\x00\x00\x01\x00\x00\x00\x00\x00" + "\xfe\xff\xff\xff\xff\xff\xfe\xff\xff\xff\xff\xff"},
		{api.Record{Seq: 1048576, Slot: 1, Size: 288, Sum: 4294967295}, "\x00\x00\x10\x00\x01\x00\x20\x01\xff\xff\xff\xff" + "\xff\xff\xef\xff\xfe\xff\xdf\xfe\x00\x00\x00\x00"},
		{api.Record{Seq: 0x0ABCDE, Slot: 1, Size: 0x0102, Sum: 0x12345678}, "\xde\xbc\x0a\x00\x01\x00\x02\x01\x78\x56\x34\x12" + "\x21\x43\xf5\xff\xfe\xff\xfd\xfe\x87\xa9\xcb\xed"},
	} {
		if got, e := entry.Put(c.r); got != c.want || e != api.OK {
			t.Errorf("P4.1: Put(%+v) = %q, error %d, want %q", c.r, got, e, c.want)
		}
		if got, e := entry.Get(c.want); got != c.r || e != api.OK {
			t.Errorf("P4.1: Get(%q) = %+v, error %d, want %+v", c.want, got, e, c.r)
		}
	}
}

// P4.1: many records, the ends of each number among them: their bytes, and back.
func TestPutAndGet(t *testing.T) {
	for _, r := range someRecords() {
		want := laid(r)
		if got, e := entry.Put(r); got != want || e != api.OK || len(got) != api.EntrySize {
			t.Fatalf("P4.1: Put(%+v) = %q, error %d, want %q", r, got, e, want)
		}
		if got, e := entry.Get(want); got != r || e != api.OK {
			t.Fatalf("P4.1: Get(%q) = %+v, error %d, want %+v", want, got, e, r)
		}
	}
}

// P4.1: every size and every slot that fits its bytes: just those that may be are put, and got.
func TestEverySizeAndSlot(t *testing.T) {
	for size := range 65536 {
		sizeOrSlot(t, api.Record{Seq: 3, Slot: 1, Size: size, Sum: 99}, size >= 1 && size <= 288)
	}
	for slot := range 256 {
		sizeOrSlot(t, api.Record{Seq: 3, Slot: slot, Size: 9, Sum: 99}, slot < 2)
	}
}

// sizeOrSlot fails unless this record is put and got, or neither.
func sizeOrSlot(t *testing.T, r api.Record, may bool) {
	t.Helper()
	want, text, err := api.Record{}, "", api.ErrEntryForm
	if may {
		want, text, err = r, laid(r), api.OK
	}
	if got, e := entry.Put(r); got != text || e != err {
		t.Fatalf("P4.1: Put(%+v) = %q, error %d", r, got, e)
	}
	if got, e := entry.Get(laid(r)); got != want || e != err {
		t.Fatalf("P4.1: Get of the bytes of %+v = %+v, error %d", r, got, e)
	}
}

// P4.1: of the numbers' ends, the last that may be and the first that may not, in the bytes too.
func TestGetEdges(t *testing.T) {
	good := laid(api.Record{Seq: 1048576, Slot: 1, Size: 288, Sum: 4294967295})
	if _, e := entry.Get(good); e != api.OK {
		t.Errorf("P4.1: the greatest record: error %d", e)
	}
	for _, r := range []api.Record{
		{Seq: 0, Size: 1}, {Seq: 1048577, Size: 1}, {Seq: 1 << 24, Size: 1}, {Seq: 1<<32 - 1, Size: 1}, {Seq: 1 << 31, Size: 1},
		{Seq: 1, Size: 0}, {Seq: 1, Size: 289}, {Seq: 1, Size: 65535}, {Seq: 1, Size: 1, Slot: 2}, {Seq: 1, Size: 1, Slot: 255}, {},
	} {
		refused(t, "a record that may not be", laid(r))
	}
}

// P4.1: what Put refuses.
func TestPutRefuses(t *testing.T) {
	for _, r := range wrongRecords() {
		if got, e := entry.Put(r); got != "" || e != api.ErrEntryForm {
			t.Errorf("P4.1: Put(%+v) = %q, error %d", r, got, e)
		}
	}
}

// P4.1: the byte between Slot and Size is 0, whatever its complement is.
func TestGetAsksTheZero(t *testing.T) {
	for v := 1; v < 256; v++ {
		half := []byte(laid(api.Record{Seq: 5, Slot: 1, Size: 77, Sum: 1 << 20})[:12])
		half[5] = byte(v)
		refused(t, "a byte that is not 0", withComplement(half))
	}
}

// P4.1: each bit that is another makes an entry that Put does not tell, whichever half it stands in.
func TestGetEveryBit(t *testing.T) {
	for _, r := range []api.Record{{Seq: 1, Size: 1}, {Seq: 1048576, Slot: 1, Size: 288, Sum: 4294967295}, {Seq: 4660, Slot: 1, Size: 100, Sum: 0xCAFEBABE}} {
		for bit := range 8 * 24 {
			b := []byte(laid(r))
			b[bit/8] ^= 1 << (bit % 8)
			refused(t, "one bit changed", string(b))
		}
		// Two bits of one half, none of the other: a sum of the bytes would not see them all.
		for bit := range 8*24 - 8 {
			b := []byte(laid(r))
			b[bit/8] ^= 1 << (bit % 8)
			b[bit/8+1] ^= 1 << (bit % 8)
			refused(t, "two bits changed", string(b))
		}
	}
}

// P4.1: texts of every length but EntrySize, and other texts of EntrySize bytes.
func TestGetRefuses(t *testing.T) {
	good := laid(api.Record{Seq: 300, Slot: 1, Size: 200, Sum: 1 << 30})
	long := strings.Repeat(good, 4)
	for n := range 97 {
		if n != 24 {
			refused(t, "another length", long[:n])
		}
	}
	for _, s := range []string{good[1:], good[:23], good[:12], good[12:], good + "x", good + "\x00", "\x00" + good, " " + good, good + good} {
		refused(t, "another length", s)
	}
	for _, s := range []string{
		strings.Repeat("\xff", 24), strings.Repeat("\x00", 24), strings.Repeat("a", 24), good[12:] + good[:12], good[:12] + good[:12],
		strings.Repeat("\xff", 12) + strings.Repeat("\x00", 12), strings.Repeat("\x00", 12) + strings.Repeat("\xff", 12), strings.Repeat("é", 12),
	} {
		refused(t, "another text", s)
	}
}

// P4.1: whatever can be got of 24 bytes, Put tells just them of it.
func TestGetIsPutBack(t *testing.T) {
	good := laid(api.Record{Seq: 300, Slot: 1, Size: 200, Sum: 1 << 30})
	for place := range 12 {
		for v := range 256 {
			half := []byte(good[:12])
			half[place] = byte(v)
			s := withComplement(half)
			r, e := entry.Get(s)
			if e != api.OK {
				refused(t, "another byte", s)
				continue
			}
			if told, e := entry.Put(r); told != s || e != api.OK {
				t.Errorf("P4.1: Put(%+v) = %q, error %d, want %q", r, told, e, s)
			}
		}
	}
}

// P4.2: of every cut of every word, programmed on a blank place one by one, only the record itself can be got.
func TestCutAnywhere(t *testing.T) {
	for _, at := range []int{0, 24, 72, 168} {
		for i, r := range someRecords() {
			if i%7 == 0 {
				cutAnywhere(t, r, at)
			}
		}
	}
}

// cutAnywhere programs a record's words at at, and looks at each cut of each of them.
func cutAnywhere(t *testing.T, r api.Record, at int) {
	t.Helper()
	s, e := entry.Put(r)
	if e != api.OK {
		t.Fatalf("P4.1: Put(%+v): error %d", r, e)
	}
	steps, e := ops.Words(at, s)
	if e != api.OK || len(steps) != 6 {
		t.Fatalf("P4.2: %d words, error %d", len(steps), e)
	}
	f := nor.Blank()
	for _, step := range steps {
		for bits := range 33 {
			torn, e := nor.Torn(f, step.At, step.Text, bits)
			if e != api.OK {
				t.Fatalf("P4.2: Torn: error %d", e)
			}
			there := torn[at : at+24]
			got, e := entry.Get(there)
			if (e == api.OK) != (there == s) || e == api.OK && got != r || e != api.OK && got != (api.Record{}) {
				t.Fatalf("P4.2: %+v, word at %d, %d bits: %+v, error %d", r, step.At, bits, got, e)
			}
		}
		if f, e = ops.Do(f, step); e != api.OK {
			t.Fatalf("P4.2: Do: error %d", e)
		}
	}
	if got, e := entry.Get(f[at : at+24]); got != r || e != api.OK {
		t.Fatalf("P4.2: %+v at the end: %+v, error %d", r, got, e)
	}
}

// P4.2: a record whose last bits clear nothing is there ahead of the end, and is itself.
func TestThereAheadOfTheEnd(t *testing.T) {
	r := api.Record{Seq: 1, Size: 1}
	s := laid(r)
	blank := strings.Repeat("\xff", 24)
	if got, e := entry.Get(s[:19] + blank[19:]); got != r || e != api.OK {
		t.Errorf("P4.2: %+v without its last words: %+v, error %d", r, got, e)
	}
	refused(t, "a record without its last byte that tells", s[:18]+blank[18:])
}

// R4: what is answered is new memory, each time, and what was handed in stays.
func TestAnswersAreNew(t *testing.T) {
	r := api.Record{Seq: 9, Slot: 1, Size: 30, Sum: 77}
	one, _ := entry.Put(r)
	other, _ := entry.Put(r)
	if unsafe.StringData(one) == unsafe.StringData(other) {
		t.Error("R4: two answers share memory")
	}
	s := []byte(laid(r))
	kept := string(s)
	got, _ := entry.Get(unsafe.String(&s[0], len(s)))
	if string(s) != kept {
		t.Error("R4: what was handed in has changed")
	}
	clear(s)
	if got != r {
		t.Error("R4: the record goes with the text")
	}
}

// R5: one question has one answer, whoever asks at the same time.
func TestManyAtOneTime(t *testing.T) {
	var wait sync.WaitGroup
	for n := range 8 {
		wait.Go(func() {
			for seq := 1; seq < 300; seq++ {
				r := api.Record{Seq: seq, Slot: n % 2, Size: 1 + n, Sum: seq * 65537}
				s, e := entry.Put(r)
				got, f := entry.Get(s)
				if s != laid(r) || got != r || e != api.OK || f != api.OK {
					t.Errorf("R5: %+v: %q, %+v, errors %d, %d", r, s, got, e, f)
				}
			}
		})
	}
	wait.Wait()
}
