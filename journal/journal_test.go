package journal_test

import (
	"math"
	"slices"
	"strings"
	"sync"
	"testing"
	"unsafe"

	"skiff/api"
	"skiff/entry"
	"skiff/journal"
	"skiff/nor"
	"skiff/ops"
)

// blankFlash is a flash on which nothing is programmed; blankPlace a place of it.
var (
	blankFlash = strings.Repeat("\xff", 768)
	blankPlace = strings.Repeat("\xff", 24)
)

// wrongFlashes are texts that no flash may be.
func wrongFlashes() []string {
	long := laid(api.Record{Seq: 1, Size: 1}) + blankFlash
	return []string{"", "\xff", long[:24], long[:96], long[:192], long[:767], long[:769], long, blankFlash + blankFlash, strings.Repeat("é", 768)}
}

// laid is a record's bytes worked out by hand, whether it may be or not.
func laid(r api.Record) string {
	b := []byte{
		byte(r.Seq), byte(r.Seq >> 8), byte(r.Seq >> 16), byte(r.Seq >> 24),
		byte(r.Slot), 0, byte(r.Size), byte(r.Size >> 8),
		byte(r.Sum), byte(r.Sum >> 8), byte(r.Sum >> 16), byte(r.Sum >> 24),
	}
	for at := range 12 {
		b = append(b, 255-b[at])
	}
	return string(b)
}

// with is a flash whose bytes from at on are these.
func with(f string, at int, s string) string {
	return f[:at] + s + f[at+len(s):]
}

// numbered is the record that the tests lay in place n: no two alike.
func numbered(n int) api.Record {
	return api.Record{Seq: 900 - 100*n, Slot: n % 2, Size: 1 + 41*n, Sum: 0x01020304 * (n + 1)}
}

// places are those of both sectors, written out.
func places() []int {
	return []int{0, 24, 48, 72, 96, 120, 144, 168}
}

// scanned fails unless Scan tells just these.
func scanned(t *testing.T, what string, f string, want []api.Place) {
	t.Helper()
	got, e := journal.Scan(f)
	if !slices.Equal(got, want) || e != api.OK {
		t.Errorf("P5.1: %s: %+v, error %d, want %+v", what, got, e, want)
	}
}

// freed fails unless Free tells just this.
func freed(t *testing.T, what string, f string, sector, at int, is bool) {
	t.Helper()
	got, there, e := journal.Free(f, sector)
	if got != at || there != is || e != api.OK {
		t.Errorf("P5.2: %s, sector %d: %d, %v, error %d, want %d, %v", what, sector, got, there, e, at, is)
	}
}

// P5.1: of a flash on which nothing is programmed, or everything, there is no record.
func TestScanNone(t *testing.T) {
	scanned(t, "a blank flash", nor.Blank(), nil)
	scanned(t, "zeros", strings.Repeat("\x00", 768), nil)
	scanned(t, "a text", strings.Repeat("skif", 192), nil)
}

// P5.1: every choice of the eight places holds a record: just these are told, in their row, whatever their numbers.
func TestScanEveryChoice(t *testing.T) {
	for _, rest := range []string{blankPlace, strings.Repeat("\x00", 24), laid(api.Record{Seq: 1, Size: 289}), laid(api.Record{Seq: 0, Size: 1})} {
		for choice := range 256 {
			f := blankFlash
			var want []api.Place
			for n, at := range places() {
				if choice>>n&1 == 0 {
					f = with(f, at, rest)
					continue
				}
				f = with(f, at, laid(numbered(n)))
				want = append(want, api.Place{At: at, Record: numbered(n)})
			}
			scanned(t, "a choice of places", f, want)
		}
	}
}

// P5.1: what stands in a place does not hang on its neighbours: one record in every place, told eight times.
func TestScanAlike(t *testing.T) {
	r := api.Record{Seq: 1048576, Slot: 1, Size: 288, Sum: 4294967295}
	f := with(blankFlash, 0, strings.Repeat(laid(r), 8))
	var want []api.Place
	for _, at := range places() {
		want = append(want, api.Place{At: at, Record: r})
	}
	scanned(t, "eight alike", f, want)
}

// P5.1: a record that begins anywhere in the flash but at a place is none.
func TestScanEveryBeginning(t *testing.T) {
	r := api.Record{Seq: 77, Slot: 1, Size: 200, Sum: 0xDEADBEEF}
	for at := range 768 - 24 + 1 {
		var want []api.Place
		if slices.Contains(places(), at) {
			want = []api.Place{{At: at, Record: r}}
		}
		scanned(t, "one record", with(blankFlash, at, laid(r)), want)
	}
}

// P5.1: the places behind sector 1 are no places, even where records stand in all of them.
func TestScanOnlyTwoSectors(t *testing.T) {
	f := strings.Repeat(laid(numbered(1)), 32)
	got, e := journal.Scan(f)
	if len(got) != 8 || e != api.OK {
		t.Errorf("P5.1: %d records of 8, error %d", len(got), e)
	}
	scanned(t, "records in slots", blankPlace+strings.Repeat("\x00", 168)+f[192:], nil)
}

// P5.1: records that differ only by what they tell of, that tell of nothing that is there, the ends of all numbers.
func TestScanEdges(t *testing.T) {
	for _, r := range []api.Record{
		{Seq: 1, Size: 1}, {Seq: 1048576, Size: 1}, {Seq: 1, Slot: 1, Size: 1}, {Seq: 1, Size: 288}, {Seq: 1, Size: 1, Sum: 4294967295},
	} {
		for _, at := range places() {
			scanned(t, "a record at an end", with(blankFlash, at, laid(r)), []api.Place{{At: at, Record: r}})
		}
	}
	for _, r := range []api.Record{
		{}, {Seq: 0, Size: 1}, {Seq: 1048577, Size: 1}, {Seq: 1, Slot: 2, Size: 1}, {Seq: 1, Size: 0}, {Seq: 1, Size: 289},
	} {
		for _, at := range places() {
			scanned(t, "a record that may not be", with(blankFlash, at, laid(r)), nil)
		}
	}
}

// P5.1: each bit that is another takes its own record away, and no other one.
func TestScanEveryBit(t *testing.T) {
	f := blankFlash
	var all []api.Place
	for n, at := range places() {
		f = with(f, at, laid(numbered(n)))
		all = append(all, api.Place{At: at, Record: numbered(n)})
	}
	for bit := range 8 * 768 {
		b := []byte(f)
		b[bit/8] ^= 1 << (bit % 8)
		want := slices.Clone(all)
		if n := bit / 8 / 24; n < 8 {
			want = slices.Delete(want, n, n+1)
		}
		scanned(t, "one bit changed", string(b), want)
	}
}

// P5.2: every choice of a sector's four places is blank: the first one of them is told, whatever the other sector holds.
func TestFreeEveryChoice(t *testing.T) {
	for _, full := range []string{laid(numbered(3)), strings.Repeat("\x00", 24), "\xfe" + blankPlace[1:], blankPlace[1:] + "\x7f"} {
		for choice := range 256 {
			f := blankFlash
			for n, at := range places() {
				if choice>>n&1 == 0 {
					f = with(f, at, full)
				}
			}
			for sector := range 2 {
				at, is := 0, false
				for n := 3; n >= 0; n-- {
					if choice>>(4*sector+n)&1 == 1 {
						at, is = 96*sector+24*n, true
					}
				}
				freed(t, "a choice of places", f, sector, at, is)
			}
		}
	}
}

// P5.2: each single bit that is cleared takes its place away: the next one is told, or none is left.
func TestFreeEveryBit(t *testing.T) {
	for bit := range 8 * 192 {
		b := []byte(blankFlash)
		b[bit/8] &^= 1 << (bit % 8)
		place := bit / 8 / 24
		sector := place / 4
		at := 96 * sector
		if place%4 == 0 {
			at += 24
		}
		freed(t, "one bit cleared", string(b), sector, at, true)
		freed(t, "one bit cleared in the other sector", string(b), 1-sector, 96*(1-sector), true)
		// The same bit where only this place had been free.
		f := with(strings.Repeat("\x00", 768), 24*place, string(b)[24*place:24*place+24])
		freed(t, "the only one touched", f, sector, 0, false)
	}
}

// P5.2: blank bytes that are not just a place are none, and what stands behind sector 1 counts for nothing.
func TestFreeOnlyPlaces(t *testing.T) {
	zeros := strings.Repeat("\x00", 768)
	for at := range 192 - 24 + 1 {
		f := with(zeros, at, blankPlace)
		for sector := range 2 {
			if at%24 == 0 && at/96 == sector {
				freed(t, "one blank place", f, sector, at, true)
			} else {
				freed(t, "blank bytes", f, sector, 0, false)
			}
		}
	}
	for sector := range 2 {
		freed(t, "blank slots", with(blankFlash, 0, zeros[:192]), sector, 0, false)
		freed(t, "cleared slots", with(zeros, 0, blankFlash[:192]), sector, 96*sector, true)
	}
}

// P5.1, P5.2: what no flash may be, and sectors that hold no records.
func TestRefused(t *testing.T) {
	wrongSectors := []int{math.MinInt, -96, -2, -1, 2, 3, 7, 8, 96, 256, 1 << 32, 1<<32 + 1, 1 << 62, math.MaxInt}
	for _, f := range wrongFlashes() {
		if got, e := journal.Scan(f); len(got) != 0 || e != api.ErrJournalForm {
			t.Errorf("P5.1: Scan of %d bytes: %+v, error %d", len(f), got, e)
		}
		for _, sector := range append(wrongSectors, 0, 1) {
			refusedFree(t, f, sector)
		}
	}
	for _, f := range []string{blankFlash, strings.Repeat("\x00", 768)} {
		for _, sector := range wrongSectors {
			refusedFree(t, f, sector)
		}
	}
}

// refusedFree fails unless Free answers its error, and nothing beside it.
func refusedFree(t *testing.T, f string, sector int) {
	t.Helper()
	if at, is, e := journal.Free(f, sector); at != 0 || is || e != api.ErrJournalForm {
		t.Errorf("P5.2: Free of %d bytes, sector %d: %d, %v, error %d", len(f), sector, at, is, e)
	}
}

// P5.1, P5.2: records are programmed where Free tells, each cut of each word of them is looked at, till both sectors are full.
func TestFillBothSectors(t *testing.T) {
	f := nor.Blank()
	var want []api.Place
	for n, place := range places() {
		freed(t, "the next one", f, n/4, place, true)
		text, e := entry.Put(numbered(n))
		steps, g := ops.Words(place, text)
		if e != api.OK || g != api.OK {
			t.Fatalf("P5.1: errors %d, %d", e, g)
		}
		whole := append(slices.Clone(want), api.Place{At: place, Record: numbered(n)})
		for _, step := range steps {
			cutThere(t, f, step, place, text, want, whole)
			if f, e = ops.Do(f, step); e != api.OK {
				t.Fatalf("P5.1: Do: error %d", e)
			}
		}
		want = whole
		scanned(t, "so many records", f, want)
	}
	freed(t, "full", f, 0, 0, false)
	freed(t, "full", f, 1, 0, false)
}

// cutThere looks at each cut of a word that is programmed in a place: the record is there whole, or the elder ones alone are; a place that is touched is not free.
func cutThere(t *testing.T, f string, step api.Op, place int, text string, elder, whole []api.Place) {
	t.Helper()
	for bits := range 33 {
		cut, e := ops.Cut(f, step, bits)
		if e != api.OK {
			t.Fatalf("P5.1: Cut: error %d", e)
		}
		there := cut[place : place+24]
		if there == text {
			scanned(t, "a whole record", cut, whole)
		} else {
			scanned(t, "a cut record", cut, elder)
		}
		at, is, e := journal.Free(cut, place/96)
		if e != api.OK || (is && at == place) != (there == blankPlace) {
			t.Errorf("P5.2: word at %d, %d bits: %d, %v, error %d", step.At, bits, at, is, e)
		}
	}
}

// R4: no two answers share memory, their spare room neither, and what was handed in stays, and is not kept.
func TestAnswersAreNew(t *testing.T) {
	b := []byte(with(with(blankFlash, 24, laid(numbered(2))), 144, laid(numbered(5))))
	kept := string(b)
	want := []api.Place{{At: 24, Record: numbered(2)}, {At: 144, Record: numbered(5)}}
	f := unsafe.String(&b[0], len(b))
	one, _ := journal.Scan(f)
	other, _ := journal.Scan(f)
	journal.Free(f, 0)
	if string(b) != kept {
		t.Error("R4: what was handed in has changed")
	}
	clear(b)
	clear(one[:cap(one)])
	if !slices.Equal(other, want) {
		t.Errorf("R4: an answer goes with another one, or with the flash: %+v", other)
	}
	scanned(t, "asked again", kept, want)
}

// R5: one question has one answer, whoever asks at the same time.
func TestManyAtOneTime(t *testing.T) {
	var wait sync.WaitGroup
	for n, at := range places() {
		wait.Go(func() {
			f := with(blankFlash, 96*(at/96), strings.Repeat("\x00", 96))
			f = with(f, at, blankPlace)
			for range 200 {
				freed(t, "one of many", f, at/96, at, true)
				scanned(t, "one of many", with(f, at, laid(numbered(n))), []api.Place{{At: at, Record: numbered(n)}})
			}
		})
	}
	wait.Wait()
}
