package place_test

import (
	"hash/crc32"
	"math"
	"slices"
	"strings"
	"sync"
	"testing"
	"unsafe"

	"skiff/api"
	"skiff/nor"
	"skiff/ops"
	"skiff/place"
)

// places are those of both sectors, written out.
func places() []int {
	return []int{0, 24, 48, 72, 96, 120, 144, 168}
}

// bases are the slots' beginnings, written out.
func bases() []int {
	return []int{192, 480}
}

// empty is a flash of two images and of no record.
func empty() string {
	b := []byte(strings.Repeat("\xff", 192))
	for n := range 576 {
		b = append(b, byte(7*n+n/256*31+3))
	}
	return string(b)
}

// laid is a record's bytes worked out by hand, whether it may be or not.
func laid(r api.Record) string {
	b := []byte{
		byte(r.Seq), byte(r.Seq >> 8), byte(r.Seq >> 16), byte(r.Seq >> 24),
		byte(r.Slot), 0, byte(r.Size), byte(r.Size >> 8),
		byte(r.Sum), byte(r.Sum >> 8), byte(r.Sum >> 16), byte(r.Sum >> 24),
	}
	for at := range 12 {
		b = append(b, 255-b[at])
	}
	return string(b)
}

// with is a flash whose bytes from at on are these.
func with(f string, at int, s string) string {
	return f[:at] + s + f[at+len(s):]
}

// right is the record of this flash whose sum is that of its image.
func right(f string, seq, slot, size int) api.Record {
	from := bases()[slot]
	return api.Record{Seq: seq, Slot: slot, Size: size, Sum: int(crc32.ChecksumIEEE([]byte(f[from : from+size])))}
}

// wrong is the same record, but of another sum.
func wrong(f string, seq, slot, size int) api.Record {
	r := right(f, seq, slot, size)
	r.Sum ^= 1
	return r
}

// got is the record whose bytes stand at at, worked out by hand.
func got(f string, at int) (api.Record, bool) {
	s := f[at : at+24]
	r := api.Record{
		Seq:  int(s[0]) | int(s[1])<<8 | int(s[2])<<16 | int(s[3])<<24,
		Slot: int(s[4]),
		Size: int(s[6]) | int(s[7])<<8,
		Sum:  int(s[8]) | int(s[9])<<8 | int(s[10])<<16 | int(s[11])<<24,
	}
	may := r.Seq >= 1 && r.Seq <= 1048576 && r.Slot <= 1 && r.Size >= 1 && r.Size <= 288
	return r, may && laid(r) == s
}

// active is the active place worked out by hand, and whether there is one.
func active(f string) (api.Place, bool) {
	var best api.Place
	for _, at := range places() {
		if r, is := got(f, at); is && r.Seq >= best.Record.Seq && right(f, r.Seq, r.Slot, r.Size) == r {
			best = api.Place{At: at, Record: r}
		}
	}
	return best, best.Record.Seq > 0
}

// tame: is this flash one, as the chapter says it?
func tame(f string) bool {
	for _, at := range places() {
		for n := range 12 {
			if f[at+n]|f[at+n+12] != 255 {
				return false
			}
		}
	}
	return true
}

// steps are those that lay r at at, behind an erased sector or not, worked out by hand.
func steps(r api.Record, at int, erase bool) []api.Op {
	var out []api.Op
	if erase {
		out = append(out, api.Op{Erase: true, At: at})
	}
	s := laid(r)
	for _, n := range []int{0, 4, 8, 12, 16, 20} {
		out = append(out, api.Op{At: at + n, Text: s[n : n+4]})
	}
	return out
}

// numbered fails unless Next tells this number.
func numbered(t *testing.T, what string, f string, want int) {
	t.Helper()
	if n, e := place.Next(f); n != want || e != api.OK {
		t.Errorf("P8.1: %s: %d, error %d, want %d", what, n, e, want)
	}
}

// full fails unless Next tells that there is no number left.
func full(t *testing.T, what string, f string) {
	t.Helper()
	if n, e := place.Next(f); n != 0 || e != api.ErrPlaceFull {
		t.Errorf("P8.1: %s: %d, error %d, want none", what, n, e)
	}
}

// appended fails unless Append tells just the steps that lay r there.
func appended(t *testing.T, what string, f string, r api.Record, at int, erase bool) {
	t.Helper()
	if out, e := place.Append(f, r); !slices.Equal(out, steps(r, at, erase)) || e != api.OK {
		t.Errorf("P8.2: %s: %+v at %d, erased %v: %+v, error %d", what, r, at, erase, out, e)
	}
}

// P8.1: without a record the first number is 1.
func TestNextOfNone(t *testing.T) {
	numbered(t, "a blank flash", nor.Blank(), 1)
	numbered(t, "zeros", strings.Repeat("\x00", 768), 1)
	numbered(t, "images alone", empty(), 1)
	numbered(t, "a text", strings.Repeat("skif", 192), 1)
}

// P8.1: of one record, in every place, of every kind of number, good or not.
func TestNextOfOne(t *testing.T) {
	f := empty()
	for _, at := range places() {
		for slot := range bases() {
			for _, seq := range []int{1, 2, 254, 255, 256, 65535, 65536, 1048574, 1048575} {
				numbered(t, "a good one", with(f, at, laid(right(f, seq, slot, 9))), seq+1)
				numbered(t, "one that is not good", with(f, at, laid(wrong(f, seq, slot, 9))), seq+1)
			}
			full(t, "the last number", with(f, at, laid(right(f, 1048576, slot, 9))))
			full(t, "the last number, not good", with(f, at, laid(wrong(f, 1048576, slot, 9))))
		}
	}
}

// P8.1: of two records in any two places the greater number counts, whichever of both is good.
func TestNextOfTwo(t *testing.T) {
	f := empty()
	for _, one := range places() {
		for _, two := range places() {
			if one == two {
				continue
			}
			less, more := right(f, 255, 0, 50), right(f, 256, 1, 60)
			numbered(t, "two", with(with(f, one, laid(less)), two, laid(more)), 257)
			numbered(t, "the greater one not good", with(with(f, one, laid(less)), two, laid(wrong(f, 256, 1, 60))), 257)
			numbered(t, "alike", with(with(f, one, laid(less)), two, laid(less)), 256)
			full(t, "one of both the last", with(with(f, one, laid(less)), two, laid(right(f, 1048576, 0, 1))))
		}
	}
}

// P8.1: of eight records, the greatest one in each place.
func TestNextOfMany(t *testing.T) {
	for greatest := range places() {
		f := empty()
		for n, at := range places() {
			seq := 10 + n
			if n == greatest {
				seq = 700
			}
			f = with(f, at, laid(wrong(f, seq, n%2, 1+n)))
		}
		numbered(t, "eight", f, 701)
	}
}

// P8.1: what stands anywhere but in a place, or may not be, or is cut, is no record.
func TestNextOfNoRecords(t *testing.T) {
	f := empty()
	r := right(f, 9, 1, 100)
	for at := range 192 - 24 + 1 {
		if at%24 != 0 {
			numbered(t, "between places", with(f, at, laid(r)), 1)
		}
	}
	numbered(t, "behind both sectors", with(f, 192, laid(r)), 1)
	for _, at := range places() {
		for _, seq := range []int{0, 1048577, 1<<32 - 1} {
			other := r
			other.Seq = seq
			numbered(t, "a number that may not be", with(f, at, laid(other)), 1)
		}
		whole := with(f, at, laid(r))
		for bit := range 8 * 24 {
			b := []byte(whole)
			b[at+bit/8] ^= 1 << (bit % 8)
			numbered(t, "another bit", string(b), 1)
		}
	}
}

// P8.2: of a flash without a record the first place takes one, of all ends of its numbers.
func TestAppendToNone(t *testing.T) {
	for _, seq := range []int{1, 255, 256, 65536, 1048576} {
		for slot := range bases() {
			for _, size := range []int{1, 255, 256, 288} {
				for _, sum := range []int{0, 1, 1 << 24, 4294967295} {
					r := api.Record{Seq: seq, Slot: slot, Size: size, Sum: sum}
					appended(t, "a blank flash", nor.Blank(), r, 0, false)
					appended(t, "images alone", empty(), r, 0, false)
					appended(t, "zeros", strings.Repeat("\x00", 768), r, 96, true)
				}
			}
		}
	}
}

// kinds are what a place of these tests may hold: nothing, a good record, one that is not good, what is no record.
const kinds = 4

// filled is a flash whose eight places hold what choice says of them, the numbers in this order.
func filled(base string, choice int, order [8]int) string {
	f := base
	for n, at := range places() {
		switch choice % kinds {
		case 1:
			f = with(f, at, laid(right(base, order[n], n*5/2%2, 1+40*n)))
		case 2:
			f = with(f, at, laid(wrong(base, order[n], n*5/2%2, 1+40*n)))
		case 3:
			f = with(f, at+(7*n+5)%24, "\xfe")
		}
		choice /= kinds
	}
	return f
}

// wanted is where a record goes, worked out by hand, and whether that sector is erased ahead.
func wanted(f string) (int, bool) {
	p, is := active(f)
	first, other := 0, 96
	if is && p.At >= 96 {
		first, other = 96, 0
	}
	for _, at := range []int{first, first + 24, first + 48, first + 72} {
		if f[at:at+24] == strings.Repeat("\xff", 24) {
			return at, false
		}
	}
	return other, true
}

// P8.2: every choice of blank places, records and others in the eight places, in several orders.
func TestAppendToEveryChoice(t *testing.T) {
	base := empty()
	r := right(base, 4, 1, 77)
	for _, order := range [][8]int{{1, 2, 3, 4, 5, 6, 7, 8}, {8, 7, 6, 5, 4, 3, 2, 1}, {3, 8, 8, 6, 2, 7, 4, 8}} {
		for choice := range 65536 {
			f := filled(base, choice, order)
			at, erase := wanted(f)
			appended(t, "a choice of places", f, r, at, erase)
		}
	}
}

// P8.2: the record goes home, though the other sector has room, or stands ahead; it is erased even if it is blank.
func TestAppendGoesHome(t *testing.T) {
	f := empty()
	r := right(f, 50, 0, 10)
	one := laid(right(f, 7, 1, 20))
	two := laid(right(f, 7, 1, 20)) + laid(right(f, 8, 1, 20))
	appended(t, "the first sector", with(f, 0, one), r, 24, false)
	appended(t, "the second sector", with(f, 96, one), r, 120, false)
	appended(t, "a gap", with(f, 72, one), r, 0, false)
	appended(t, "a gap of the second", with(f, 120, two), r, 96, false)
	appended(t, "the first is full", with(f, 0, two+two), r, 96, true)
	appended(t, "the second is full", with(f, 96, two+two), r, 0, true)
	appended(t, "both are full", with(f, 0, two+two+two+two), r, 0, true)
	appended(t, "a greater one that is not good", with(with(f, 0, laid(wrong(f, 9, 1, 20))), 96, one), r, 120, false)
	appended(t, "none is good", with(f, 96, laid(wrong(f, 9, 1, 20))), r, 0, false)
	appended(t, "none is good, the first is full", with(f, 0, strings.Repeat(laid(wrong(f, 9, 1, 20)), 4)), r, 96, true)
}

// P8.2: a place on which one bit is programmed is no free one, whichever bit it is.
func TestAppendPassesTouchedPlaces(t *testing.T) {
	f := with(empty(), 96, laid(right(empty(), 7, 1, 20)))
	r := right(f, 8, 0, 33)
	for bit := range 8 * 24 {
		b := []byte(f)
		b[120+bit/8] &^= 1 << (bit % 8)
		appended(t, "a touched place", string(b), r, 144, false)
		b[144+bit/8] &^= 1 << (bit % 8)
		b[168+bit/8] &^= 1 << (bit % 8)
		appended(t, "touched places", string(b), r, 0, true)
	}
}

// P8.2: steps do not hang on whether r is good, nor on how great its number is.
func TestAppendOfAnyRecord(t *testing.T) {
	f := with(empty(), 96, laid(right(empty(), 500, 1, 20)))
	for _, seq := range []int{1, 499, 500, 501, 1048576} {
		appended(t, "any number", f, right(f, seq, 0, 5), 120, false)
		appended(t, "any sum", f, wrong(f, seq, 1, 5), 120, false)
	}
	last := with(empty(), 0, laid(right(empty(), 1048576, 1, 20)))
	full(t, "no number is left", last)
	appended(t, "no number is left", last, right(last, 1, 0, 5), 24, false)
}

// wrongFlashes are texts that no flash may be.
func wrongFlashes() []string {
	f := empty()
	long := strings.Repeat(with(f, 0, laid(right(f, 1, 0, 10))+laid(right(f, 2, 1, 10))), 2)
	return []string{"", "\xff", long[:24], long[:96], long[:192], long[:480], long[:767], long[:769], long[1:768], long, strings.Repeat("é", 768)}
}

// wrongRecords are records that may not be.
func wrongRecords() []api.Record {
	out := []api.Record{{}}
	r := api.Record{Seq: 1, Slot: 1, Size: 1, Sum: 1}
	for _, n := range []int{0, -1, 1048577, 1<<32 + 1, math.MaxInt, math.MinInt} {
		other := r
		other.Seq = n
		out = append(out, other)
	}
	for _, n := range []int{-1, 2, 256, math.MaxInt, math.MinInt} {
		other := r
		other.Slot = n
		out = append(out, other)
	}
	for _, n := range []int{0, -1, 289, 65537, math.MaxInt, math.MinInt} {
		other := r
		other.Size = n
		out = append(out, other)
	}
	for _, n := range []int{-1, 4294967296, math.MaxInt, math.MinInt} {
		other := r
		other.Sum = n
		out = append(out, other)
	}
	return out
}

// refused fails unless Append tells nothing but the error.
func refused(t *testing.T, what string, f string, r api.Record) {
	t.Helper()
	if out, e := place.Append(f, r); len(out) != 0 || e != api.ErrPlaceForm {
		t.Errorf("P8.2: %s: %d bytes, %+v: %+v, error %d", what, len(f), r, out, e)
	}
}

// P8.1, P8.2: what no flash may be, and what no record may be, and both.
func TestWrongArguments(t *testing.T) {
	for _, f := range wrongFlashes() {
		if n, e := place.Next(f); n != 0 || e != api.ErrPlaceForm {
			t.Errorf("P8.1: %d bytes: %d, error %d", len(f), n, e)
		}
		refused(t, "a wrong flash", f, api.Record{Seq: 1, Slot: 1, Size: 1, Sum: 1})
		for _, r := range wrongRecords() {
			refused(t, "both wrong", f, r)
		}
	}
	for _, r := range wrongRecords() {
		refused(t, "a wrong record", nor.Blank(), r)
		refused(t, "a wrong record", with(empty(), 0, strings.Repeat(laid(right(empty(), 3, 0, 4)), 8)), r)
	}
}

// done does a step, and fails if it may not be.
func done(t *testing.T, f string, step api.Op) string {
	t.Helper()
	after, e := ops.Do(f, step)
	if e != api.OK {
		t.Fatalf("P8.2: Do %+v: error %d", step, e)
	}
	return after
}

// torn cuts a step, and fails if it may not be.
func torn(t *testing.T, f string, step api.Op, cut int) string {
	t.Helper()
	after, e := ops.Cut(f, step, cut)
	if e != api.OK {
		t.Fatalf("P8.2: Cut %+v at %d: error %d", step, cut, e)
	}
	return after
}

// everyCut are all of them.
func everyCut() []int {
	var out []int
	for cut := range 97 {
		out = append(out, cut)
	}
	return out
}

// kept fails unless the active record of after is the one of f, at its place, or r, and after is tame.
func kept(t *testing.T, f, after string, r api.Record) {
	t.Helper()
	was, had := active(f)
	is, has := active(after)
	if is.Record != r && (is != was || has != had) {
		t.Errorf("P8.3: %q: %+v was active, %+v is on its way, now %+v", f[:192], was, r, is)
	}
	if !tame(after) {
		t.Errorf("P8.3: %q, not tame behind %q", after[:192], f[:192])
	}
}

// carried does all steps that lay r, looks behind each of these cuts of each, hands on what is then, and answers the flash behind all.
func carried(t *testing.T, f string, r api.Record, cuts []int, then func(string)) string {
	t.Helper()
	all, e := place.Append(f, r)
	if e != api.OK {
		t.Fatalf("P8.2: %+v: error %d", r, e)
	}
	after := f
	for _, step := range all {
		for _, cut := range cuts {
			short := torn(t, after, step, cut)
			kept(t, f, short, r)
			then(short)
		}
		after = done(t, after, step)
		kept(t, f, after, r)
	}
	if p, _ := active(after); p.Record != r {
		t.Errorf("P8.3: %q: %+v is not active behind all steps, but %+v", f[:192], r, p)
	}
	return after
}

// newest is a good record of this flash with the number that Next tells.
func newest(t *testing.T, f string, salt int) api.Record {
	t.Helper()
	seq, e := place.Next(f)
	if e != api.OK {
		t.Fatalf("P8.1: error %d", e)
	}
	return right(f, seq, salt%2, 1+salt*97%288)
}

// P8.2, P8.3: record behind record, nothing cut: they go round both sectors, and numbers go upward.
func TestRoundAndRound(t *testing.T) {
	f := empty()
	for n := range 100 {
		r := newest(t, f, n)
		if r.Seq != n+1 {
			t.Fatalf("P8.1: %d behind %d records", r.Seq, n)
		}
		appended(t, "round and round", f, r, places()[n%8], n >= 4 && n%4 == 0)
		f = carried(t, f, r, nil, func(string) {})
		if p, _ := active(f); p != (api.Place{At: places()[n%8], Record: r}) {
			t.Fatalf("P8.3: record %d: %+v is active", n+1, p)
		}
	}
}

// P8.3: record behind record, every cut of every step of each; from each cut flash on the next record is carried, with cuts again.
func TestEveryCutAndOn(t *testing.T) {
	f := empty()
	for n := range 18 {
		f = carried(t, f, newest(t, f, n), everyCut(), func(short string) {
			next := newest(t, short, n+1)
			end := carried(t, short, next, []int{5, 40}, func(string) {})
			numbered(t, "behind a cut", end, next.Seq+1)
		})
	}
}

// row is a row of numbers, the same in each run.
type row uint64

// next is one from 0 up to n.
func (r *row) next(n int) int {
	*r = *r*6364136223846793005 + 1442695040888963407
	return int(uint64(*r) >> 33 % uint64(n))
}

// P8.3: rows of cuts, one behind the other, with no whole record between, or with some.
func TestRowsOfCuts(t *testing.T) {
	cutShort, whole := 0, 0
	for start := range 40 {
		by := row(start)
		f := empty()
		for n := range 60 {
			r := newest(t, f, n+start)
			last := f
			after := carried(t, f, r, []int{0, 1, by.next(97), 32, 96}, func(short string) {
				if by.next(3) == 0 {
					last = short
				}
			})
			if by.next(4) == 0 {
				f = after
				whole++
			} else {
				f = last
				cutShort++
			}
		}
	}
	if cutShort == 0 || whole == 0 {
		t.Errorf("P8.3: %d cut, %d whole", cutShort, whole)
	}
}

// tamed is what a tame place may hold: bytes by chance, and behind them all bits that they have not, with some more.
func tamed(by *row) string {
	b := make([]byte, 24)
	for n := range 12 {
		b[n] = byte(by.next(256))
		b[n+12] = ^b[n]
		if by.next(3) == 0 {
			b[n+12] |= byte(by.next(256))
		}
	}
	return string(b)
}

// nearly is a record but for bytes at its beginning that are erased, or bits by chance that are set: what cuts leave, and worse.
func nearly(by *row, r api.Record) string {
	b := []byte(laid(r))
	if by.next(2) == 0 {
		for n := range by.next(24) {
			b[n] = 255
		}
		return string(b)
	}
	for range 1 + by.next(4) {
		b[by.next(24)] |= 1 << by.next(8)
	}
	return string(b)
}

// anyTame is a tame flash of two images by chance, in whose places records are, good or not, nearly such, others, or nothing.
func anyTame(by *row) string {
	base := empty()
	f := base
	for _, at := range places() {
		// Bytes 255 in front are what a cut erase is like: numbers that have such ones are of most worth here.
		seq := []int{1, 255, 65535, 1048575, 256 + by.next(9), 1 + by.next(1000)}[by.next(6)]
		r := right(base, seq, by.next(2), 1+by.next(288))
		switch by.next(6) {
		case 0, 1:
			f = with(f, at, laid(r))
		case 2:
			r.Sum ^= 1 << by.next(32)
			f = with(f, at, laid(r))
		case 3:
			f = with(f, at, nearly(by, r))
		case 4:
			f = with(f, at, tamed(by))
		}
	}
	return f
}

// P8.3: tame flashes by chance, of all kinds of places: every cut of every step.
func TestTameByChance(t *testing.T) {
	by := row(8)
	erases, none := 0, 0
	for n := range 400 {
		f := anyTame(&by)
		if !tame(f) {
			t.Fatalf("P8.3: this test's flash is not tame: %q", f[:192])
		}
		if _, erase := wanted(f); erase {
			erases++
		}
		if _, is := active(f); !is {
			none++
		}
		carried(t, f, newest(t, f, n), everyCut(), func(string) {})
	}
	if erases < 40 || none < 4 || none > 200 {
		t.Errorf("P8.3: these flashes are too much alike: %d erased, %d without an active one", erases, none)
	}
}

// P8.3: the erased sector, cut anywhere, tells no other record, whatever records stood there; numbers up to the last one.
func TestErasedSectorTellsNothing(t *testing.T) {
	base := empty()
	for _, home := range []int{0, 96} {
		for _, seq := range []int{1, 2, 254, 255, 256, 65535, 65536, 1048574} {
			elder := laid(right(base, seq, 1, 200))
			f := with(base, home, strings.Repeat(laid(right(base, 1048575, 0, 100)), 4))
			f = with(f, 96-home, strings.Repeat(elder, 4))
			r := right(base, 1048576, 1, 288)
			appended(t, "the elder ones go", f, r, 96-home, true)
			end := carried(t, f, r, everyCut(), func(string) {})
			full(t, "the last number", end)
		}
	}
}

// R4: what was handed in stays as it is; answers stay when that goes, and share nothing with each other.
func TestAnswersAreNew(t *testing.T) {
	f := with(empty(), 0, strings.Repeat(laid(right(empty(), 8, 0, 288)), 4))
	r := right(f, 9, 1, 288)
	b := []byte(f)
	handed := unsafe.String(&b[0], len(b))
	n, _ := place.Next(handed)
	first, _ := place.Append(handed, r)
	second, _ := place.Append(handed, r)
	if string(b) != f {
		t.Error("R4: what was handed in has changed")
	}
	clear(b)
	want := steps(r, 96, true)
	if n != 9 || !slices.Equal(first, want) {
		t.Errorf("R4: an answer goes with the flash: %d, %+v", n, first)
	}
	clear(first[:cap(first)])
	if !slices.Equal(second, want) {
		t.Errorf("R4: an answer goes with another one: %+v", second)
	}
	appended(t, "asked again", f, r, 96, true)
}

// R5: one question has one answer, whoever asks at the same time.
func TestManyAtOneTime(t *testing.T) {
	var wait sync.WaitGroup
	for n, at := range places() {
		wait.Go(func() {
			f := empty()
			f = with(f, at, laid(right(f, n+1, n%2, 30*(n+1))))
			want, erase := wanted(f)
			for range 200 {
				numbered(t, "one of many", f, n+2)
				appended(t, "one of many", f, right(f, 99, n%2, 44), want, erase)
			}
		})
	}
	wait.Wait()
}
