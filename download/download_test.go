package download_test

import (
	"hash/crc32"
	"math"
	"slices"
	"strings"
	"sync"
	"testing"
	"unsafe"

	"skiff/api"
	"skiff/blocks"
	"skiff/choose"
	"skiff/device"
	"skiff/download"
	"skiff/image"
	"skiff/nor"
	"skiff/ops"
	"skiff/place"
	"skiff/stage"
)

// row is so many bytes; no two neighbours are alike, and none of 255 is at the end of a row up to 36.
func row(n int) string {
	b := make([]byte, n)
	for i := range b {
		b[i] = byte(7*i + 3)
	}
	return string(b)
}

// sumOf is the library's sum.
func sumOf(s string) int {
	return int(crc32.ChecksumIEEE([]byte(s)))
}

// laid is a record's bytes worked out by hand.
func laid(r api.Record) string {
	b := []byte{
		byte(r.Seq), byte(r.Seq >> 8), byte(r.Seq >> 16), byte(r.Seq >> 24),
		byte(r.Slot), 0, byte(r.Size), byte(r.Size >> 8),
		byte(r.Sum), byte(r.Sum >> 8), byte(r.Sum >> 16), byte(r.Sum >> 24),
	}
	for at := range 12 {
		b = append(b, 255-b[at])
	}
	return string(b)
}

// with is a flash whose bytes from at on are these.
func with(f string, at int, s string) string {
	return f[:at] + s + f[at+len(s):]
}

// record is one of the first five bytes of a slot in this flash.
func record(f string, seq, slot int) api.Record {
	base := []int{192, 480}[slot]
	return api.Record{Seq: seq, Slot: slot, Size: 5, Sum: sumOf(f[base : base+5])}
}

// images is a flash of two images and of no record.
func images() string {
	return with(nor.Blank(), 192, row(576))
}

// bad is a record whose sum is not its image's.
func bad(f string, seq, slot int) api.Record {
	r := record(f, seq, slot)
	r.Sum ^= 1
	return r
}

// chip is a flash, and the slot that is not the active one's.
type chip struct {
	what  string
	flash string
	other int
}

// chips are flashes of all kinds.
func chips() []chip {
	f := images()
	return []chip{
		{"blank", nor.Blank(), 0},
		{"no record", f, 0},
		{"zeroes", strings.Repeat("\x00", 768), 0},
		{"slot 0 is active", with(f, 24, laid(record(f, 1, 0))), 1},
		{"slot 1 is active", with(f, 96, laid(record(f, 1, 1))), 0},
		{"slot 0 is the newer one", with(with(f, 0, laid(record(f, 8, 1))), 168, laid(record(f, 9, 0))), 1},
		{"slot 1 is the newer one", with(with(f, 0, laid(record(f, 9, 1))), 168, laid(record(f, 8, 0))), 0},
		{"the newer one is not good", with(with(f, 0, laid(record(f, 8, 0))), 24, laid(bad(f, 9, 1))), 1},
		{"none is good", with(f, 0, laid(bad(f, 9, 0))), 0},
		{"no number is left", with(f, 0, laid(record(f, api.MaxSeq, 0))), 1},
	}
}

// steps are so many that may be.
func steps(n int) []api.Op {
	four := []api.Op{{At: 0, Text: "\x00\x00\x00\x00"}, {Erase: true, At: 672}, {At: 764, Text: "\xff\xff\xff\xff"}, {Erase: true}}
	var list []api.Op
	for i := range n {
		list = append(list, four[i%len(four)])
	}
	return list
}

// same: are they the same device? An empty list and nil are one.
func same(a, b api.Device) bool {
	return a.State == b.State && a.Status == b.Status && a.Next == b.Next && a.Got == b.Got && a.Slot == b.Slot && slices.Equal(a.Ops, b.Ops)
}

// failed is a device that failed.
func failed(status int) api.Device {
	return api.Device{State: 7, Status: status}
}

// written are the steps of data at a place, worked out by hand.
func written(at int, data string) []api.Op {
	full := data + strings.Repeat("\xff", 3)
	var list []api.Op
	for from := 0; from < len(data); from += 4 {
		list = append(list, api.Op{At: at + from, Text: full[from : from+4]})
	}
	return list
}

// erased are the steps that erase a slot, written out.
func erased(slot int) []api.Op {
	if slot == 0 {
		return []api.Op{{Erase: true, At: 192}, {Erase: true, At: 288}, {Erase: true, At: 384}}
	}
	return []api.Op{{Erase: true, At: 480}, {Erase: true, At: 576}, {Erase: true, At: 672}}
}

// begun is a device of this status behind the first block.
func begun(status, slot int, data string) api.Device {
	return api.Device{State: 1, Status: status, Next: 1, Got: len(data), Slot: slot, Ops: append(erased(slot), written(192+288*slot, data)...)}
}

// takes fails unless this is what comes of the block.
func takes(t *testing.T, what, f string, d api.Device, block int, data string, want api.Device) {
	t.Helper()
	got, e := download.Take(f, d, block, data)
	if !same(got, want) || e != api.OK {
		t.Errorf("P17.1: %s: %+v, block %d, %q: %+v, error %d, want %+v", what, d, block, data, got, e, want)
	}
	if !device.May(got) {
		t.Errorf("P17.1: %s: %+v, block %d: %+v may not be", what, d, block, got)
	}
}

// refused fails unless nothing but the error is answered.
func refused(t *testing.T, what, f string, d api.Device, block int, data string) {
	t.Helper()
	if got, e := download.Take(f, d, block, data); !same(got, api.Device{}) || e != api.ErrDownloadForm {
		t.Errorf("P17.1: %s: %d bytes, %+v, block %d, %d bytes: %+v, error %d", what, len(f), d, block, len(data), got, e)
	}
}

// wrongBlocks are numbers that no block has; some are right in their lowest bytes.
func wrongBlocks() []int {
	return []int{math.MinInt, math.MinInt + 1, -1 << 32, -65536, -65535, -256, -2, -1, 65536, 65537, 131072, 1 << 31, 1 << 32, 1<<32 + 1, 1 << 62, math.MaxInt}
}

// rightBlocks are numbers that are a block's, but of none that fits.
func rightBlocks() []int {
	return []int{18, 31, 32, 33, 255, 256, 257, 288, 4096, 65280, 65534, 65535}
}

// P17.1: the first block, written out, into either slot.
func TestFirstWrittenOut(t *testing.T) {
	for _, c := range chips() {
		at := []int{192, 480}[c.other]
		want := api.Device{State: api.StateSync, Status: api.StatusOK, Next: 1, Got: 5, Slot: c.other, Ops: []api.Op{
			{Erase: true, At: at}, {Erase: true, At: at + 96}, {Erase: true, At: at + 192},
			{At: at, Text: "hell"}, {At: at + 4, Text: "o\xff\xff\xff"},
		}}
		takes(t, c.what, c.flash, device.New(), 0, "hello", want)
	}
}

// P17.1: the first block of every size; the status stays, all else that the device had goes.
func TestFirstOfEverySize(t *testing.T) {
	for _, c := range chips() {
		for status := range 7 {
			for size := 1; size <= 32; size++ {
				for _, d := range []api.Device{
					{},
					{Next: 1, Got: 32, Slot: 1 - c.other, Ops: steps(3)},
					{Next: 16, Got: 288, Slot: 1, Ops: steps(768)},
				} {
					d.Status = status
					takes(t, c.what, c.flash, d, 0, row(size), begun(status, c.other, row(size)))
				}
			}
		}
	}
}

// P17.1: any bytes are data.
func TestFirstOfAnyBytes(t *testing.T) {
	for _, data := range []string{"\x00", "\xff", "é", strings.Repeat("\xff", 32), strings.Repeat("\x00", 31), "\xff\xff\xff\xffa", row(33)[1:]} {
		takes(t, "any bytes", nor.Blank(), device.New(), 0, data, begun(0, 0, data))
	}
}

// P17.1: an idle device, no data: it is not done; this is told ahead of the block's number.
func TestFirstOfNone(t *testing.T) {
	for _, c := range chips() {
		for _, d := range []api.Device{{}, {Status: 6, Next: 3, Got: 96, Slot: 1, Ops: steps(4)}} {
			for block := range 20 {
				takes(t, c.what, c.flash, d, block, "", failed(api.StatusNotdone))
			}
			for _, block := range rightBlocks() {
				takes(t, c.what, c.flash, d, block, "", failed(api.StatusNotdone))
			}
		}
	}
}

// P17.1: an idle device, another block than the first one, even the one that Next tells.
func TestFirstOfAnotherBlock(t *testing.T) {
	for _, size := range []int{1, 31, 32} {
		for next := range 17 {
			d := api.Device{Next: next, Got: 18 * next, Ops: steps(next)}
			for block := 1; block < 20; block++ {
				takes(t, "not the first", images(), d, block, row(size), failed(api.StatusAddress))
			}
			for _, block := range rightBlocks() {
				takes(t, "not the first", images(), d, block, row(size), failed(api.StatusAddress))
			}
			takes(t, "the first", images(), d, 0, row(size), begun(0, 0, row(size)))
		}
	}
}

// P17.1: the second block, written out, into either slot, whatever the flash says of the active one.
func TestSecondWrittenOut(t *testing.T) {
	for _, c := range chips() {
		for slot, at := range []int{192, 480} {
			d := api.Device{State: api.StateDown, Next: 1, Got: 32, Slot: slot, Ops: steps(5)}
			want := api.Device{State: api.StateSync, Next: 2, Got: 37, Slot: slot, Ops: []api.Op{{At: at + 32, Text: "hell"}, {At: at + 36, Text: "o\xff\xff\xff"}}}
			takes(t, c.what, c.flash, d, 1, "hello", want)
		}
	}
}

// P17.1: the block that it has: its state turns, and nothing else, whatever the data is.
func TestAgain(t *testing.T) {
	for next := 1; next <= 16; next++ {
		for _, got := range []int{0, 1, 31, 32, 33, 256, 287, 288} {
			for status := range 7 {
				for _, n := range []int{0, 1, 11, 768} {
					d := api.Device{State: 3, Status: status, Next: next, Got: got, Slot: next % 2, Ops: steps(n)}
					want := d
					want.State = api.StateSync
					takes(t, "again", images(), d, next-1, row(32), want)
					takes(t, "again, no data", images(), d, next-1, "", want)
				}
			}
		}
	}
}

// P17.1: a block that is neither the next one nor the one ahead of it, with data and without.
func TestAnotherBlock(t *testing.T) {
	for next := range 17 {
		for _, got := range []int{0, 32, 288} {
			d := api.Device{State: 3, Status: 2, Next: next, Got: got, Slot: 1, Ops: steps(2)}
			all := rightBlocks()
			for block := range 18 {
				all = append(all, block)
			}
			for _, block := range all {
				if block == next || block == next-1 {
					continue
				}
				takes(t, "another one", images(), d, block, row(32), failed(api.StatusAddress))
				takes(t, "another one, no data", images(), d, block, "", failed(api.StatusAddress))
			}
		}
	}
}

// P17.1: no data, and the next block's number: the image's end, whatever the device has; nothing else turns.
func TestEnd(t *testing.T) {
	for next := range 17 {
		for got := range 289 {
			d := api.Device{State: 3, Status: got % 7, Next: next, Got: got, Slot: got % 2, Ops: steps(got % 5)}
			want := d
			want.State = api.StateManisync
			takes(t, "the end", images(), d, next, "", want)
		}
	}
	d := api.Device{State: 3, Next: 9, Got: 288, Ops: steps(768)}
	takes(t, "the end, many steps", images(), d, 9, "", api.Device{State: 4, Next: 9, Got: 288, Ops: steps(768)})
}

// P17.1: the next block, of every number of bytes that the device has, and of every size.
func TestMoreOfEverySize(t *testing.T) {
	f := images()
	for got := range 289 {
		for size := 1; size <= 32; size++ {
			next, slot := got%16, (got/32+size)%2
			d := api.Device{State: 3, Status: size % 7, Next: next, Got: got, Slot: slot, Ops: steps(size % 4)}
			want := failed(4)
			if got%32 == 0 && got+size <= 288 {
				want = api.Device{State: 1, Status: size % 7, Next: next + 1, Got: got + size, Slot: slot, Ops: written(192+288*slot+got, row(size))}
			}
			takes(t, "more", f, d, next, row(size), want)
		}
	}
}

// P17.1: every number that the next block may have; behind the sixteenth none is taken, however few bytes there are.
func TestMoreOfEveryNumber(t *testing.T) {
	for next := range 17 {
		for _, got := range []int{0, 32, 256} {
			d := api.Device{State: 3, Next: next, Got: got, Slot: 1, Ops: steps(1)}
			want := api.Device{State: 1, Next: next + 1, Got: got + 32, Slot: 1, Ops: written(480+got, row(32))}
			if next == 16 {
				want = failed(api.StatusAddress)
			}
			takes(t, "more", images(), d, next, row(32), want)
		}
	}
}

// P17.1: the edges of a slot.
func TestSlotsEdge(t *testing.T) {
	for slot := range 2 {
		whole := api.Device{State: 3, Next: 8, Got: 256, Slot: slot}
		want := api.Device{State: 1, Next: 9, Got: 288, Slot: slot, Ops: written(448+288*slot, row(32))}
		takes(t, "the last 32 bytes", images(), whole, 8, row(32), want)
		want.Got, want.Ops = 287, written(448+288*slot, row(31))
		takes(t, "the last 31 bytes", images(), whole, 8, row(31), want)
		full := api.Device{State: 3, Next: 9, Got: 288, Slot: slot, Ops: steps(1)}
		for size := 1; size <= 32; size++ {
			takes(t, "a full slot", images(), full, 9, row(size), failed(api.StatusAddress))
		}
		short := api.Device{State: 3, Next: 9, Got: 287, Slot: slot}
		takes(t, "behind a short block", images(), short, 9, "x", failed(api.StatusAddress))
	}
}

// P17.1: other states take no block, of whatever kind.
func TestOtherStates(t *testing.T) {
	for _, state := range []int{api.StateSync, api.StateBusy, api.StateManisync, api.StateMani, api.StateUp, api.StateError} {
		for status := range 7 {
			for block := range 4 {
				for _, size := range []int{0, 1, 32} {
					refused(t, "another state", images(), api.Device{State: state, Status: status, Next: 2, Got: 64, Ops: steps(2)}, block, row(size))
					refused(t, "another state", nor.Blank(), api.Device{State: state, Status: status}, block, row(size))
				}
			}
		}
	}
}

// rights are devices of both states, to be asked with wrong arguments.
func rights() []api.Device {
	return []api.Device{{}, {State: 3, Next: 1, Got: 32, Ops: steps(2)}, {State: 3, Next: 16, Got: 5}, {State: 3}, {Status: 3, Slot: 1}}
}

// P17.1: numbers that no block has, with data and without.
func TestWrongBlocks(t *testing.T) {
	for _, d := range rights() {
		for _, block := range wrongBlocks() {
			for _, size := range []int{0, 1, 32} {
				refused(t, "a wrong block", images(), d, block, row(size))
			}
		}
	}
}

// P17.1: more bytes than a block has.
func TestTooManyBytes(t *testing.T) {
	for _, d := range rights() {
		for _, block := range []int{0, 1, 2, 15, 16, 17, 65535} {
			for _, size := range []int{33, 34, 63, 64, 65, 256, 257, 288, 289, 65536, 65537} {
				refused(t, "too many bytes", images(), d, block, row(size))
			}
		}
	}
}

// P17.1: texts that no flash may be.
func TestWrongFlashes(t *testing.T) {
	long := strings.Repeat(images(), 2)
	for _, f := range []string{"", "\xff", long[:24], long[:192], long[:480], long[:767], long[:769], long[1:768], long, strings.Repeat("é", 768)} {
		for _, d := range rights() {
			for block := range 3 {
				for _, size := range []int{0, 1, 32} {
					refused(t, "a wrong flash", f, d, block, row(size))
				}
			}
		}
	}
}

// P17.1: devices that may not be.
func TestWrongDevices(t *testing.T) {
	for _, base := range rights() {
		var list []api.Device
		for _, n := range []int{math.MinInt, -256, -1, 289, 511, 512, 65536, 1 << 32, 1<<32 + 3, math.MaxInt} {
			for _, change := range []func(*api.Device){
				func(d *api.Device) { d.State = n },
				func(d *api.Device) { d.Status = n },
				func(d *api.Device) { d.Next = n },
				func(d *api.Device) { d.Got = n },
				func(d *api.Device) { d.Slot = n },
			} {
				d := base
				change(&d)
				list = append(list, d)
			}
		}
		for _, change := range []func(*api.Device){
			func(d *api.Device) { d.State = 8 },
			func(d *api.Device) { d.Status = 7 },
			func(d *api.Device) { d.Next = 17 },
			func(d *api.Device) { d.Got = 289 },
			func(d *api.Device) { d.Slot = 2 },
			func(d *api.Device) { d.Ops = steps(769) },
			func(d *api.Device) { d.Ops = append(steps(3), api.Op{}) },
			func(d *api.Device) { d.Ops = []api.Op{{Erase: true, At: 4}} },
			func(d *api.Device) { d.Ops = []api.Op{{At: 768, Text: "abcd"}} },
		} {
			d := base
			change(&d)
			list = append(list, d)
		}
		for _, d := range list {
			for block := range 3 {
				refused(t, "a wrong device", images(), d, block, "")
				refused(t, "a wrong device", images(), d, block, row(32))
				refused(t, "a wrong device, a wrong flash", "", d, block, row(32))
			}
			for _, block := range wrongBlocks() {
				refused(t, "all wrong", "", d, block, row(33))
			}
		}
	}
}

// done does a device's steps, each of them cut first in many ways: the active image stays.
func done(t *testing.T, f string, list []api.Op) string {
	t.Helper()
	was, none := choose.Active(f)
	for _, step := range list {
		for _, cut := range []int{0, 1, 9, 31, 32, 60, 96} {
			torn, e := ops.Cut(f, step, cut)
			if is, g := choose.Active(torn); e != api.OK || is != was || g != none {
				t.Fatalf("T2: %+v was active, %+v is, errors %d, %d", was, is, e, g)
			}
		}
		f, _ = ops.Do(f, step)
	}
	return f
}

// carry takes an image block by block, each of them twice, and answers the device and the flash behind.
func carry(t *testing.T, f, carried string) (api.Device, string) {
	t.Helper()
	pieces, _ := blocks.Split(carried)
	d := device.New()
	for n, piece := range pieces {
		var e api.Errno
		if d, e = download.Take(f, d, n, piece); e != api.OK || d.State != api.StateSync || d.Next != n+1 {
			t.Fatalf("P17.1: block %d: %+v, error %d", n, d, e)
		}
		f = done(t, f, d.Ops)
		d.State, d.Ops = api.StateDown, nil
		again, e := download.Take(f, d, n, piece)
		if e != api.OK || again.State != api.StateSync || len(again.Ops) != 0 || again.Got != d.Got || again.Next != d.Next {
			t.Fatalf("P17.1: block %d again: %+v, error %d", n, again, e)
		}
	}
	d, e := download.Take(f, d, len(pieces), "")
	if e != api.OK || d.State != api.StateManisync || d.Got != len(carried) {
		t.Fatalf("P17.1: the end: %+v, error %d", d, e)
	}
	return d, f
}

// T1, P17.1: image behind image, each in blocks: in its slot is just what was carried, and its record becomes the active one.
func TestCarried(t *testing.T) {
	f := nor.Blank()
	for n, size := range []int{1, 288, 32, 33, 31, 64, 255, 256, 257, 287, 4, 100, 288} {
		carried := strings.Repeat(string([]byte{byte(n), 255, byte(3 * n), 0, 7}), 58)[:size]
		d, after := carry(t, f, carried)
		r, e := stage.Record(after, d.Slot, d.Got)
		list, g := place.Append(after, r)
		if e != api.OK || g != api.OK {
			t.Fatalf("P17.1: errors %d, %d", e, g)
		}
		for _, step := range list {
			after, _ = ops.Do(after, step)
		}
		active, e := choose.Active(after)
		if got, g := image.Of(after, active.Record); got != carried || e != api.OK || g != api.OK || active.Record.Slot != n%2 {
			t.Errorf("T1: %+v is active, %q, want %q; errors %d, %d", active, got, carried, e, g)
		}
		f = after
	}
}

// asks are questions of each kind.
func asks() []struct {
	state, block int
	data         string
} {
	return []struct {
		state, block int
		data         string
	}{
		{0, 0, row(32)}, {0, 0, "x"}, {0, 0, ""}, {0, 1, "x"},
		{3, 1, row(32)}, {3, 1, ""}, {3, 2, ""}, {3, 2, row(32)}, {3, 2, "abc"}, {3, 3, "x"}, {1, 0, "x"}, {3, -1, "x"},
	}
}

// R4: what is handed in stays, its spare room too; answers share nothing with it, nor with each other.
func TestAnswersAreNew(t *testing.T) {
	for _, q := range asks() {
		flash, data, text := []byte(images()), []byte(q.data+"!"), []byte("wordword")
		room := []api.Op{{At: 8, Text: unsafe.String(&text[0], 4)}, {Erase: true, At: 96}, {At: 4, Text: unsafe.String(&text[4], 4)}, {At: 1}, {At: 2}}
		kept := slices.Clone(room)
		for n := range kept {
			kept[n].Text = strings.Clone(kept[n].Text)
		}
		f, s := unsafe.String(&flash[0], len(flash)), unsafe.String(&data[0], len(q.data))
		d := api.Device{State: q.state, Next: 2, Got: 64, Slot: 1, Ops: room[:3:5]}
		one, e := download.Take(f, d, q.block, s)
		two, _ := download.Take(f, d, q.block, s)
		want := two
		want.Ops = slices.Clone(two.Ops)
		for n := range want.Ops {
			want.Ops[n].Text = strings.Clone(want.Ops[n].Text)
		}
		clear(one.Ops[:cap(one.Ops)])
		if !slices.Equal(room, kept) || string(flash) != images() || string(data) != q.data+"!" || len(d.Ops) != 3 {
			t.Errorf("R4: %+v: what was handed in has changed: %+v", q, room)
		}
		clear(flash)
		clear(data)
		clear(text)
		clear(room)
		if !same(two, want) {
			t.Errorf("R4: %+v, error %d: an answer goes with another thing: %+v, want %+v", q, e, two, want)
		}
	}
}

// R5: one question has one answer, whoever asks at the same time.
func TestManyAtOneTime(t *testing.T) {
	shared := api.Device{State: 3, Next: 2, Got: 64, Ops: steps(7)}
	var wait sync.WaitGroup
	for n, c := range chips() {
		wait.Go(func() {
			again := shared
			again.State = api.StateSync
			for range 200 {
				takes(t, c.what, c.flash, api.Device{}, 0, row(1+n), begun(0, c.other, row(1+n)))
				takes(t, c.what, c.flash, shared, 1, row(n), again)
				takes(t, c.what, c.flash, shared, 3, row(n), failed(4))
				refused(t, c.what, c.flash, shared, -1-n, "")
			}
		})
	}
	wait.Wait()
}
