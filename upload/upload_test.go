package upload_test

import (
	"hash/crc32"
	"math"
	"slices"
	"strings"
	"sync"
	"testing"
	"unsafe"

	"skiff/api"
	"skiff/blocks"
	"skiff/device"
	"skiff/download"
	"skiff/nor"
	"skiff/status"
	"skiff/tick"
	"skiff/upload"
)

// row is so many bytes; no two neighbours are alike, and no two of its blocks.
func row(n int) string {
	b := make([]byte, n)
	for i := range b {
		b[i] = byte(7*i + 3 + i/256)
	}
	return string(b)
}

// sumOf is the library's sum.
func sumOf(s string) int {
	return int(crc32.ChecksumIEEE([]byte(s)))
}

// laid is a record's bytes worked out by hand.
func laid(r api.Record) string {
	b := []byte{
		byte(r.Seq), byte(r.Seq >> 8), byte(r.Seq >> 16), byte(r.Seq >> 24),
		byte(r.Slot), 0, byte(r.Size), byte(r.Size >> 8),
		byte(r.Sum), byte(r.Sum >> 8), byte(r.Sum >> 16), byte(r.Sum >> 24),
	}
	for at := range 12 {
		b = append(b, 255-b[at])
	}
	return string(b)
}

// with is a flash whose bytes from at on are these.
func with(f string, at int, s string) string {
	return f[:at] + s + f[at+len(s):]
}

// images is a flash of two images and of no record.
func images() string {
	return with(nor.Blank(), 192, row(576))
}

// told is what a slot of images holds, so many bytes of it.
func told(slot, size int) string {
	return row(576)[288*slot:][:size]
}

// record is one of these bytes.
func record(seq, slot, size int) api.Record {
	return api.Record{Seq: seq, Slot: slot, Size: size, Sum: sumOf(told(slot, size))}
}

// bad is a record whose sum is not its image's.
func bad(seq, slot, size int) api.Record {
	r := record(seq, slot, size)
	r.Sum ^= 1
	return r
}

// holding is images, and so many bytes of a slot are active.
func holding(slot, size int) string {
	return with(images(), 24, laid(record(7, slot, size)))
}

// empties are flashes of which nothing is active.
func empties() []string {
	f := images()
	return []string{
		nor.Blank(), f, row(768), strings.Repeat("\x00", 768),
		with(f, 0, laid(bad(9, 0, 40))),
		with(with(f, 24, laid(bad(9, 0, 288))), 168, laid(bad(8, 1, 32))),
		with(holding(0, 40), 231, "\x00"), // the last byte of what was active
		with(f, 12, laid(record(9, 0, 40))),
		with(f, 2*96, laid(record(9, 1, 40))),
	}
}

// steps are so many that may be, of both kinds.
func steps(n int) []api.Op {
	four := []api.Op{{At: 0, Text: "\x00\x00\x00\x00"}, {Erase: true, At: 672}, {At: 764, Text: "\xff\xff\xff\xff"}, {Erase: true}}
	var list []api.Op
	for i := range n {
		list = append(list, four[i%len(four)])
	}
	return list
}

// same: are they the same device? An empty list and nil are one.
func same(a, b api.Device) bool {
	return a.State == b.State && a.Status == b.Status && a.Next == b.Next && a.Got == b.Got && a.Slot == b.Slot && slices.Equal(a.Ops, b.Ops)
}

// up is a device that is read back, and waits for this block.
func up(next int) api.Device {
	return api.Device{State: api.StateUp, Next: next}
}

// gives fails unless these bytes are given, and this is the device behind them.
func gives(t *testing.T, what, f string, d api.Device, block, length int, want api.Device, data string) {
	t.Helper()
	got, s, e := upload.Give(f, d, block, length)
	if !same(got, want) || s != data || e != api.OK {
		t.Errorf("P20.1: %s: %+v, block %d, %d bytes: %+v, %q, error %d, want %+v, %q", what, d, block, length, got, s, e, want, data)
	}
	if !device.May(got) {
		t.Errorf("P20.1: %s: %+v, block %d: %+v may not be", what, d, block, got)
	}
}

// ends fails unless these bytes are given, and the device is new.
func ends(t *testing.T, what, f string, d api.Device, block, length int, data string) {
	t.Helper()
	gives(t, what, f, d, block, length, api.Device{}, data)
}

// goesOn fails unless these bytes are given, and the device waits for the next block, all else as it was.
func goesOn(t *testing.T, what, f string, d api.Device, block, length int, data string) {
	t.Helper()
	want := d
	want.State, want.Next = api.StateUp, block+1
	gives(t, what, f, d, block, length, want, data)
}

// fails fails unless the device fails by this status, and gives no bytes.
func fails(t *testing.T, what, f string, d api.Device, block, length int, status int) {
	t.Helper()
	gives(t, what, f, d, block, length, api.Device{State: 7, Status: status}, "")
}

// refused fails unless nothing but the error is answered.
func refused(t *testing.T, what, f string, d api.Device, block, length int) {
	t.Helper()
	if got, s, e := upload.Give(f, d, block, length); !same(got, api.Device{}) || s != "" || e != api.ErrUploadForm {
		t.Errorf("P20.1: %s: %d bytes, %+v, block %d, %d bytes: %+v, %q, error %d", what, len(f), d, block, length, got, s, e)
	}
}

// wrongBlocks are numbers that no block has; some are right in their lowest bytes.
func wrongBlocks() []int {
	return []int{math.MinInt, math.MinInt + 1, -1 << 32, -65536, -65535, -256, -2, -1, 65536, 65537, 131072, 1 << 31, 1 << 32, 1<<32 + 1, 1 << 62, math.MaxInt}
}

// farBlocks are numbers that are a block's, but that no device waits for.
func farBlocks() []int {
	return []int{17, 18, 31, 32, 33, 255, 256, 257, 288, 4096, 65280, 65534, 65535}
}

// wrongLengths are numbers of bytes that may not be asked for.
func wrongLengths() []int {
	return []int{math.MinInt, -1 << 32, -256, -33, -32, -1, 33, 34, 64, 255, 256, 288, 289, 65536, 1<<32 + 32, math.MaxInt}
}

// rights are devices that may be read back, to be asked with wrong arguments.
func rights() []api.Device {
	return []api.Device{{}, {Status: 6, Next: 5, Got: 160, Slot: 1, Ops: steps(3)}, up(1), up(0), up(16), {State: api.StateUp, Status: 3, Next: 1, Got: 288, Slot: 1, Ops: steps(768)}}
}

// P20.1: an image of two blocks, written out: a whole one, and those that are left.
func TestWrittenOut(t *testing.T) {
	whole := "an image carried across, whole or not at all"
	for slot, at := range []int{192, 480} {
		f := with(nor.Blank(), at, whole)
		f = with(f, 96, laid(api.Record{Seq: 1, Slot: slot, Size: 44, Sum: sumOf(whole)}))
		gives(t, "the first block", f, device.New(), 0, 32, api.Device{State: api.StateUp, Next: 1}, "an image carried across, whole o")
		gives(t, "the second one", f, api.Device{State: api.StateUp, Next: 1}, 1, 32, api.Device{}, "r not at all")
		gives(t, "a part of the first", f, device.New(), 0, 8, api.Device{}, "an image")
		gives(t, "a part of the second", f, api.Device{State: api.StateUp, Next: 1}, 1, 5, api.Device{}, "r not")
		gives(t, "behind the end", f, api.Device{State: api.StateUp, Next: 2}, 2, 32, api.Device{}, "")
	}
}

// pieceOf is what an image has from a block on, byte by byte.
func pieceOf(whole string, block, length int) string {
	var out []byte
	for at := range len(whole) {
		if at >= 32*block && at < 32*block+length {
			out = append(out, whole[at])
		}
	}
	return string(out)
}

// P20.1: every size of both slots, every block, few bytes and many.
func TestEverySize(t *testing.T) {
	for slot := range 2 {
		for size := 1; size <= 288; size++ {
			f := holding(slot, size)
			for next := range 17 {
				for _, length := range []int{0, 1, size % 33, 31, 32} {
					d := api.Device{State: api.StateUp, Status: size % 7, Next: next, Got: size - 1, Slot: next % 2, Ops: steps(size % 4)}
					if 32*(next+1) <= size && length == 32 {
						goesOn(t, "a whole block", f, d, next, length, told(slot, size)[32*next:32*next+32])
					} else {
						ends(t, "fewer bytes", f, d, next, length, pieceOf(told(slot, size), next, length))
					}
				}
			}
		}
	}
}

// P20.1: every number of bytes, of blocks that are whole, are not, and are none.
func TestEveryLength(t *testing.T) {
	f := holding(1, 72)
	for length := range 32 {
		ends(t, "idle", f, device.New(), 0, length, told(1, 72)[:length])
		ends(t, "a whole one", f, up(1), 1, length, told(1, 72)[32:32+length])
		ends(t, "the last one", f, up(2), 2, length, told(1, 72)[64:64+min(length, 8)])
		ends(t, "none", f, up(3), 3, length, "")
	}
	goesOn(t, "idle", f, device.New(), 0, 32, told(1, 72)[:32])
	goesOn(t, "a whole one", f, up(1), 1, 32, told(1, 72)[32:64])
	ends(t, "the last one", f, up(2), 2, 32, told(1, 72)[64:])
	ends(t, "none", f, up(3), 3, 32, "")
}

// P20.1: an image of whole blocks only: the end is told by a block of no bytes.
func TestWholeBlocks(t *testing.T) {
	for slot := range 2 {
		for many := 1; many <= 9; many++ {
			f := holding(slot, 32*many)
			goesOn(t, "the last block", f, up(many-1), many-1, 32, told(slot, 288)[32*many-32:32*many])
			ends(t, "behind it", f, up(many), many, 32, "")
			ends(t, "far behind it", f, up(16), 16, 32, "")
		}
	}
}

// P20.1: an idle device begins with block 0, whatever it waited for; all else stays but what is named.
func TestIdleBegins(t *testing.T) {
	for next := range 17 {
		for status := range 7 {
			for _, n := range []int{0, 1, 5, 767, 768} {
				d := api.Device{Status: status, Next: next, Got: 18 * next, Slot: next % 2, Ops: steps(n)}
				goesOn(t, "idle", holding(0, 33), d, 0, 32, told(0, 32))
				goesOn(t, "idle", holding(1, 32), d, 0, 32, told(1, 32))
				ends(t, "idle, a short image", holding(1, 31), d, 0, 32, told(1, 31))
				ends(t, "idle, few bytes", holding(0, 288), d, 0, 31, told(0, 31))
				for block := 1; block < 18; block++ {
					fails(t, "idle, another block", holding(0, 288), d, block, 32, api.StatusAddress)
				}
			}
		}
	}
}

// P20.1: of a device that is read back all stays but its state and Next, while blocks are whole.
func TestWhatStays(t *testing.T) {
	for next := range 9 {
		for status := range 7 {
			for _, n := range []int{0, 1, 5, 767, 768} {
				for _, got := range []int{0, 1, 32, 287, 288} {
					d := api.Device{State: api.StateUp, Status: status, Next: next, Got: got, Slot: got % 2, Ops: steps(n)}
					goesOn(t, "on", holding(1, 288), d, next, 32, told(1, 288)[32*next:32*next+32])
				}
			}
		}
	}
}

// P20.1: a block that the device does not wait for, the one that it gave among them.
func TestAnotherBlock(t *testing.T) {
	for next := range 17 {
		d := api.Device{State: api.StateUp, Status: 2, Next: next, Got: 96, Slot: 1, Ops: steps(next)}
		all := farBlocks()
		for block := range 17 {
			all = append(all, block)
		}
		for _, block := range all {
			if block == next {
				continue
			}
			for _, length := range []int{0, 1, 31, 32} {
				for _, size := range []int{1, 32, 288} {
					fails(t, "another block", holding(next%2, size), d, block, length, api.StatusAddress)
				}
			}
		}
	}
	for _, block := range farBlocks() {
		fails(t, "idle, another block", holding(0, 288), device.New(), block, 32, api.StatusAddress)
	}
}

// P20.1: nothing is active: this is told ahead of the block's number, and whatever is asked for.
func TestNothingActive(t *testing.T) {
	for _, f := range empties() {
		for _, d := range rights() {
			for _, block := range append(farBlocks(), 0, 1, 2, 5, 15, 16) {
				for _, length := range []int{0, 1, 31, 32} {
					fails(t, "nothing is active", f, d, block, length, api.StatusFile)
				}
			}
		}
	}
}

// P20.1: of several records the active one's image is given: the newest that is good, of these the last.
func TestWhichIsActive(t *testing.T) {
	f := images()
	for _, c := range []struct {
		what  string
		flash string
		whole string
	}{
		{"slot 0 is newer", with(with(f, 0, laid(record(8, 1, 40))), 24, laid(record(9, 0, 40))), told(0, 40)},
		{"slot 1 is newer", with(with(f, 0, laid(record(9, 1, 40))), 24, laid(record(8, 0, 40))), told(1, 40)},
		{"the newer one is not good", with(with(f, 0, laid(record(8, 1, 40))), 24, laid(bad(9, 0, 40))), told(1, 40)},
		{"the newer one is in the other sector", with(with(f, 72, laid(record(8, 1, 40))), 168, laid(record(9, 0, 50))), told(0, 50)},
		{"one slot, more bytes", with(with(f, 0, laid(record(8, 1, 40))), 24, laid(record(9, 1, 60))), told(1, 60)},
		{"one slot, fewer bytes", with(with(f, 0, laid(record(8, 1, 60))), 24, laid(record(9, 1, 40))), told(1, 40)},
		{"one number", with(with(f, 0, laid(record(9, 1, 60))), 96, laid(record(9, 0, 40))), told(0, 40)},
		{"the last number", with(with(f, 0, laid(record(api.MaxSeq, 1, 60))), 96, laid(record(9, 0, 40))), told(1, 60)},
	} {
		for _, slot := range []int{0, 1} { // the device's slot is where it wrote, not what it gives
			goesOn(t, c.what, c.flash, api.Device{Slot: slot}, 0, 32, c.whole[:32])
			ends(t, c.what, c.flash, api.Device{State: api.StateUp, Next: 1, Slot: slot}, 1, 32, c.whole[32:])
		}
	}
}

// P20.1: any bytes are given, those of erased flash among them.
func TestAnyBytes(t *testing.T) {
	for _, data := range []string{"\x00", "\xff", "é", "!", strings.Repeat("\xff", 31), strings.Repeat("\x00", 31)} {
		f := with(with(images(), 480, data), 0, laid(api.Record{Seq: 1, Slot: 1, Size: len(data), Sum: sumOf(data)}))
		ends(t, "any bytes", f, device.New(), 0, 32, data)
	}
}

// P20.1: other states are not read back, whatever is active.
func TestOtherStates(t *testing.T) {
	for _, f := range append(empties(), holding(0, 288), holding(1, 31)) {
		for _, state := range []int{api.StateSync, api.StateBusy, api.StateDown, api.StateManisync, api.StateMani, api.StateError} {
			for block := range 4 {
				for _, length := range []int{0, 1, 32} {
					refused(t, "another state", f, api.Device{State: state, Next: block}, block, length)
					refused(t, "another state", f, api.Device{State: state, Status: 5, Next: 2, Got: 64, Slot: 1, Ops: steps(2)}, block, length)
				}
			}
		}
	}
}

// P20.1: numbers that no block has, though one were active, or were not.
func TestWrongBlocks(t *testing.T) {
	for _, f := range append(empties(), holding(0, 288)) {
		for _, d := range rights() {
			for _, block := range wrongBlocks() {
				for _, length := range []int{0, 1, 32} {
					refused(t, "a wrong block", f, d, block, length)
				}
			}
		}
	}
}

// P20.1: numbers of bytes that no request tells, with right blocks and others.
func TestWrongLengths(t *testing.T) {
	for _, f := range append(empties(), holding(0, 288)) {
		for _, d := range rights() {
			for _, length := range wrongLengths() {
				for _, block := range []int{0, 1, 5, 16, 17, 65535, -1, 65536} {
					refused(t, "a wrong length", f, d, block, length)
				}
			}
		}
	}
}

// P20.1: texts that no flash may be.
func TestWrongFlashes(t *testing.T) {
	long := strings.Repeat(holding(0, 288), 2)
	for _, f := range []string{"", "\xff", long[:24], long[:192], long[:480], long[:767], long[:769], long[1:768], long, strings.Repeat("é", 768)} {
		for _, d := range rights() {
			for block := range 3 {
				refused(t, "a wrong flash", f, d, block, 32)
			}
		}
	}
}

// wrongs are devices that may not be, each for one reason, else as that one.
func wrongs(base api.Device) []api.Device {
	var list []api.Device
	add := func(change func(d *api.Device)) {
		d := base
		change(&d)
		list = append(list, d)
	}
	for _, n := range []int{math.MinInt, -256, -1, 289, 511, 512, 65536, 1 << 32, 1<<32 + 1, 1<<32 + 6, math.MaxInt} {
		add(func(d *api.Device) { d.State = n })
		add(func(d *api.Device) { d.Status = n })
		add(func(d *api.Device) { d.Next = n })
		add(func(d *api.Device) { d.Got = n })
		add(func(d *api.Device) { d.Slot = n })
	}
	add(func(d *api.Device) { d.State = 8 })
	add(func(d *api.Device) { d.Status = 7 })
	add(func(d *api.Device) { d.Next = 17 })
	add(func(d *api.Device) { d.Slot = 2 })
	add(func(d *api.Device) { d.Ops = steps(769) })
	add(func(d *api.Device) { d.Ops = append(steps(3), api.Op{}) })
	add(func(d *api.Device) { d.Ops = append([]api.Op{{At: 1, Text: "abcd"}}, steps(3)...) })
	add(func(d *api.Device) { d.Ops = []api.Op{{Erase: true, At: 4}} })
	return list
}

// P20.1: devices that may not be, though all else may, and though nothing does.
func TestWrongDevices(t *testing.T) {
	for _, base := range rights() {
		for _, d := range wrongs(base) {
			for _, f := range []string{holding(0, 288), nor.Blank()} {
				for _, block := range []int{0, 1, 16, 17, d.Next} {
					refused(t, "a wrong device", f, d, block, 32)
				}
			}
			refused(t, "all wrong", row(767), d, -1, 33)
		}
	}
}

// readBack is what a host gets that reads till a block is short.
func readBack(t *testing.T, f string) string {
	t.Helper()
	d, all := device.New(), ""
	for block := range 17 {
		next, s, e := upload.Give(f, d, block, api.Block)
		if e != api.OK {
			t.Fatalf("P20.1: block %d of %+v: error %d", block, d, e)
		}
		all += s
		if len(s) < api.Block {
			if !same(next, device.New()) {
				t.Errorf("P20.1: behind the end: %+v", next)
			}
			return all
		}
		d = next
	}
	t.Fatalf("P20.1: it does not end: %+v", d)
	return ""
}

// worked is a flash behind what a device tells that it is about.
func worked(t *testing.T, f string, d api.Device) (string, api.Device) {
	t.Helper()
	d, a, e := status.Get(f, d)
	for range a.Ticks {
		f, d, e = tick.Step(f, d)
	}
	if e != api.OK {
		t.Fatalf("error %d", e)
	}
	return f, d
}

// carried is a flash behind an image's carrying.
func carried(t *testing.T, f, whole string) string {
	t.Helper()
	pieces, e := blocks.Split(whole)
	d := device.New()
	for block, data := range append(pieces, "") {
		if e == api.OK {
			d, e = download.Take(f, d, block, data)
		}
		if e != api.OK {
			t.Fatalf("block %d: error %d", block, e)
		}
		f, d = worked(t, f, d)
		d, _, e = status.Get(f, d)
	}
	return f
}

// T3: image behind image: what is read back is just what was carried.
func TestReadsBack(t *testing.T) {
	f := nor.Blank()
	for n := range 11 {
		whole := row(n + 288)[n+288-[]int{1, 288, 31, 64, 33, 100}[n%6]:]
		f = carried(t, f, whole)
		if got := readBack(t, f); got != whole {
			t.Fatalf("T3: %q is read back, want %q", got, whole)
		}
	}
	for slot := range 2 {
		for size := 1; size <= 288; size++ {
			if got := readBack(t, holding(slot, size)); got != told(slot, size) {
				t.Errorf("T3: slot %d, %d bytes: %q", slot, size, got)
			}
		}
	}
}

// asking is what is asked of shared things: each way that the answer may take.
type asking struct {
	d             api.Device
	block, length int
}

// askings have the steps, and take each way.
func askings(list []api.Op) []asking {
	idle, on := api.Device{Status: 2, Next: 3, Got: 64, Slot: 1, Ops: list}, api.Device{State: api.StateUp, Next: 1, Got: 64, Ops: list}
	return []asking{{idle, 0, 32}, {idle, 0, 5}, {idle, 3, 32}, {idle, -1, 32}, {on, 1, 32}, {on, 1, 0}, {on, 2, 32}, {on, 1, 33}}
}

// copyOf is a device of other memory, its steps' texts too.
func copyOf(d api.Device) api.Device {
	d.Ops = slices.Clone(d.Ops)
	for n := range d.Ops {
		d.Ops[n].Text = strings.Clone(d.Ops[n].Text)
	}
	return d
}

// R4: what is handed in stays, its spare room too; answers share nothing with it, nor with each other.
func TestAnswersAreNew(t *testing.T) {
	for way := range 8 {
		for n := range 4 {
			flash, text := []byte(holding(1, 288)), []byte("wordword")
			room := []api.Op{{At: 8, Text: unsafe.String(&text[0], 4)}, {Erase: true, At: 96}, {At: 4, Text: unsafe.String(&text[4], 4)}, {At: 1}, {At: 2}}
			f, kept := unsafe.String(&flash[0], len(flash)), copyOf(api.Device{Ops: room}).Ops
			a := askings(room[:n:5])[way]
			one, said, _ := upload.Give(f, a.d, a.block, a.length)
			two, again, _ := upload.Give(f, a.d, a.block, a.length)
			want, bytes := copyOf(two), strings.Clone(again)
			if said != "" && unsafe.StringData(said) == unsafe.StringData(again) {
				t.Errorf("R4: way %d: two answers have one text", way)
			}
			clear(one.Ops[:cap(one.Ops)])
			_ = append(one.Ops, api.Op{At: 5})
			if !slices.Equal(room, kept) || string(flash) != holding(1, 288) {
				t.Errorf("R4: way %d, %d steps: what was handed in has changed: %+v", way, n, room)
			}
			clear(flash)
			clear(text)
			clear(room)
			if !same(two, want) || again != bytes {
				t.Errorf("R4: way %d, %d steps: an answer goes with another thing: %+v, %q, want %+v, %q", way, n, two, again, want, bytes)
			}
		}
	}
}

// R5: one question has one answer, whoever asks at the same time.
func TestManyAtOneTime(t *testing.T) {
	f, shared := holding(1, 288), steps(7)
	var wait sync.WaitGroup
	for n := range 6 {
		wait.Go(func() {
			for range 100 {
				d := api.Device{State: api.StateUp, Next: n, Ops: shared}
				goesOn(t, "shared", f, d, n, 32, told(1, 288)[32*n:32*n+32])
				ends(t, "shared", f, d, n, n, told(1, 288)[32*n:33*n])
				fails(t, "shared", f, d, n+1, 32, api.StatusAddress)
				fails(t, "shared", images(), d, n, 32, api.StatusFile)
				refused(t, "wrong", f[n+1:], d, n, 32)
			}
		})
	}
	wait.Wait()
}
