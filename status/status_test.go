package status_test

import (
	"hash/crc32"
	"math"
	"slices"
	"strings"
	"sync"
	"testing"
	"unsafe"

	"skiff/answer"
	"skiff/api"
	"skiff/blocks"
	"skiff/choose"
	"skiff/device"
	"skiff/download"
	"skiff/image"
	"skiff/nor"
	"skiff/status"
	"skiff/tick"
)

// row is so many bytes; no two neighbours are alike.
func row(n int) string {
	b := make([]byte, n)
	for i := range b {
		b[i] = byte(7*i + 3)
	}
	return string(b)
}

// sumOf is the library's sum.
func sumOf(s string) int {
	return int(crc32.ChecksumIEEE([]byte(s)))
}

// laid is a record's bytes worked out by hand.
func laid(r api.Record) string {
	b := []byte{
		byte(r.Seq), byte(r.Seq >> 8), byte(r.Seq >> 16), byte(r.Seq >> 24),
		byte(r.Slot), 0, byte(r.Size), byte(r.Size >> 8),
		byte(r.Sum), byte(r.Sum >> 8), byte(r.Sum >> 16), byte(r.Sum >> 24),
	}
	for at := range 12 {
		b = append(b, 255-b[at])
	}
	return string(b)
}

// with is a flash whose bytes from at on are these.
func with(f string, at int, s string) string {
	return f[:at] + s + f[at+len(s):]
}

// images is a flash of two images and of no record.
func images() string {
	return with(nor.Blank(), 192, row(576))
}

// record is one of the first bytes of a slot in this flash, worked out by hand.
func record(f string, seq, slot, size int) api.Record {
	base := []int{192, 480}[slot]
	return api.Record{Seq: seq, Slot: slot, Size: size, Sum: sumOf(f[base : base+size])}
}

// six are the steps that lay a record there, worked out by hand.
func six(at int, r api.Record) []api.Op {
	var list []api.Op
	for n := range 6 {
		list = append(list, api.Op{At: at + 4*n, Text: laid(r)[4*n : 4*n+4]})
	}
	return list
}

// steps are so many that may be, of both kinds, at the flash's edges and between; the first one is the one of that number.
func steps(first, n int) []api.Op {
	kinds := []api.Op{
		{At: 0, Text: "\x5a\x00\xff\x81"}, {Erase: true, At: 672}, {At: 764, Text: "\x0f\xf0\x33\xcc"},
		{Erase: true}, {At: 192, Text: "abcd"}, {Erase: true, At: 288},
	}
	var list []api.Op
	for i := range n {
		list = append(list, kinds[(first+i)%len(kinds)])
	}
	return list
}

// same: are they the same device? An empty list and nil are one.
func same(a, b api.Device) bool {
	return a.State == b.State && a.Status == b.Status && a.Next == b.Next && a.Got == b.Got && a.Slot == b.Slot && slices.Equal(a.Ops, b.Ops)
}

// gets fails unless this is the device behind the question, and this the answer.
func gets(t *testing.T, what, f string, d, want api.Device, told api.Answer) {
	t.Helper()
	got, a, e := status.Get(f, d)
	if !same(got, want) || a != told || e != api.OK {
		t.Errorf("P19.1: %s: %+v: %+v, %+v, error %d, want %+v, %+v", what, d, got, a, e, want, told)
	}
	if !device.May(got) || !answer.May(a) {
		t.Errorf("P19.1: %s: %+v, or %+v, may not be", what, got, a)
	}
}

// refused fails unless nothing but the error is answered.
func refused(t *testing.T, what, f string, d api.Device) {
	t.Helper()
	if got, a, e := status.Get(f, d); !same(got, api.Device{}) || a != (api.Answer{}) || e != api.ErrStatusForm {
		t.Errorf("P19.1: %s: %d bytes, %+v: %+v, %+v, error %d", what, len(f), d, got, a, e)
	}
}

// fails fails unless the device can't make its image the active one, and tells so.
func fails(t *testing.T, what, f string, d api.Device) {
	t.Helper()
	gets(t, what, f, d, api.Device{State: 7, Status: 3}, api.Answer{Status: 3, State: 7})
}

// becomes fails unless the device is about to do these steps, to make its image the active one.
func becomes(t *testing.T, what, f string, d api.Device, list []api.Op) {
	t.Helper()
	want := d
	want.State, want.Ops = api.StateMani, list
	gets(t, what, f, d, want, api.Answer{Status: d.Status, Ticks: len(list), State: 5})
}

// flashes are flashes of all kinds.
func flashes() []string {
	return []string{nor.Blank(), row(768), strings.Repeat("\x00", 768), images()}
}

// bases are devices of all kinds, but for their state and their steps.
func bases() []api.Device {
	list := []api.Device{{}, {Next: 5, Got: 160, Slot: 1}, {Next: 16, Got: 288, Slot: 1}, {Next: 1, Got: 1}}
	for code := range 7 {
		list = append(list, api.Device{Status: code, Next: 2 * code, Got: 40 * code, Slot: code % 2})
	}
	return list
}

// many are numbers of steps, at the edges of what an answer tells and between.
func many() []int {
	return []int{0, 1, 2, 3, 7, 12, 127, 128, 253, 254, 255, 256, 257, 300, 511, 512, 767, 768}
}

// P19.1: a block's steps, written out: the device waits to be asked, and is busy with them.
func TestBusyWrittenOut(t *testing.T) {
	list := []api.Op{{Erase: true, At: 192}, {At: 192, Text: "hell"}, {At: 196, Text: "o\xff\xff\xff"}}
	d := api.Device{State: api.StateSync, Next: 1, Got: 5, Ops: list}
	want := api.Device{State: api.StateBusy, Next: 1, Got: 5, Ops: list}
	gets(t, "steps are left", nor.Blank(), d, want, api.Answer{Status: 0, Ticks: 3, State: 2})
	gets(t, "and asked again", nor.Blank(), want, want, api.Answer{Status: 0, Ticks: 3, State: 2})
}

// P19.1: no steps, written out: the device is ready for the next block.
func TestDownWrittenOut(t *testing.T) {
	d := api.Device{State: api.StateSync, Next: 1, Got: 5}
	want := api.Device{State: api.StateDown, Next: 1, Got: 5}
	gets(t, "no steps are left", nor.Blank(), d, want, api.Answer{Status: 0, Ticks: 0, State: 3})
	gets(t, "and asked again", nor.Blank(), want, want, api.Answer{Status: 0, Ticks: 0, State: 3})
}

// P19.1: the image's end, written out: the record of its bytes goes to the first place of a blank sector.
func TestManiWrittenOut(t *testing.T) {
	f := with(nor.Blank(), 480, "123456789")
	d := api.Device{State: api.StateManisync, Next: 1, Got: 9, Slot: 1}
	list := []api.Op{
		{At: 0, Text: "\x01\x00\x00\x00"}, {At: 4, Text: "\x01\x00\x09\x00"}, {At: 8, Text: "\x26\x39\xf4\xcb"},
		{At: 12, Text: "\xfe\xff\xff\xff"}, {At: 16, Text: "\xfe\xff\xf6\xff"}, {At: 20, Text: "\xd9\xc6\x0b\x34"},
	}
	want := api.Device{State: api.StateMani, Next: 1, Got: 9, Slot: 1, Ops: list}
	gets(t, "the image's end", f, d, want, api.Answer{Status: 0, Ticks: 6, State: 5})
	gets(t, "and asked again", f, want, want, api.Answer{Status: 0, Ticks: 6, State: 5})
}

// P19.1: StateSync with few steps and many: they stay, and so does all else but the state.
func TestSync(t *testing.T) {
	for _, f := range flashes() {
		for _, d := range bases() {
			for _, n := range many() {
				d.State, d.Ops = api.StateSync, steps(n, n)
				want := d
				want.State = api.StateBusy
				if n == 0 {
					want.State = api.StateDown
				}
				gets(t, "waiting to be asked", f, d, want, api.Answer{Status: d.Status, Ticks: min(n, 255), State: want.State})
			}
			d.State, d.Ops = api.StateSync, []api.Op{}
			want := d
			want.State = api.StateDown
			gets(t, "an empty list", f, d, want, api.Answer{Status: d.Status, State: 3})
		}
	}
}

// P19.1: other states stay, with few steps and many, and the answer is of them.
func TestOtherStates(t *testing.T) {
	for _, f := range flashes() {
		for _, d := range bases() {
			for _, state := range []int{api.StateIdle, api.StateBusy, api.StateDown, api.StateMani, api.StateUp, api.StateError} {
				for _, n := range many() {
					d.State, d.Ops = state, steps(n+state, n)
					gets(t, "another state", f, d, d, api.Answer{Status: d.Status, Ticks: min(n, 255), State: state})
				}
			}
		}
	}
}

// P19.1: every size of both slots: the record is of just the bytes that the slot holds, and the steps that were left go.
func TestEverySize(t *testing.T) {
	f := images()
	for slot := range 2 {
		for size := 1; size <= api.SlotSize; size++ {
			list := six(0, record(f, 1, slot, size))
			for _, left := range []int{0, 1, 7, 768} {
				d := api.Device{State: api.StateManisync, Status: size % 7, Next: size % 17, Got: size, Slot: slot, Ops: steps(size, left)}
				becomes(t, "a size", f, d, list)
			}
		}
	}
}

// P19.1: what Next, Status and the steps that are left are changes nothing about the record.
func TestWhatTheRecordIsOf(t *testing.T) {
	f := images()
	for next := range 17 {
		for code := range 7 {
			for _, left := range many() {
				d := api.Device{State: api.StateManisync, Status: code, Next: next, Got: 40, Slot: 1, Ops: steps(left, left)}
				becomes(t, "the same image", f, d, six(0, record(f, 1, 1, 40)))
			}
		}
	}
}

// P19.1: nothing was carried: the record can't be, and the device fails, whatever it had.
func TestNothingCarried(t *testing.T) {
	for _, f := range flashes() {
		for slot := range 2 {
			for code := range 7 {
				for _, left := range many() {
					d := api.Device{State: api.StateManisync, Status: code, Next: left % 17, Slot: slot, Ops: steps(left, left)}
					fails(t, "nothing was carried", f, d)
				}
			}
		}
	}
}

// P19.1: the record's number is one more than the greatest, up to MaxSeq; behind that one the device fails.
func TestNumbers(t *testing.T) {
	for _, seq := range []int{1, 2, 254, 255, 256, 65535, 65536, api.MaxSeq - 2, api.MaxSeq - 1} {
		f := with(images(), 0, laid(record(images(), seq, 0, 5)))
		d := api.Device{State: api.StateManisync, Next: 2, Got: 40, Slot: 1, Ops: steps(0, 2)}
		becomes(t, "the next number", f, d, six(24, record(f, seq+1, 1, 40)))
	}
	for _, at := range []int{0, 24, 72, 96, 168} {
		for _, size := range []int{1, 5, 288} {
			for slot := range 2 {
				last := record(images(), api.MaxSeq, slot, size)
				fails(t, "no number is left", with(images(), at, laid(last)), api.Device{State: api.StateManisync, Status: 1, Next: 2, Got: 40, Slot: 1 - slot})
				last.Sum ^= 1 // a record whose image is not good has a number too
				fails(t, "no number is left", with(images(), at, laid(last)), api.Device{State: api.StateManisync, Next: 2, Got: 40, Slot: slot, Ops: steps(0, 3)})
			}
		}
	}
}

// full is a flash of so many records in sector 0, and of as many in sector 1, the numbers of the one behind the other's.
func full(first, one, two int) string {
	f := images()
	for n := range one {
		f = with(f, 24*n, laid(record(f, first+n, n%2, 5+n)))
	}
	for n := range two {
		f = with(f, 96+24*n, laid(record(f, first+one+n, n%2, 7+n)))
	}
	return f
}

// P19.1: the record goes beside the active one, or, where that sector is full, into the other one, erased.
func TestPlaces(t *testing.T) {
	d := api.Device{State: api.StateManisync, Status: 2, Next: 9, Got: 288, Slot: 1}
	erased := func(at int, r api.Record) []api.Op {
		return append([]api.Op{{Erase: true, At: at}}, six(at, r)...)
	}
	for n := range 4 {
		f := full(9, n, 0)
		seq := 9 + n
		if n == 0 {
			seq = 1
		}
		becomes(t, "room in the first sector", f, d, six(24*n, record(f, seq, 1, 288)))
	}
	f := full(9, 4, 0)
	becomes(t, "the first sector is full", f, d, erased(96, record(f, 13, 1, 288)))
	for n := 1; n < 4; n++ {
		f = full(9, 4, n)
		becomes(t, "room in the second sector", f, d, six(96+24*n, record(f, 13+n, 1, 288)))
	}
	f = full(9, 4, 4)
	becomes(t, "both are full", f, d, erased(0, record(f, 17, 1, 288)))
}

// P19.1: the record's sum is of the flash, not of what was sent: any other byte there makes another one.
func TestSumOfTheFlash(t *testing.T) {
	d := api.Device{State: api.StateManisync, Next: 2, Got: 40, Slot: 1}
	for at := 192; at < 768; at++ {
		f := with(images(), at, string([]byte{images()[at] ^ 16}))
		becomes(t, "another byte", f, d, six(0, record(f, 1, 1, 40)))
	}
}

// rights are devices of every state, with steps and without.
func rights() []api.Device {
	var list []api.Device
	for state := range 8 {
		list = append(list, api.Device{State: state}, api.Device{State: state, Status: 2, Next: 3, Got: 96, Slot: 1, Ops: steps(state, 3)})
	}
	return list
}

// P19.1: texts that no flash may be, for devices of every state.
func TestWrongFlashes(t *testing.T) {
	for _, f := range []string{"", "\xff", row(4), row(96), row(288), row(767), row(769), row(768 + 256), row(1536), strings.Repeat("é", 768)} {
		for _, d := range rights() {
			refused(t, "a wrong flash", f, d)
		}
	}
}

// wrongs are devices that may not be, each for one reason, else as that one.
func wrongs(base api.Device) []api.Device {
	var list []api.Device
	add := func(change func(d *api.Device)) {
		d := base
		change(&d)
		list = append(list, d)
	}
	for _, n := range []int{math.MinInt, -256, -1, 289, 511, 512, 65536, 1 << 32, 1<<32 + 1, 1<<32 + 4, math.MaxInt} {
		add(func(d *api.Device) { d.State = n })
		add(func(d *api.Device) { d.Status = n })
		add(func(d *api.Device) { d.Next = n })
		add(func(d *api.Device) { d.Got = n })
		add(func(d *api.Device) { d.Slot = n })
	}
	add(func(d *api.Device) { d.State = 8 })
	add(func(d *api.Device) { d.Status = 7 })
	add(func(d *api.Device) { d.Next = 17 })
	add(func(d *api.Device) { d.Slot = 2 })
	add(func(d *api.Device) { d.Ops = steps(0, 769) })
	add(func(d *api.Device) { d.Ops = append(steps(0, 3), api.Op{}) })
	add(func(d *api.Device) { d.Ops = append([]api.Op{{At: 1, Text: "abcd"}}, steps(0, 3)...) })
	add(func(d *api.Device) { d.Ops = []api.Op{{Erase: true, At: 4}} })
	add(func(d *api.Device) { d.Ops = []api.Op{{At: 768, Text: "abcd"}} })
	return list
}

// P19.1: devices that may not be, in every state, on a flash that may and on one that may not.
func TestWrongDevices(t *testing.T) {
	for _, base := range rights() {
		for _, d := range wrongs(base) {
			for _, f := range flashes() {
				refused(t, "a wrong device", f, d)
			}
			refused(t, "all wrong", row(767), d)
		}
	}
}

// activeOf is the active image, or no text.
func activeOf(f string) string {
	active, _ := choose.Active(f)
	carried, _ := image.Of(f, active.Record)
	return carried
}

// asked is the device behind a question asked so many times; again and again it tells the same.
func asked(t *testing.T, f string, d api.Device, times int) api.Device {
	t.Helper()
	d, told, e := status.Get(f, d)
	for range times - 1 {
		again, a, g := status.Get(f, d)
		if !same(again, d) || a != told || g != api.OK {
			t.Fatalf("P19.1: asked again: %+v, %+v, error %d, want %+v, %+v", again, a, g, d, told)
		}
	}
	if e != api.OK || told.Status != api.StatusOK || told.Ticks != len(d.Ops) {
		t.Fatalf("P19.1: %+v tells %+v, error %d", d, told, e)
	}
	return d
}

// worked ticks a device through the steps that it tells of; of the active image behind each of them, and behind some cuts of it, it asks whether it may be.
func worked(t *testing.T, f string, d api.Device, times int, may func(active string) bool) (string, api.Device) {
	t.Helper()
	d = asked(t, f, d, times)
	for range len(d.Ops) {
		for _, cut := range []int{0, 1, 9, 31, 32, 95, 96} {
			torn, _, e := tick.Cut(f, d, cut)
			if active := activeOf(torn); !may(active) || e != api.OK {
				t.Fatalf("T2: %+v, cut %d: %q is active, error %d", d, cut, active, e)
			}
		}
		f, d, _ = tick.Step(f, d)
	}
	return f, d
}

// carried is the flash behind a carrying, each question of it asked so many times; till the end the elder image is the active one.
func carried(t *testing.T, f, whole string, times int) string {
	t.Helper()
	elder, d := activeOf(f), device.New()
	pieces, e := blocks.Split(whole)
	for block, data := range append(pieces, "") {
		if d, e = download.Take(f, d, block, data); e != api.OK {
			t.Fatalf("block %d: error %d", block, e)
		}
		if data == "" {
			break
		}
		f, d = worked(t, f, d, times, func(active string) bool { return active == elder })
		if d = asked(t, f, d, times); d.State != api.StateDown {
			t.Fatalf("P19.1: behind block %d: %+v", block, d)
		}
	}
	f, d = worked(t, f, d, times, func(active string) bool { return active == elder || active == whole })
	if !same(d, device.New()) {
		t.Fatalf("P19.1: behind the image's end: %+v", d)
	}
	return f
}

// T1, T2: image behind image: what becomes the active one is just what was carried, however often the device is asked.
func TestCarryings(t *testing.T) {
	f := nor.Blank()
	for n := range 11 {
		whole := row(n + 288)[n+288-[]int{1, 288, 31, 64, 33, 100}[n%6]:]
		f = carried(t, f, whole, 1+n%3)
		if got := activeOf(f); got != whole {
			t.Fatalf("T1: %q is active, want %q", got, whole)
		}
	}
}

// copyOf is a device of other memory, its steps' texts too.
func copyOf(d api.Device) api.Device {
	d.Ops = slices.Clone(d.Ops)
	for n := range d.Ops {
		d.Ops[n].Text = strings.Clone(d.Ops[n].Text)
	}
	return d
}

// R4: what is handed in stays, its spare room too; answers share nothing with it, nor with each other.
func TestAnswersAreNew(t *testing.T) {
	for state := range 8 {
		for n := range 4 {
			flash, text := []byte(images()), []byte("wordword")
			room := []api.Op{{At: 8, Text: unsafe.String(&text[0], 4)}, {Erase: true, At: 96}, {At: 4, Text: unsafe.String(&text[4], 4)}, {At: 1}, {At: 2}}
			f, kept := unsafe.String(&flash[0], len(flash)), copyOf(api.Device{Ops: room}).Ops
			d := api.Device{State: state, Status: 2, Next: 2, Got: 64, Slot: 1, Ops: room[:n:5]}
			one, _, _ := status.Get(f, d)
			two, _, _ := status.Get(f, d)
			want := copyOf(two)
			clear(one.Ops[:cap(one.Ops)])
			_ = append(one.Ops, api.Op{At: 5})
			if !slices.Equal(room, kept) || string(flash) != images() || len(d.Ops) != n {
				t.Errorf("R4: state %d, %d steps: what was handed in has changed: %+v", state, n, room)
			}
			clear(flash)
			clear(text)
			clear(room)
			if !same(two, want) {
				t.Errorf("R4: state %d, %d steps: an answer goes with another thing: %+v, want %+v", state, n, two, want)
			}
		}
	}
}

// R5: one question has one answer, whoever asks at the same time.
func TestManyAtOneTime(t *testing.T) {
	f := images()
	shared := api.Device{State: api.StateSync, Next: 2, Got: 64, Ops: steps(0, 7)}
	busy := shared
	busy.State = api.StateBusy
	var wait sync.WaitGroup
	for n := range 6 {
		wait.Go(func() {
			for range 100 {
				gets(t, "shared", f, shared, busy, api.Answer{Ticks: 7, State: 2})
				becomes(t, "shared", f, api.Device{State: api.StateManisync, Got: n + 1, Ops: shared.Ops}, six(0, record(f, 1, 0, n+1)))
				fails(t, "shared", f, api.Device{State: api.StateManisync, Ops: shared.Ops})
				refused(t, "wrong", f[n+1:], shared)
			}
		})
	}
	wait.Wait()
}
