package control_test

import (
	"hash/crc32"
	"math"
	"slices"
	"strings"
	"sync"
	"testing"
	"unsafe"

	"skiff/api"
	"skiff/blocks"
	"skiff/choose"
	"skiff/control"
	"skiff/device"
	"skiff/image"
	"skiff/nor"
	"skiff/tick"
)

// row is so many bytes; no two neighbours are alike, and no two blocks of it.
func row(n int) string {
	b := make([]byte, n)
	for i := range b {
		b[i] = byte(7*i + 3 + i/256)
	}
	return string(b)
}

// laid is a record's bytes worked out by hand.
func laid(r api.Record) string {
	b := []byte{
		byte(r.Seq), byte(r.Seq >> 8), byte(r.Seq >> 16), byte(r.Seq >> 24),
		byte(r.Slot), 0, byte(r.Size), byte(r.Size >> 8),
		byte(r.Sum), byte(r.Sum >> 8), byte(r.Sum >> 16), byte(r.Sum >> 24),
	}
	for at := range 12 {
		b = append(b, 255-b[at])
	}
	return string(b)
}

// with is a flash whose bytes from at on are these.
func with(f string, at int, s string) string {
	return f[:at] + s + f[at+len(s):]
}

// images is a flash of two images and of no record.
func images() string {
	return with(nor.Blank(), 192, row(576))
}

// told is what a slot of images holds, so many bytes of it.
func told(slot, size int) string {
	return row(576)[288*slot:][:size]
}

// record is one of these bytes.
func record(seq, slot, size int) api.Record {
	return api.Record{Seq: seq, Slot: slot, Size: size, Sum: int(crc32.ChecksumIEEE([]byte(told(slot, size))))}
}

// holding is images, and so many bytes of a slot are active.
func holding(slot, size int) string {
	return with(images(), 24, laid(record(7, slot, size)))
}

// flashes are flashes of all kinds.
func flashes() []string {
	return []string{nor.Blank(), row(768), strings.Repeat("\x00", 768), images(), holding(0, 288), holding(1, 31)}
}

// steps are so many that may be, of both kinds.
func steps(n int) []api.Op {
	four := []api.Op{{At: 0, Text: "\x5a\x00\xff\x81"}, {Erase: true, At: 672}, {At: 764, Text: "\x0f\xf0\x33\xcc"}, {Erase: true}}
	var list []api.Op
	for i := range n {
		list = append(list, four[i%len(four)])
	}
	return list
}

// words are the steps that program these whole words from there on, worked out by hand.
func words(at int, s string) []api.Op {
	var list []api.Op
	for n := 0; n < len(s); n += 4 {
		list = append(list, api.Op{At: at + n, Text: s[n : n+4]})
	}
	return list
}

// filled is a text with bytes 255 behind it, up to a whole word.
func filled(s string) string {
	return s + strings.Repeat("\xff", (4-len(s)%4)%4)
}

// ask is a request's bytes worked out by hand.
func ask(code, value, length int) string {
	kind := byte(33)
	if code == 2 || code == 3 || code == 5 {
		kind = 161
	}
	return string([]byte{kind, byte(code), byte(value), byte(value >> 8), 0, 0, byte(length), byte(length >> 8)})
}

// same: are they the same device? An empty list and nil are one.
func same(a, b api.Device) bool {
	return a.State == b.State && a.Status == b.Status && a.Next == b.Next && a.Got == b.Got && a.Slot == b.Slot && slices.Equal(a.Ops, b.Ops)
}

// comes fails unless this is the device behind the request, and this what comes of it.
func comes(t *testing.T, what, f string, d api.Device, setup, data string, want api.Device, back api.Reply) {
	t.Helper()
	got, r, e := control.Handle(f, d, setup, data)
	if !same(got, want) || r != back || e != api.OK {
		t.Errorf("P21.1: %s: %+v, %q, %q: %+v, %+v, error %d, want %+v, %+v", what, d, setup, data, got, r, e, want, back)
	}
	if !device.May(got) {
		t.Errorf("P21.1: %s: %+v, %q, %q: %+v may not be", what, d, setup, data, got)
	}
}

// tells fails unless the request is answered by these bytes, and this is the device behind it.
func tells(t *testing.T, what, f string, d api.Device, setup, data string, want api.Device, text string) {
	t.Helper()
	comes(t, what, f, d, setup, data, want, api.Reply{Text: text})
}

// fails fails unless the device fails by this status, and stalls.
func fails(t *testing.T, what, f string, d api.Device, setup, data string, status int) {
	t.Helper()
	comes(t, what, f, d, setup, data, api.Device{State: 7, Status: status}, api.Reply{Stall: true})
}

// stalls fails unless the request is none that the device can do anything with.
func stalls(t *testing.T, what, f string, d api.Device, setup, data string) {
	t.Helper()
	fails(t, what, f, d, setup, data, 6)
}

// refused fails unless nothing but the error is answered.
func refused(t *testing.T, what, f string, d api.Device, setup, data string) {
	t.Helper()
	if got, r, e := control.Handle(f, d, setup, data); !same(got, api.Device{}) || r != (api.Reply{}) || e != api.ErrControlForm {
		t.Errorf("P21.1: %s: %d bytes, %+v, %q, %q: %+v, %+v, error %d", what, len(f), d, setup, data, got, r, e)
	}
}

// P21.1: each request, its bytes written out.
func TestWrittenOut(t *testing.T) {
	whole := "an image carried across, whole or not at all"
	r := api.Record{Seq: 1, Slot: 1, Size: 44, Sum: int(crc32.ChecksumIEEE([]byte(whole)))}
	f := with(with(nor.Blank(), 480, whole), 96, laid(r))
	list := []api.Op{{Erase: true, At: 192}, {Erase: true, At: 288}, {Erase: true, At: 384}, {At: 192, Text: "hell"}, {At: 196, Text: "o\xff\xff\xff"}}
	sync := api.Device{State: 1, Next: 1, Got: 5, Ops: list}
	busy := api.Device{State: 2, Next: 1, Got: 5, Ops: list}
	down := api.Device{State: 3, Next: 1, Got: 5}
	tells(t, "a block", f, device.New(), "\x21\x01\x00\x00\x00\x00\x05\x00", "hello", sync, "")
	tells(t, "status", f, sync, "\xa1\x03\x00\x00\x00\x00\x06\x00", "", busy, "\x00\x05\x00\x00\x02\x00")
	tells(t, "state", f, busy, "\xa1\x05\x00\x00\x00\x00\x01\x00", "", busy, "\x02")
	tells(t, "the end", f, down, "\x21\x01\x01\x00\x00\x00\x00\x00", "", api.Device{State: 4, Next: 1, Got: 5}, "")
	tells(t, "abort", f, down, "\x21\x06\x00\x00\x00\x00\x00\x00", "", api.Device{}, "")
	tells(t, "reading back", f, device.New(), "\xa1\x02\x00\x00\x00\x00\x20\x00", "", api.Device{State: 6, Next: 1}, "an image carried across, whole o")
	tells(t, "reading on", f, api.Device{State: 6, Next: 1}, "\xa1\x02\x01\x00\x00\x00\x20\x00", "", api.Device{}, "r not at all")
	stalls(t, "detach", f, device.New(), "\x21\x00\x00\x00\x00\x00\x00\x00", "")
	stalls(t, "a block, while it is busy", f, busy, "\x21\x01\x01\x00\x00\x00\x05\x00", "hello")
	tells(t, "status", f, api.Device{State: 7, Status: 6}, "\xa1\x03\x00\x00\x00\x00\x06\x00", "", api.Device{State: 7, Status: 6}, "\x06\x00\x00\x00\x07\x00")
	tells(t, "clear", f, api.Device{State: 7, Status: 6}, "\x21\x04\x00\x00\x00\x00\x00\x00", "", api.Device{}, "")
}

// full is a device of that state with which each allowed request goes well, on a flash of an image.
func full(state int) api.Device {
	return api.Device{State: state, Status: 2, Next: 1, Got: 32, Slot: 1, Ops: steps(3)}
}

// first is which block a device of that state waits for.
func first(state int) int {
	if state == api.StateIdle {
		return 0
	}
	return 1
}

// P21.1: of every state and every request, those of layer 15's table are answered, the others stall.
func TestWhatIsAllowed(t *testing.T) {
	table := []string{ // by state: the requests that are answered
		"12356", "35", "35", "1356", "35", "35", "2356", "345",
	}
	for state, codes := range table {
		for code := range 7 {
			setup, data := ask(code, first(state), 32), ""
			if code == api.RequestDnload {
				data = row(32)
			}
			if !strings.Contains(codes, string(rune('0'+code))) {
				stalls(t, "not allowed", holding(0, 288), full(state), setup, data)
				continue
			}
			got, r, e := control.Handle(holding(0, 288), full(state), setup, data)
			if r.Stall || r.Lost || e != api.OK || got.State == api.StateError && state != api.StateError {
				t.Errorf("P21.1: state %d, request %d: %+v, %+v, error %d", state, code, got, r, e)
			}
		}
	}
}

// P21.1: RequestGetstate tells a byte; the device stays, whatever it has, and whatever the request tells beside.
func TestGetstate(t *testing.T) {
	for _, f := range flashes() {
		for state := range 8 {
			for status := range 7 {
				for _, n := range []int{0, 1, 5, 255, 256, 768} {
					d := api.Device{State: state, Status: status, Next: 16 - status, Got: 41 * status, Slot: n % 2, Ops: steps(n)}
					tells(t, "state", f, d, ask(5, 300*n, n%33), "", d, string([]byte{byte(state)}))
				}
			}
		}
	}
}

// P21.1: RequestGetstatus tells six bytes, of the device behind it; other states than StateSync and StateManisync stay.
func TestGetstatus(t *testing.T) {
	for _, f := range flashes() {
		for _, state := range []int{0, 1, 2, 3, 5, 6, 7} {
			for status := range 7 {
				for _, n := range []int{0, 1, 2, 7, 254, 255, 256, 768} {
					d := api.Device{State: state, Status: status, Next: 16 - status, Got: 41 * status, Slot: n % 2, Ops: steps(n)}
					want := d
					switch {
					case state == api.StateSync && n > 0:
						want.State = api.StateBusy
					case state == api.StateSync:
						want.State = api.StateDown
					}
					tells(t, "status", f, d, ask(3, n, n%33), "", want, string([]byte{byte(status), byte(min(n, 255)), 0, 0, byte(want.State), 0}))
				}
			}
		}
	}
}

// P21.1: RequestGetstatus at an image's end: the steps of its record, or a stall, without bytes, if it can have none.
func TestGetstatusAtTheEnd(t *testing.T) {
	for slot := range 2 {
		for size := 1; size <= 288; size++ {
			d := api.Device{State: api.StateManisync, Status: size % 7, Next: size % 17, Got: size, Slot: slot, Ops: steps(size % 4)}
			want := d
			want.State, want.Ops = api.StateMani, words(0, laid(record(1, slot, size)))
			tells(t, "the end", images(), d, ask(3, 0, 6), "", want, string([]byte{byte(size % 7), 6, 0, 0, 5, 0}))
		}
		for status := range 7 {
			d := api.Device{State: api.StateManisync, Status: status, Next: 3, Slot: slot, Ops: steps(status)}
			fails(t, "nothing was carried", images(), d, ask(3, 0, 6), "", api.StatusWrite)
			d.Got = 64
			fails(t, "no number is left", with(images(), 72, laid(record(api.MaxSeq, slot, 9))), d, ask(3, 0, 6), "", api.StatusWrite)
		}
	}
}

// P21.1: a device that had failed answers: it is no stall that it is asked.
func TestErrorAnswers(t *testing.T) {
	for status := range 7 {
		for n := range 3 {
			d := api.Device{State: api.StateError, Status: status, Next: n, Got: 7 * n, Slot: n % 2, Ops: steps(n)}
			tells(t, "status", images(), d, ask(3, 0, 6), "", d, string([]byte{byte(status), byte(n), 0, 0, 7, 0}))
			tells(t, "state", images(), d, ask(5, 0, 1), "", d, "\x07")
			tells(t, "clear", images(), d, ask(4, 0, 0), "", api.Device{}, "")
			for _, code := range []int{0, 1, 2, 6} {
				stalls(t, "not allowed", holding(0, 40), d, ask(code, 0, 0), "")
			}
		}
	}
}

// P21.1: RequestClrstatus, RequestAbort: a new device, whatever it had, and whatever the request tells beside.
func TestNewAgain(t *testing.T) {
	for _, f := range flashes() {
		for _, c := range []struct{ state, code int }{
			{api.StateError, api.RequestClrstatus}, {api.StateIdle, api.RequestAbort}, {api.StateDown, api.RequestAbort}, {api.StateUp, api.RequestAbort},
		} {
			for n := range 33 {
				d := api.Device{State: c.state, Status: n % 7, Next: n % 17, Got: 9 * n, Slot: n % 2, Ops: steps(n)}
				tells(t, "new again", f, d, ask(c.code, 1985*n, n), "", device.New(), "")
			}
		}
	}
}

// P21.1: RequestDnload to an idle device: the first block of every length, into the slot that is not active.
func TestFirstBlock(t *testing.T) {
	for slot, base := range []int{192, 480} {
		for n := 1; n <= 32; n++ {
			list := append([]api.Op{{Erase: true, At: base}, {Erase: true, At: base + 96}, {Erase: true, At: base + 192}}, words(base, filled(row(n)))...)
			d := api.Device{Status: n % 7, Next: n % 17, Got: n, Slot: n % 2, Ops: steps(n)}
			want := api.Device{State: api.StateSync, Status: n % 7, Next: 1, Got: n, Slot: slot, Ops: list}
			tells(t, "the first block", holding(1-slot, 40), d, ask(1, 0, n), row(n), want, "")
			for _, block := range []int{1, 2, 16, 255, 256, 65535} {
				fails(t, "another block", holding(slot, 40), d, ask(1, block, n), row(n), api.StatusAddress)
			}
			for _, block := range []int{0, 1, 16, 65535} {
				fails(t, "no data", holding(slot, 40), d, ask(1, block, 0), "", api.StatusNotdone)
			}
		}
	}
}

// P21.1: RequestDnload to a device that waits for a block: that one, the one that it has, the end, and others.
func TestFurtherBlocks(t *testing.T) {
	for next := 1; next <= 8; next++ {
		for n := 1; n <= 32; n++ {
			slot := n % 2
			d := api.Device{State: api.StateDown, Status: n % 7, Next: next, Got: 32 * next, Slot: slot, Ops: steps(n)}
			on, again, end := d, d, d
			on.State, on.Next, on.Got, on.Ops = api.StateSync, next+1, 32*next+n, words(192+288*slot+32*next, filled(row(n)))
			again.State, end.State = api.StateSync, api.StateManisync
			tells(t, "the next block", images(), d, ask(1, next, n), row(n), on, "")
			tells(t, "the block that it has", images(), d, ask(1, next-1, n), row(n), again, "")
			tells(t, "the block that it has, no data", images(), d, ask(1, next-1, 0), "", again, "")
			tells(t, "the end", images(), d, ask(1, next, 0), "", end, "")
			for _, block := range []int{next + 1, next + 2, next + 256, 65535} {
				fails(t, "another block", images(), d, ask(1, block, n), row(n), api.StatusAddress)
				fails(t, "another block, no data", images(), d, ask(1, block, 0), "", api.StatusAddress)
			}
			d.Got = 32*next - 1
			fails(t, "a short block is behind it", images(), d, ask(1, next, n), row(n), api.StatusAddress)
			d.Got = 288
			fails(t, "the slot is full", images(), d, ask(1, next, n), row(n), api.StatusAddress)
			d.Got, d.Next = 32, 16
			fails(t, "no more blocks", images(), d, ask(1, 16, n), row(n), api.StatusAddress)
		}
	}
}

// P21.1: RequestUpload: the active image's bytes, of every length that may be asked for.
func TestUpload(t *testing.T) {
	for slot := range 2 {
		f := holding(slot, 72)
		for n := range 32 {
			d := api.Device{Status: n % 7, Next: n % 17, Got: n, Slot: n % 2, Ops: steps(n)}
			tells(t, "few bytes", f, d, ask(2, 0, n), "", device.New(), told(slot, 72)[:n])
			d.State, d.Next = api.StateUp, 2
			tells(t, "the last block", f, d, ask(2, 2, n), "", device.New(), told(slot, 72)[64:64+min(n, 8)])
			for _, block := range []int{0, 1, 3, 16, 258, 65535} {
				fails(t, "another block", f, d, ask(2, block, n), "", api.StatusAddress)
			}
		}
		d := api.Device{Status: 4, Next: 9, Got: 5, Slot: 1, Ops: steps(5)}
		want := d
		want.State, want.Next = api.StateUp, 1
		tells(t, "a whole block", f, d, ask(2, 0, 32), "", want, told(slot, 72)[:32])
		d, want.Next = want, 2
		tells(t, "one more", f, d, ask(2, 1, 32), "", want, told(slot, 72)[32:64])
		for _, block := range []int{1, 9, 65535} {
			fails(t, "idle, another block", f, device.New(), ask(2, block, 32), "", api.StatusAddress)
		}
	}
}

// P21.1: RequestUpload where nothing is active: a stall, whatever is asked for.
func TestNothingActive(t *testing.T) {
	for _, f := range []string{nor.Blank(), images(), strings.Repeat("\x00", 768), with(holding(0, 40), 231, "\x00")} {
		for _, d := range []api.Device{{}, {State: api.StateUp, Status: 3, Next: 1, Got: 9, Ops: steps(2)}} {
			for block := range 3 {
				for _, n := range []int{0, 1, 32} {
					fails(t, "nothing is active", f, d, ask(2, block, n), "", api.StatusFile)
				}
			}
		}
	}
}

// P21.1: a download's data of every length beside every Length: but where they are one it is a stall, ahead of what the block would be.
func TestDataOfDownloads(t *testing.T) {
	for length := range 33 {
		for n := range 70 {
			if n == length {
				continue
			}
			for state := range 8 {
				stalls(t, "other data", holding(0, 40), full(state), ask(1, first(state), length), row(n))
			}
			stalls(t, "other data, another block", images(), device.New(), ask(1, 5, length), row(n))
		}
		for _, n := range []int{255 + length, 256 + length, 65536 + length} {
			stalls(t, "far more data", images(), device.New(), ask(1, 0, length), row(n))
		}
	}
}

// P21.1: any other request carries no data, whatever its Length, in whatever state.
func TestDataOfOthers(t *testing.T) {
	for _, code := range []int{0, 2, 3, 4, 5, 6} {
		for state := range 8 {
			for _, n := range []int{1, 2, 6, 31, 32, 33, 256, 65536} {
				for _, length := range []int{0, 1, 6, 32, min(n, 32)} {
					stalls(t, "data", holding(0, 288), full(state), ask(code, first(state), length), row(n))
				}
			}
		}
	}
}

// known: is a text of eight bytes a request's? By hand.
func known(s string) bool {
	return s[1] <= 6 && s[0] == ask(int(s[1]), 0, 0)[0] && s[4:6] == "\x00\x00" && s[6] <= 32 && s[7] == 0
}

// P21.1: requests' bytes with one of them any other: those that no request has are a stall in each state.
func TestWrongBytes(t *testing.T) {
	wrong := 0
	for code := range 7 {
		for at := range 8 {
			for n := range 256 {
				s := with(ask(code, 1, 0), at, string([]byte{byte(n)}))
				if known(s) {
					continue
				}
				wrong++
				stalls(t, "wrong bytes", holding(0, 288), full((n+at)%8), s, "")
				stalls(t, "wrong bytes", holding(0, 288), full(n/8%8), s, row(n%33))
			}
		}
	}
	if wrong < 7*1000 {
		t.Errorf("%d were wrong", wrong)
	}
}

// P21.1: requests of other sizes are a stall in each state.
func TestWrongSizes(t *testing.T) {
	for state := range 8 {
		for code := range 7 {
			s := ask(code, first(state), 0)
			for _, n := range []int{0, 1, 2, 4, 6, 7} {
				stalls(t, "short", holding(0, 288), full(state), s[:n], "")
				stalls(t, "short", holding(0, 288), full(state), s[8-n:], "")
			}
			for _, more := range []string{"\x00", s, row(247), strings.Repeat("\x00", 65536)} {
				stalls(t, "long", holding(0, 288), full(state), s+more, "")
				stalls(t, "long", holding(0, 288), full(state), more+s, "")
			}
		}
	}
}

// requests are some that go well, some that do not, and some that are none.
func requests() [][2]string {
	list := [][2]string{{"", ""}, {row(8), ""}, {ask(1, 0, 5), ""}, {ask(1, 0, 5), "hello"}, {ask(1, 1, 0), ""}, {ask(3, 0, 6), "x"}}
	for code := range 7 {
		list = append(list, [2]string{ask(code, 0, 0), ""}, [2]string{ask(code, 1, 32), ""})
	}
	return list
}

// P21.1: texts that no flash may be, whatever the request is.
func TestWrongFlashes(t *testing.T) {
	long := strings.Repeat(holding(0, 288), 2)
	for _, f := range []string{"", "\xff", long[:24], long[:192], long[:767], long[:769], long[1:768], long, strings.Repeat("é", 768)} {
		for state := range 8 {
			for _, r := range requests() {
				refused(t, "a wrong flash", f, full(state), r[0], r[1])
			}
		}
	}
}

// wrongs are devices that may not be, each for one reason, else as that one.
func wrongs(base api.Device) []api.Device {
	var list []api.Device
	add := func(change func(d *api.Device)) {
		d := base
		change(&d)
		list = append(list, d)
	}
	for _, n := range []int{math.MinInt, -256, -1, 289, 511, 512, 65536, 1 << 32, 1<<32 + 1, 1<<32 + 6, math.MaxInt} {
		add(func(d *api.Device) { d.State = n })
		add(func(d *api.Device) { d.Status = n })
		add(func(d *api.Device) { d.Next = n })
		add(func(d *api.Device) { d.Got = n })
		add(func(d *api.Device) { d.Slot = n })
	}
	add(func(d *api.Device) { d.State = 8 })
	add(func(d *api.Device) { d.Status = 7 })
	add(func(d *api.Device) { d.Next = 17 })
	add(func(d *api.Device) { d.Slot = 2 })
	add(func(d *api.Device) { d.Ops = steps(769) })
	add(func(d *api.Device) { d.Ops = append(steps(3), api.Op{}) })
	add(func(d *api.Device) { d.Ops = append([]api.Op{{At: 1, Text: "abcd"}}, steps(3)...) })
	add(func(d *api.Device) { d.Ops = []api.Op{{Erase: true, At: 4}} })
	return list
}

// P21.1: devices that may not be, whatever the request is, on a flash that may be and on one that may not.
func TestWrongDevices(t *testing.T) {
	for state := range 8 {
		for _, d := range wrongs(full(state)) {
			for _, r := range requests() {
				refused(t, "a wrong device", holding(0, 288), d, r[0], r[1])
				refused(t, "a wrong device", nor.Blank(), d, r[0], r[1])
				refused(t, "all wrong", row(767), d, r[0], r[1])
			}
		}
	}
}

// activeOf is the active image, or no text.
func activeOf(f string) string {
	active, _ := choose.Active(f)
	whole, _ := image.Of(f, active.Record)
	return whole
}

// asks is the device behind a request that goes well, and the bytes that came.
func asks(t *testing.T, f string, d api.Device, setup, data string) (api.Device, string) {
	t.Helper()
	d, r, e := control.Handle(f, d, setup, data)
	if r.Stall || r.Lost || e != api.OK {
		t.Fatalf("P21.1: %q, %q: %+v, %+v, error %d", setup, data, d, r, e)
	}
	return d, r.Text
}

// worked ticks a device through the steps of which it tells, and asks it again; ahead of each of them the active image may be one of these.
func worked(t *testing.T, f string, d api.Device, may ...string) (string, api.Device, string) {
	t.Helper()
	d, text := asks(t, f, d, ask(3, 0, 6), "")
	for range text[1] {
		for _, cut := range []int{0, 3, 17, 32, 95} {
			torn, _, _ := tick.Cut(f, d, cut)
			if active := activeOf(torn); !slices.Contains(may, active) {
				t.Fatalf("T2: %+v, cut %d: %q is active", d, cut, active)
			}
		}
		f, d, _ = tick.Step(f, d)
	}
	d, text = asks(t, f, d, ask(3, 0, 6), "")
	return f, d, text
}

// carried is the flash behind a carrying by requests alone; each block is sent so many times.
func carried(t *testing.T, f, whole string, times int) string {
	t.Helper()
	elder, d, text := activeOf(f), device.New(), ""
	pieces, _ := blocks.Split(whole)
	for block, data := range pieces {
		for range times {
			d, _ = asks(t, f, d, ask(1, block, len(data)), data)
			if f, d, text = worked(t, f, d, elder); text != "\x00\x00\x00\x00\x03\x00" {
				t.Fatalf("P21.1: behind block %d: %q, %+v", block, text, d)
			}
		}
	}
	d, _ = asks(t, f, d, ask(1, len(pieces), 0), "")
	if f, d, text = worked(t, f, d, elder, whole); text != "\x00\x00\x00\x00\x00\x00" || !same(d, device.New()) {
		t.Fatalf("P21.1: behind the end: %q, %+v", text, d)
	}
	return f
}

// readBack is what requests read till a block is short.
func readBack(t *testing.T, f string) string {
	t.Helper()
	d, all := device.New(), ""
	for block := range 17 {
		next, text := asks(t, f, d, ask(2, block, 32), "")
		all += text
		if len(text) < 32 {
			return all
		}
		d = next
	}
	t.Fatalf("P21.1: it does not end: %+v", d)
	return ""
}

// T1 to T3: image behind image by requests alone: what becomes active, and is read back, is just what was carried.
func TestCarryings(t *testing.T) {
	f := nor.Blank()
	for n := range 11 {
		whole := row(n + 288)[n+288-[]int{1, 288, 31, 64, 33, 100}[n%6]:]
		f = carried(t, f, whole, 1+n%3)
		if got := activeOf(f); got != whole {
			t.Fatalf("T1: %q is active, want %q", got, whole)
		}
		if got := readBack(t, f); got != whole {
			t.Fatalf("T3: %q is read back, want %q", got, whole)
		}
	}
}

// asking is a request of shared things, to a device with these steps.
type asking struct {
	d           api.Device
	setup, data string
}

// askings have these steps and this data, and take each way that an answer may take.
func askings(list []api.Op, data string) []asking {
	of := func(state int) api.Device {
		return api.Device{State: state, Status: 2, Next: 2, Got: 64, Slot: 1, Ops: list}
	}
	n := len(data)
	return []asking{
		{of(0), ask(1, 0, n), data}, {of(3), ask(1, 2, n), data}, {of(3), ask(1, 1, n), data}, {of(3), ask(1, 2, 0), ""}, {of(3), ask(1, 9, n), data},
		{of(0), ask(2, 0, 32), ""}, {of(6), ask(2, 2, 32), ""}, {of(6), ask(2, 2, 5), ""}, {of(6), ask(2, 5, 32), ""},
		{of(1), ask(3, 0, 6), ""}, {of(2), ask(3, 0, 6), ""}, {of(4), ask(3, 0, 6), ""}, {of(7), ask(3, 0, 6), ""},
		{of(2), ask(5, 0, 1), ""}, {of(7), ask(5, 0, 1), ""}, {of(7), ask(4, 0, 0), ""}, {of(3), ask(6, 0, 0), ""}, {of(2), ask(6, 0, 0), ""}, {of(3), data, ""},
	}
}

// copyOf is a device of other memory, its steps' texts too.
func copyOf(d api.Device) api.Device {
	d.Ops = slices.Clone(d.Ops)
	for n := range d.Ops {
		d.Ops[n].Text = strings.Clone(d.Ops[n].Text)
	}
	return d
}

// R4: what is handed in stays, its spare room too; answers share nothing with it, nor with each other.
func TestAnswersAreNew(t *testing.T) {
	for way := range askings(nil, "") {
		for n := range 4 {
			flash, text, data := []byte(holding(1, 288)), []byte("wordword"), []byte("what is carried")
			room := []api.Op{{At: 8, Text: unsafe.String(&text[0], 4)}, {Erase: true, At: 96}, {At: 4, Text: unsafe.String(&text[4], 4)}, {At: 1}, {At: 2}}
			f, kept := unsafe.String(&flash[0], len(flash)), copyOf(api.Device{Ops: room}).Ops
			a := askings(room[:n:5], unsafe.String(&data[0], len(data)))[way]
			one, _, _ := control.Handle(f, a.d, a.setup, a.data)
			two, back, _ := control.Handle(f, a.d, a.setup, a.data)
			want, bytes := copyOf(two), strings.Clone(back.Text)
			clear(one.Ops[:cap(one.Ops)])
			_ = append(one.Ops, api.Op{At: 5})
			if !slices.Equal(room, kept) || string(flash) != holding(1, 288) || string(data) != "what is carried" {
				t.Errorf("R4: way %d, %d steps: what was handed in has changed: %+v, %q", way, n, room, data)
			}
			clear(flash)
			clear(text)
			clear(data)
			clear(room)
			if !same(two, want) || back.Text != bytes {
				t.Errorf("R4: way %d, %d steps: an answer goes with another thing: %+v, %+v, want %+v, %q", way, n, two, back, want, bytes)
			}
		}
	}
}

// R5: one request has one answer, whoever asks at the same time.
func TestManyAtOneTime(t *testing.T) {
	f, all := holding(1, 288), askings(steps(7), row(15))
	var wait sync.WaitGroup
	for range 6 {
		wait.Go(func() {
			for range 30 {
				for _, a := range all {
					want, back, _ := control.Handle(f, copyOf(a.d), a.setup, a.data)
					comes(t, "shared", f, a.d, a.setup, a.data, want, back)
					refused(t, "wrong", f[1:], a.d, a.setup, a.data)
				}
			}
		})
	}
	wait.Wait()
}
