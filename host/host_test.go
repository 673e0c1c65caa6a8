package host_test

import (
	"hash/crc32"
	"math"
	"strings"
	"sync"
	"testing"
	"unsafe"

	"skiff/api"
	"skiff/choose"
	"skiff/control"
	"skiff/device"
	"skiff/host"
	"skiff/image"
	"skiff/nor"
	"skiff/tick"
)

// row is so many bytes; no two neighbours are alike, and no two blocks of it.
func row(n int) string {
	b := make([]byte, n)
	for i := range b {
		b[i] = byte(7*i + 3 + i/256)
	}
	return string(b)
}

// summed is a text with its sum behind it, the lowest byte first.
func summed(s string) string {
	x := crc32.ChecksumIEEE([]byte(s))
	return s + string([]byte{byte(x), byte(x >> 8), byte(x >> 16), byte(x >> 24)})
}

// file is a file's bytes worked out by hand.
func file(image string, i api.Ids) string {
	return summed(image + string([]byte{byte(i.Version), byte(i.Version >> 8), byte(i.Product), byte(i.Product >> 8), byte(i.Vendor), byte(i.Vendor >> 8), 0, 1, 'U', 'F', 'D', 16}))
}

// ask is a request's bytes worked out by hand.
func ask(code, value, length int) string {
	kind := byte(33)
	if code == 2 || code == 3 {
		kind = 161
	}
	return string([]byte{kind, byte(code), byte(value), byte(value >> 8), 0, 0, byte(length), byte(length >> 8)})
}

// us is whom the files below are for, if nothing else is told.
func us() api.Ids {
	return api.Ids{Vendor: 0x1234, Product: 0x5678, Version: 0x0100}
}

// busy are the phases in which a host carries something.
func busy() []int {
	return []int{api.PhaseClear, api.PhaseSend, api.PhasePoll, api.PhaseEnd, api.PhaseWait, api.PhaseRead}
}

// wrongs are hosts that may not be, each for one reason.
func wrongs() []api.Host {
	list := []api.Host{
		{Report: -1}, {Report: 4}, {Report: math.MinInt}, {Report: math.MaxInt},
		{Phase: -1}, {Phase: 8}, {Phase: math.MinInt}, {Phase: math.MaxInt}, {Phase: -1, Image: "a"}, {Phase: 8, Image: "a"},
	}
	for _, phase := range []int{0, 1, 2, 3, 4, 5, 6, 7} {
		ok := api.Host{Phase: phase, Image: row(65), Block: 1}
		for _, change := range []func(*api.Host){
			func(h *api.Host) { h.Report = -1 },
			func(h *api.Host) { h.Report = 4 },
			func(h *api.Host) { h.Image = row(289) },
			func(h *api.Host) { h.Image = row(4096) },
			func(h *api.Host) { h.Block = -1 },
			func(h *api.Host) { h.Block = 4 },
			func(h *api.Host) { h.Block = math.MaxInt },
			func(h *api.Host) { h.Block = math.MinInt },
			func(h *api.Host) { h.Tries = -1 },
			func(h *api.Host) { h.Tries = 9 },
			func(h *api.Host) { h.Tries = math.MaxInt },
			func(h *api.Host) { h.Tries = math.MinInt },
			func(h *api.Host) { h.Read = row(321) },
			func(h *api.Host) { h.Read = row(4096) },
		} {
			h := ok
			change(&h)
			list = append(list, h)
		}
	}
	for _, phase := range busy() {
		list = append(list, api.Host{Phase: phase}, api.Host{Phase: phase, Again: true})
	}
	for _, phase := range []int{api.PhaseOff, api.PhaseDone} {
		list = append(list, api.Host{Phase: phase, Block: 1})
	}
	return list
}

// P22.1: phases and reports are their own.
func TestMayPhasesAndReports(t *testing.T) {
	for phase := -3; phase <= 11; phase++ {
		for report := -3; report <= 7; report++ {
			want := phase >= 0 && phase <= 7 && report >= 0 && report <= 3
			if got := host.May(api.Host{Phase: phase, Report: report, Image: "a"}); got != want {
				t.Errorf("P22.1: phase %d, report %d: %t, want %t", phase, report, got, want)
			}
		}
	}
}

// P22.1: an image has at most 288 bytes, and at least one, but for a host that carries none; Block is from 0 to how many pieces it has.
func TestMayImagesAndBlocks(t *testing.T) {
	for phase := range 8 {
		for size := range 300 {
			pieces := size / 32
			if size%32 != 0 {
				pieces++
			}
			for block := -1; block <= 11; block++ {
				want := size <= 288 && block >= 0 && block <= pieces && (size > 0 || phase == 0 || phase == 7)
				if got := host.May(api.Host{Phase: phase, Image: row(size), Block: block}); got != want {
					t.Fatalf("P22.1: phase %d, %d bytes, block %d: %t, want %t", phase, size, block, got, want)
				}
			}
		}
	}
}

// P22.1: from 0 to 8 tries.
func TestMayTries(t *testing.T) {
	for tries := -3; tries <= 12; tries++ {
		want := tries >= 0 && tries <= 8
		for _, h := range []api.Host{{Tries: tries}, {Phase: api.PhaseSend, Image: "a", Tries: tries}, {Phase: api.PhaseDone, Report: api.ReportTries, Tries: tries}} {
			if got := host.May(h); got != want {
				t.Errorf("P22.1: %+v: %t, want %t", h, got, want)
			}
		}
	}
}

// P22.1: at most 320 bytes are read, whatever the image is.
func TestMayRead(t *testing.T) {
	for size := range 340 {
		for _, h := range []api.Host{{}, {Phase: api.PhaseDone}, {Phase: api.PhaseRead, Image: "a"}, {Phase: api.PhaseClear, Image: row(288), Block: 9, Again: true}} {
			h.Read = row(size)
			if got := host.May(h); got != (size <= 320) {
				t.Errorf("P22.1: phase %d, %d bytes read: %t", h.Phase, size, got)
			}
		}
	}
}

// P22.1: Again says nothing of whether a host may be; all else at its greatest may be, too.
func TestMayTheGreatest(t *testing.T) {
	for phase := range 8 {
		for _, again := range []bool{false, true} {
			h := api.Host{Phase: phase, Image: row(288), Block: 9, Again: again, Tries: 8, Read: row(320), Report: 3}
			if !host.May(h) {
				t.Errorf("P22.1: phase %d, again %t may not be", phase, again)
			}
		}
	}
	if !host.May(api.Host{}) {
		t.Error("P22.1: a host of zeros may not be")
	}
}

// starts fails unless the file and whom it is to be for make this host.
func starts(t *testing.T, what, file string, i api.Ids, want api.Host) {
	t.Helper()
	got, e := host.Start(file, i)
	if got != want || e != api.OK || !host.May(got) {
		t.Errorf("P22.1: %s: %+v, error %d, want %+v", what, got, e, want)
	}
}

// refused is the host behind a file that isn't carried.
func refused() api.Host {
	return api.Host{Phase: 7, Report: 3}
}

// P22.1: images of all sizes; a file with none, or with too much of one, is none.
func TestStartImages(t *testing.T) {
	for size := range 300 {
		want := api.Host{Phase: 1, Image: row(size)}
		if size < 1 || size > 288 {
			want = refused()
		}
		starts(t, "an image", file(row(size), us()), us(), want)
	}
}

// P22.1: whom the file is for is what this device is: each number the same, or any in the file.
func TestStartIds(t *testing.T) {
	numbers := []int{0, 1, 255, 256, 65534, 65535}
	for _, wanted := range numbers {
		for _, n := range numbers {
			want := refused()
			if wanted == n || wanted == 65535 {
				want = api.Host{Phase: 1, Image: "hello"}
			}
			of, i := us(), us()
			of.Vendor, i.Vendor = wanted, n
			starts(t, "a vendor", file("hello", of), i, want)
			of, i = us(), us()
			of.Product, i.Product = wanted, n
			starts(t, "a product", file("hello", of), i, want)
			of, i = us(), us()
			of.Version, i.Version = wanted, n
			starts(t, "a version", file("hello", of), i, want)
		}
	}
	starts(t, "for any", file("hello", api.Ids{Vendor: 65535, Product: 65535, Version: 65535}), us(), api.Host{Phase: 1, Image: "hello"})
	starts(t, "numbers mixed up", file("hello", api.Ids{Vendor: us().Product, Product: us().Vendor, Version: us().Version}), us(), refused())
}

// P22.1: a file with one byte changed, cut anywhere, or with something behind it is none.
func TestStartWrongFiles(t *testing.T) {
	right := file(row(40), us())
	for at := range len(right) {
		for bit := range 8 {
			b := []byte(right)
			b[at] ^= 1 << bit
			starts(t, "a changed bit", string(b), us(), refused())
		}
	}
	for size := range len(right) {
		starts(t, "cut", right[:size], us(), refused())
	}
	starts(t, "with more behind it", right+"\x00", us(), refused())
	starts(t, "much too long", strings.Repeat(right, 1000), us(), refused())
	starts(t, "with another mark", summed(row(40)+"\x00\x01\x78\x56\x34\x12\x00\x01UFE\x10"), us(), refused())
	starts(t, "the image alone", row(40), us(), refused())
}

// P22.1, R6: whom it is to be for must be from 0 to 65535, be the file one or not.
func TestStartWrongIds(t *testing.T) {
	for _, n := range []int{-1, 65536, math.MinInt, math.MaxInt} {
		for _, i := range []api.Ids{{Vendor: n, Product: 1, Version: 1}, {Vendor: 1, Product: n, Version: 1}, {Vendor: 1, Product: 1, Version: n}} {
			for _, s := range []string{"", "x", file("hello", api.Ids{Vendor: 65535, Product: 65535, Version: 65535}), file("hello", us()), strings.Repeat("y", 5000)} {
				if got, e := host.Start(s, i); got != (api.Host{}) || e != 2200 {
					t.Errorf("P22.1: %+v: %+v, error %d", i, got, e)
				}
			}
		}
	}
}

// asks fails unless the host asks just this.
func asks(t *testing.T, h api.Host, setup, data string) {
	t.Helper()
	s, got, e := host.Asks(h)
	if s != setup || got != data || e != api.OK {
		t.Errorf("P22.2: %+v: %q, %q, error %d, want %q, %q", h, s, got, e, setup, data)
	}
}

// all are the hosts of a phase that may be, so far as what they ask could hang on it.
func all(phase int, with func(api.Host)) {
	for _, size := range []int{1, 31, 32, 33, 63, 64, 65, 287, 288} {
		for block := range (size+31)/32 + 1 {
			for _, again := range []bool{false, true} {
				for _, rest := range []api.Host{{}, {Tries: 8}, {Report: 1}, {Read: "!"}, {Read: row(320), Tries: 3, Report: 2}} {
					h := rest
					h.Phase, h.Image, h.Block, h.Again = phase, row(size), block, again
					with(h)
				}
			}
		}
	}
}

// P22.2: behind a block or an image's end the status is asked, whatever else the host holds.
func TestAsksForTheStatus(t *testing.T) {
	for _, phase := range []int{api.PhasePoll, api.PhaseWait} {
		all(phase, func(h api.Host) { asks(t, h, "\xa1\x03\x00\x00\x00\x00\x06\x00", "") })
	}
}

// P22.2: ahead of a carrying the status is asked; Again, the failure is cleared, or what the device is about left off.
func TestAsksToClear(t *testing.T) {
	all(api.PhaseClear, func(h api.Host) {
		switch {
		case !h.Again:
			asks(t, h, "\xa1\x03\x00\x00\x00\x00\x06\x00", "")
		case h.Block == 0:
			asks(t, h, "\x21\x04\x00\x00\x00\x00\x00\x00", "")
		default:
			asks(t, h, "\x21\x06\x00\x00\x00\x00\x00\x00", "")
		}
	})
}

// P22.2: a piece of the image is sent, the last one of the bytes that are left; none behind it.
func TestAsksToSend(t *testing.T) {
	all(api.PhaseSend, func(h api.Host) {
		from := min(32*h.Block, len(h.Image))
		piece := h.Image[from:min(from+32, len(h.Image))]
		asks(t, h, ask(1, h.Block, len(piece)), piece)
	})
}

// P22.2: a piece beyond the image's bytes is none, also where the last one is not whole.
func TestAsksToSendNoPiece(t *testing.T) {
	for size := 1; size <= 288; size++ {
		pieces := (size + 31) / 32
		h := api.Host{Phase: api.PhaseSend, Image: row(size), Block: pieces}
		asks(t, h, string([]byte{33, 1, byte(pieces), 0, 0, 0, 0, 0}), "")
		h.Block--
		last := size - 32*(pieces-1)
		asks(t, h, string([]byte{33, 1, byte(pieces - 1), 0, 0, 0, byte(last), 0}), row(size)[size-last:])
	}
}

// P22.2: an image's end is a block without data.
func TestAsksToEnd(t *testing.T) {
	all(api.PhaseEnd, func(h api.Host) { asks(t, h, string([]byte{33, 1, byte(h.Block), 0, 0, 0, 0, 0}), "") })
}

// P22.2: a whole block is asked for, however much of the image is left.
func TestAsksToRead(t *testing.T) {
	all(api.PhaseRead, func(h api.Host) { asks(t, h, string([]byte{161, 2, byte(h.Block), 0, 0, 0, 32, 0}), "") })
}

// P22.2: a host that carries nothing asks nothing.
func TestAsksNothing(t *testing.T) {
	list := []api.Host{{}, {Phase: api.PhaseDone}, {Phase: api.PhaseDone, Report: api.ReportFile}}
	for _, phase := range []int{api.PhaseOff, api.PhaseDone} {
		all(phase, func(h api.Host) { list = append(list, h) })
	}
	for _, h := range list {
		if s, data, e := host.Asks(h); s != "" || data != "" || e != 2200 || !host.May(h) {
			t.Errorf("P22.2: %+v: %q, %q, error %d", h, s, data, e)
		}
	}
}

// P22.1, P22.2: what may not be asks nothing.
func TestWrongHosts(t *testing.T) {
	for n, h := range wrongs() {
		if host.May(h) {
			t.Errorf("P22.1: row %d: %+v may be", n, h)
		}
		if s, data, e := host.Asks(h); s != "" || data != "" || e != 2200 {
			t.Errorf("P22.2: row %d: %+v: %q, %q, error %d", n, h, s, data, e)
		}
	}
}

// T5: what a host asks, a device handles where it belongs: it stalls on none of these.
func TestADeviceTakesWhatIsAsked(t *testing.T) {
	flash := nor.Blank()
	for _, row := range []struct {
		h api.Host
		d api.Device
	}{
		{api.Host{Phase: api.PhaseClear, Image: row(40)}, api.Device{State: api.StateSync, Next: 1, Got: 32, Ops: []api.Op{{Erase: true, At: 192}}}},
		{api.Host{Phase: api.PhaseClear, Image: row(40), Again: true}, api.Device{State: api.StateError, Status: api.StatusStalled}},
		{api.Host{Phase: api.PhaseClear, Image: row(40), Again: true, Block: 1}, api.Device{State: api.StateDown, Next: 1, Got: 32}},
		{api.Host{Phase: api.PhaseSend, Image: row(40)}, device.New()},
		{api.Host{Phase: api.PhaseSend, Image: row(40), Block: 1}, api.Device{State: api.StateDown, Next: 1, Got: 32}},
		{api.Host{Phase: api.PhasePoll, Image: row(40), Block: 1}, api.Device{State: api.StateDown, Next: 1, Got: 32}},
		{api.Host{Phase: api.PhaseEnd, Image: row(40), Block: 2}, api.Device{State: api.StateDown, Next: 2, Got: 40}},
		{api.Host{Phase: api.PhaseWait, Image: row(40), Block: 2}, device.New()},
	} {
		setup, data, e := host.Asks(row.h)
		if _, back, e2 := control.Handle(flash, row.d, setup, data); e != api.OK || e2 != api.OK || back.Stall {
			t.Errorf("T5: %+v: %q, %q: %+v, errors %d, %d", row.h, setup, data, back, e, e2)
		}
	}
}

// asked is the device behind what this host asks, and what came back; it must not stall.
func asked(t *testing.T, flash string, d api.Device, h api.Host) (api.Device, string) {
	t.Helper()
	setup, data, e := host.Asks(h)
	if e != api.OK {
		t.Fatalf("T1: %+v: error %d", h, e)
	}
	d, back, e := control.Handle(flash, d, setup, data)
	if e != api.OK || back.Stall {
		t.Fatalf("T1: %+v: %+v, error %d", h, back, e)
	}
	return d, back.Text
}

// settled is the flash and the device when it has no step left; the host asks ahead of the steps, and behind them.
func settled(t *testing.T, flash string, d api.Device, h api.Host) (string, api.Device) {
	t.Helper()
	d, _ = asked(t, flash, d, h)
	for d.State == api.StateBusy || d.State == api.StateMani {
		var e api.Errno
		if flash, d, e = tick.Step(flash, d); e != api.OK {
			t.Fatalf("T1: error %d", e)
		}
	}
	d, _ = asked(t, flash, d, h)
	return flash, d
}

// T1, T3: a carrying whose phases are laid out by hand: what is asked in each brings the image across, and back.
func TestAWholeCarrying(t *testing.T) {
	for _, size := range []int{1, 31, 32, 33, 64, 100, 256, 257, 288} {
		flash, d := nor.Blank(), device.New()
		h, e := host.Start(file(row(size), us()), us())
		if e != api.OK || h.Image != row(size) {
			t.Fatalf("P22.1: %d bytes: %+v, error %d", size, h, e)
		}
		pieces := (size + 31) / 32
		for block := range pieces {
			h.Block = block
			h.Phase = api.PhaseSend
			d, _ = asked(t, flash, d, h)
			h.Phase = api.PhasePoll
			flash, d = settled(t, flash, d, h)
		}
		h.Block, h.Phase = pieces, api.PhaseEnd
		d, _ = asked(t, flash, d, h)
		h.Phase = api.PhaseWait
		flash, d = settled(t, flash, d, h)
		h.Phase = api.PhaseRead
		for block := range pieces + 1 {
			h.Block = block
			var text string
			d, text = asked(t, flash, d, h)
			h.Read += text
			if len(text) < 32 {
				break
			}
		}
		active, e := choose.Active(flash)
		if e != api.OK || h.Read != row(size) || !host.May(h) {
			t.Errorf("T3: %d bytes: %q, error %d", size, h.Read, e)
		}
		if of, e := image.Of(flash, active.Record); of != row(size) || e != api.OK {
			t.Errorf("T1: %d bytes: %q, error %d", size, of, e)
		}
	}
}

// R4: the image shares nothing with the file that it is of.
func TestStartSharesNothing(t *testing.T) {
	for _, size := range []int{1, 32, 288} {
		b := []byte(file(row(size), us()) + "spare")
		s := unsafe.String(&b[0], len(b)-5)
		one, _ := host.Start(s, us())
		two, _ := host.Start(s, us())
		if string(b) != file(row(size), us())+"spare" {
			t.Errorf("R4: the file is %q now", b)
		}
		if unsafe.StringData(one.Image) == unsafe.StringData(two.Image) {
			t.Error("R4: two answers share memory")
		}
		clear(b)
		if one.Image != row(size) || two.Image != row(size) {
			t.Errorf("R4: %d bytes: the image is %q now", size, one.Image)
		}
	}
}

// R4: a piece shares nothing with the image that it is of, nor does what is asked otherwise; the host stays as it is.
func TestAsksSharesNothing(t *testing.T) {
	for _, phase := range busy() {
		for _, size := range []int{1, 32, 33, 288} {
			for block := range (size+31)/32 + 1 {
				b, read := []byte(row(size)+"spare"), []byte(row(320))
				h := api.Host{Phase: phase, Image: unsafe.String(&b[0], size), Block: block, Again: true, Tries: 2, Read: unsafe.String(&read[0], 320)}
				setup, data, e := host.Asks(h)
				setup2, data2, _ := host.Asks(h)
				if string(b) != row(size)+"spare" || string(read) != row(320) || !host.May(h) {
					t.Errorf("R4: the host is %+v now", h)
				}
				if unsafe.StringData(setup) == unsafe.StringData(setup2) || data != "" && unsafe.StringData(data) == unsafe.StringData(data2) {
					t.Errorf("R4: phase %d, block %d: two answers share memory", phase, block)
				}
				kept, kept2 := strings.Clone(setup), strings.Clone(data)
				clear(b)
				clear(read)
				if setup != kept || data != kept2 || setup2 != kept || data2 != kept2 || e != api.OK {
					t.Errorf("R4: phase %d, block %d: %q, %q now, want %q, %q", phase, block, setup, data, kept, kept2)
				}
			}
		}
	}
}

// R5: all three may be asked by many at one time.
func TestManyAtOneTime(t *testing.T) {
	s := file(row(70), us())
	var wait sync.WaitGroup
	for range 6 {
		wait.Go(func() {
			for range 200 {
				h, e := host.Start(s, us())
				if h != (api.Host{Phase: api.PhaseClear, Image: row(70)}) || e != api.OK || !host.May(h) {
					t.Errorf("R5: %+v, error %d", h, e)
				}
				h.Phase, h.Block = api.PhaseSend, 2
				if setup, data, e := host.Asks(h); setup != ask(1, 2, 6) || data != row(70)[64:] || e != api.OK {
					t.Errorf("R5: %q, %q, error %d", setup, data, e)
				}
			}
		})
	}
	wait.Wait()
}
