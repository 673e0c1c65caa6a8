package pair_test

import (
	"hash/crc32"
	"math"
	"slices"
	"strings"
	"sync"
	"testing"
	"unsafe"

	"skiff/api"
	"skiff/choose"
	"skiff/image"
	"skiff/nor"
	"skiff/pair"
)

// row is so many bytes; no two neighbours are alike, and no two blocks of it.
func row(n int) string {
	b := make([]byte, n)
	for i := range b {
		b[i] = byte(7*i + 3 + i/256)
	}
	return string(b)
}

// lowest is a whole number's bytes, the lowest first.
func lowest(x uint32) string {
	return string([]byte{byte(x), byte(x >> 8), byte(x >> 16), byte(x >> 24)})
}

// fileFor is a file's bytes worked out by hand: whom it is for is the device's version, the product, the vendor, each two bytes.
func fileFor(image, ids string) string {
	s := image + ids + "\x00\x01UFD\x10"
	return s + lowest(crc32.ChecksumIEEE([]byte(s)))
}

// file is one for any device.
func file(image string) string {
	return fileFor(image, "\xff\xff\xff\xff\xff\xff")
}

// laid is a record's bytes worked out by hand.
func laid(seq, slot int, image string) string {
	size := len(image)
	b := []byte{byte(seq), byte(seq >> 8), byte(seq >> 16), byte(seq >> 24), byte(slot), 0, byte(size), byte(size >> 8)}
	b = append(b, lowest(crc32.ChecksumIEEE([]byte(image)))...)
	for at := range 12 {
		b = append(b, 255-b[at])
	}
	return string(b)
}

// with is a flash whose bytes from at on are these.
func with(f string, at int, s string) string {
	return f[:at] + s + f[at+len(s):]
}

// holding is a flash in which this image is active; it stands in slot 1.
func holding(image string) string {
	return with(with(nor.Blank(), 480, image), 0, laid(1, 1, image))
}

// words are the steps that program these whole words from there on.
func words(at int, s string) []api.Op {
	var list []api.Op
	for n := 0; n < len(s); n += 4 {
		list = append(list, api.Op{At: at + n, Text: s[n : n+4]})
	}
	return list
}

// steps are so many that may be, of both kinds.
func steps(n int) []api.Op {
	four := []api.Op{{At: 0, Text: "\x5a\x00\xff\x81"}, {Erase: true, At: 672}, {At: 764, Text: "\x0f\xf0\x33\xcc"}, {Erase: true}}
	var list []api.Op
	for i := range n {
		list = append(list, four[i%len(four)])
	}
	return list
}

// same: are they the same device? An empty list and nil are one.
func same(a, b api.Device) bool {
	return a.State == b.State && a.Status == b.Status && a.Next == b.Next && a.Got == b.Got && a.Slot == b.Slot && slices.Equal(a.Ops, b.Ops)
}

// alike: are they the same world?
func alike(a, b api.World) bool {
	return a.Flash == b.Flash && a.Ids == b.Ids && same(a.Device, b.Device) && a.Host == b.Host
}

// does fails unless this is the world behind the act; it answers that world.
func does(t *testing.T, w api.World, a api.Act, want api.World) api.World {
	t.Helper()
	got, e := pair.Do(w, a)
	if !alike(got, want) || e != api.OK {
		t.Errorf("P24.2: %+v: %+v, %+v, error %d, want %+v, %+v; is the flash right: %t", a, got.Device, got.Host, e, want.Device, want.Host, got.Flash == want.Flash)
	}
	if !pair.May(got) {
		t.Errorf("P24.2: %+v: %+v, %+v may not be", a, got.Device, got.Host)
	}
	return got
}

// refused fails unless nothing but the error is answered.
func refused(t *testing.T, w api.World, a api.Act) {
	t.Helper()
	if got, e := pair.Do(w, a); !alike(got, api.World{}) || e != 2400 {
		t.Errorf("P24.2: %+v, %+v, %+v: %+v, error %d", w.Device, w.Host, a, got, e)
	}
}

// flashes are flashes of all kinds.
func flashes() []string {
	return []string{nor.Blank(), row(768), strings.Repeat("\x00", 768), holding(row(288))}
}

// devices are devices that may be, of each state, with and without steps, and at the edges of what may be.
func devices() []api.Device {
	var list []api.Device
	for state := range 8 {
		list = append(list,
			api.Device{State: state},
			api.Device{State: state, Status: state % 7, Next: 1, Got: 32, Slot: 1, Ops: steps(3)},
			api.Device{State: state, Status: 6, Next: 16, Got: 288, Slot: 1, Ops: steps(768)},
			api.Device{State: state, Status: 1, Next: 3, Got: 5, Ops: steps(1)})
	}
	return list
}

// hosts are hosts that may be, of each phase, and at the edges of what may be.
func hosts() []api.Host {
	list := []api.Host{{}, {Phase: 7, Report: 3}}
	for phase := range 8 {
		list = append(list,
			api.Host{Phase: phase, Image: "a"},
			api.Host{Phase: phase, Image: row(40), Block: 1, Again: true, Tries: 2, Read: "!", Report: 1},
			api.Host{Phase: phase, Image: row(288), Block: 9, Tries: 8, Read: row(320), Report: 3})
	}
	return list
}

// worlds are worlds that may be: each device, each host, each flash in turn.
func worlds() []api.World {
	var list []api.World
	for n, d := range devices() {
		for k, h := range hosts() {
			list = append(list, api.World{Flash: flashes()[(n+k)%4], Ids: api.Ids{Vendor: n, Product: 65535, Version: k}, Device: d, Host: h})
		}
	}
	return list
}

// whole is a world that may be, in which everything holds something.
func whole() api.World {
	return api.World{
		Flash: row(768), Ids: api.Ids{Vendor: 1, Product: 2, Version: 3},
		Device: api.Device{State: api.StateBusy, Status: 2, Next: 2, Got: 64, Slot: 1, Ops: steps(3)},
		Host:   api.Host{Phase: api.PhasePoll, Image: row(40), Block: 1, Again: true, Tries: 1, Read: row(7), Report: 1},
	}
}

// unfit are worlds that may not be, each for one reason.
func unfit() []api.World {
	var list []api.World
	for _, change := range []func(*api.World){
		func(w *api.World) { w.Flash = "" },
		func(w *api.World) { w.Flash = row(767) },
		func(w *api.World) { w.Flash = row(769) },
		func(w *api.World) { w.Flash = row(5000) },
		func(w *api.World) { w.Ids.Vendor = -1 },
		func(w *api.World) { w.Ids.Vendor = 65536 },
		func(w *api.World) { w.Ids.Product = -1 },
		func(w *api.World) { w.Ids.Product = 65536 },
		func(w *api.World) { w.Ids.Version = -1 },
		func(w *api.World) { w.Ids.Version = 65536 },
		func(w *api.World) { w.Ids.Version = math.MinInt },
		func(w *api.World) { w.Ids.Vendor = math.MaxInt },
		func(w *api.World) { w.Device.State = -1 },
		func(w *api.World) { w.Device.State = 8 },
		func(w *api.World) { w.Device.Status = -1 },
		func(w *api.World) { w.Device.Status = 7 },
		func(w *api.World) { w.Device.Next = -1 },
		func(w *api.World) { w.Device.Next = 17 },
		func(w *api.World) { w.Device.Got = -1 },
		func(w *api.World) { w.Device.Got = 289 },
		func(w *api.World) { w.Device.Slot = -1 },
		func(w *api.World) { w.Device.Slot = 2 },
		func(w *api.World) { w.Device.Ops = steps(769) },
		func(w *api.World) { w.Device.Ops = []api.Op{{Erase: true, At: 95}} },
		func(w *api.World) { w.Device.Ops = []api.Op{{At: 4, Text: "abcd"}, {At: 768, Text: "abcd"}} },
		func(w *api.World) { w.Device.Ops = []api.Op{{At: 4, Text: "abc"}} },
		func(w *api.World) { w.Host.Phase = -1 },
		func(w *api.World) { w.Host.Phase = 8 },
		func(w *api.World) { w.Host.Image, w.Host.Block = "", 0 },
		func(w *api.World) { w.Host.Image = row(289) },
		func(w *api.World) { w.Host.Block = -1 },
		func(w *api.World) { w.Host.Block = 3 },
		func(w *api.World) { w.Host.Tries = -1 },
		func(w *api.World) { w.Host.Tries = 9 },
		func(w *api.World) { w.Host.Read = row(321) },
		func(w *api.World) { w.Host.Report = -1 },
		func(w *api.World) { w.Host.Report = 4 },
	} {
		w := whole()
		change(&w)
		list = append(list, w)
	}
	return append(list, api.World{})
}

// fitting are acts of each kind that may be.
func fitting() []api.Act {
	return []api.Act{{Kind: 0, File: file("a")}, {Kind: 0}, {Kind: 1}, {Kind: 1, Loss: 1}, {Kind: 1, Loss: 2}, {Kind: 2}, {Kind: 3}, {Kind: 3, Cut: 50}, {Kind: 3, Cut: 96}, {Kind: 4}, {Kind: 5}}
}

// P24.1: a world is new, whatever flash and whatever numbers it has.
func TestNew(t *testing.T) {
	for _, f := range flashes() {
		for _, i := range []api.Ids{{}, {Vendor: 1, Product: 2, Version: 3}, {Vendor: 65535}, {Product: 65535}, {Version: 65535}, {Vendor: 65535, Product: 65535, Version: 65535}, {Vendor: 65534, Product: 256, Version: 255}} {
			got, e := pair.New(f, i)
			if !alike(got, api.World{Flash: f, Ids: i}) || e != api.OK || !pair.May(got) {
				t.Errorf("P24.1: %+v: %+v, error %d", i, got, e)
			}
		}
	}
}

// P24.1, R2: none is new of a flash, or of numbers, that may not be.
func TestNewWrong(t *testing.T) {
	none := func(f string, i api.Ids) {
		if got, e := pair.New(f, i); !alike(got, api.World{}) || e != 2400 {
			t.Errorf("P24.1: %d bytes, %+v: %+v, error %d", len(f), i, got, e)
		}
	}
	for _, size := range []int{0, 1, 4, 96, 767, 769, 1536, 5000} {
		none(row(size), api.Ids{})
		none(row(size), api.Ids{Vendor: -1})
	}
	for _, n := range []int{-1, -65535, 65536, 1 << 32, math.MinInt, math.MaxInt} {
		none(nor.Blank(), api.Ids{Vendor: n})
		none(nor.Blank(), api.Ids{Product: n})
		none(nor.Blank(), api.Ids{Version: n})
		none(nor.Blank(), api.Ids{Vendor: n, Product: n, Version: n})
	}
}

// P24.1: a world may be, if all that is in it may be.
func TestMay(t *testing.T) {
	for _, w := range append(worlds(), whole()) {
		if !pair.May(w) {
			t.Errorf("P24.1: %+v, %+v, %+v may not be", w.Ids, w.Device, w.Host)
		}
	}
	for n, w := range unfit() {
		if pair.May(w) {
			t.Errorf("P24.1: row %d: %+v, %+v, %+v may be", n, w.Ids, w.Device, w.Host)
		}
	}
}

// P24.2, R2: in a world that may not be nothing is done, whatever the act is.
func TestWrongWorlds(t *testing.T) {
	for _, w := range unfit() {
		for _, a := range append(fitting(), api.Act{Kind: -1}, api.Act{Kind: 6}) {
			refused(t, w, a)
		}
	}
}

// P24.2, R2: an act that may not be isn't done, in whatever world, though it would do nothing there.
func TestWrongActs(t *testing.T) {
	beside := func(most int) []int { return []int{-1, most + 1, math.MinInt, math.MaxInt} }
	for _, w := range append(worlds(), whole()) {
		for _, n := range beside(5) {
			refused(t, w, api.Act{Kind: n, File: file("a")})
		}
		for _, n := range beside(2) {
			refused(t, w, api.Act{Kind: api.ActStep, Loss: n})
		}
		for _, n := range beside(96) {
			refused(t, w, api.Act{Kind: api.ActCut, Cut: n})
		}
	}
}

// P24.2: what an act does not need is nothing to it, though it is none of its own.
func TestWhatAnActDoesNotNeed(t *testing.T) {
	for _, w := range []api.World{whole(), {Flash: nor.Blank()}} {
		for _, a := range fitting() {
			want, e := pair.Do(w, a)
			if e != api.OK {
				t.Fatalf("P24.2: %+v: error %d", a, e)
			}
			for _, n := range []int{-1, 3, 97, math.MaxInt} {
				more := a
				if a.Kind != api.ActStep {
					more.Loss = n
				}
				if a.Kind != api.ActCut {
					more.Cut = n
				}
				if a.Kind != api.ActStart {
					more.File = row(5000)
				}
				does(t, w, more, want)
			}
		}
	}
}

// P24.2: a host that carries nothing, yet or any more, is given a file: it begins to carry its image, if it is for the device.
func TestStart(t *testing.T) {
	ours := "\x03\x00\x02\x00\x01\x00"
	for _, h := range []api.Host{{}, {Phase: 7, Report: 3}, {Phase: 7, Image: row(40), Tries: 8, Report: 2}, {Phase: 0, Image: row(40), Block: 1, Again: true, Read: "!"}} {
		for _, d := range devices() {
			w := whole()
			w.Device, w.Host = d, h
			for _, text := range []string{file("a"), fileFor("a", ours), fileFor("a", "\xff\xff\x02\x00\x01\x00")} {
				want := w
				want.Host = api.Host{Phase: 1, Image: "a"}
				does(t, w, api.Act{Kind: api.ActStart, File: text}, want)
			}
			for _, text := range []string{"", "no file", file("a")[1:], "a" + file("a"), row(5000), file(row(289)), file(""), fileFor("a", "\x04\x00\x02\x00\x01\x00"), fileFor("a", "\x03\x00\x03\x00\x01\x00"), fileFor("a", "\x03\x00\x02\x00\x00\x00")} {
				want := w
				want.Host = api.Host{Phase: 7, Report: 3}
				does(t, w, api.Act{Kind: api.ActStart, File: text}, want)
			}
		}
	}
	w := whole()
	w.Host = api.Host{}
	for size := 1; size <= 288; size++ {
		want := w
		want.Host = api.Host{Phase: 1, Image: row(size)}
		does(t, w, api.Act{Kind: api.ActStart, File: file(row(size))}, want)
	}
}

// busy: does a host of this phase carry something?
func busy(phase int) bool {
	return phase >= 1 && phase <= 6
}

// P24.2: a host that carries something isn't given another file.
func TestStartWhileItCarries(t *testing.T) {
	for _, w := range append(worlds(), whole()) {
		if !busy(w.Host.Phase) {
			continue
		}
		for _, text := range []string{file("another"), "no file", ""} {
			does(t, w, api.Act{Kind: api.ActStart, File: text}, w)
		}
	}
}

// P24.2: a host that carries nothing asks nothing, though the device would fail by it, or the loss counted.
func TestStepWithoutACarrying(t *testing.T) {
	for _, w := range worlds() {
		if busy(w.Host.Phase) {
			continue
		}
		for loss := range 3 {
			does(t, w, api.Act{Kind: api.ActStep, Loss: loss}, w)
		}
	}
}

// P24.2: a carrying of one byte, each act of it written out.
func TestWrittenOut(t *testing.T) {
	step, tick := api.Act{Kind: api.ActStep}, api.Act{Kind: api.ActTick}
	w, e := pair.New(nor.Blank(), api.Ids{Vendor: 1, Product: 2, Version: 3})
	if e != api.OK {
		t.Fatalf("P24.1: error %d", e)
	}
	want := w
	turns := func(a api.Act, d api.Device, h api.Host) {
		t.Helper()
		want.Device, want.Host = d, h
		w = does(t, w, a, want)
	}
	near := func(phase, block int) api.Host { return api.Host{Phase: phase, Image: "a", Block: block} }
	turns(api.Act{Kind: api.ActStart, File: file("a")}, api.Device{}, near(1, 0))
	turns(step, api.Device{}, near(2, 0))
	list := []api.Op{{Erase: true, At: 192}, {Erase: true, At: 288}, {Erase: true, At: 384}, {At: 192, Text: "a\xff\xff\xff"}}
	far := api.Device{State: api.StateSync, Next: 1, Got: 1, Ops: list}
	turns(step, far, near(3, 0))
	turns(tick, far, near(3, 0)) // it waits to be asked
	far.State = api.StateBusy
	turns(step, far, near(3, 0))
	for n := range 3 {
		far.Ops = list[n+1:]
		turns(tick, far, near(3, 0))
		turns(step, far, near(3, 0)) // it is still busy
	}
	want.Flash = with(nor.Blank(), 192, "a")
	far = api.Device{State: api.StateSync, Next: 1, Got: 1}
	turns(tick, far, near(3, 0))
	far.State = api.StateDown
	turns(step, far, near(4, 1))
	far.State = api.StateManisync
	turns(step, far, near(5, 1))
	far.State, far.Ops = api.StateMani, words(0, laid(1, 0, "a"))
	turns(step, far, near(5, 1))
	for n := range 5 {
		want.Flash = with(want.Flash, 0, laid(1, 0, "a")[:4*n+4])
		far.Ops = words(0, laid(1, 0, "a"))[n+1:]
		turns(tick, far, near(5, 1))
	}
	want.Flash = with(want.Flash, 0, laid(1, 0, "a"))
	turns(tick, api.Device{}, near(5, 1))
	turns(step, api.Device{}, near(6, 0))
	good := api.Host{Phase: 7, Image: "a", Report: 1}
	turns(step, api.Device{}, good)
	turns(step, api.Device{}, good)
	turns(tick, api.Device{}, good)
}

// A turn is a host and a device, and what they are behind a step with each loss.
type turn struct {
	host         api.Host
	device       api.Device
	came, missed api.Host   // the host behind what came, and behind a loss
	after        api.Device // the device behind the request, if that comes there
}

// turns are some of each phase, upon a flash that holds an image of 40 bytes.
func turns() []turn {
	down, up := api.Device{State: api.StateDown, Next: 1, Got: 32}, api.Device{State: api.StateUp, Next: 1}
	stalled := api.Device{State: api.StateError, Status: api.StatusStalled}
	begun := api.Device{State: api.StateSync, Next: 1, Got: 32, Ops: append([]api.Op{{Erase: true, At: 192}, {Erase: true, At: 288}, {Erase: true, At: 384}}, words(192, row(32))...)}
	ended := down
	ended.State = api.StateManisync
	synced := down
	synced.State = api.StateSync
	of := func(h api.Host) api.Host { h.Image = row(40); return h }
	return []turn{
		{host: of(api.Host{Phase: 1}), device: down, came: of(api.Host{Phase: 1, Block: 1, Again: true}), missed: of(api.Host{Phase: 1, Tries: 1}), after: down},
		{host: of(api.Host{Phase: 1, Block: 1, Again: true}), device: down, came: of(api.Host{Phase: 1}), missed: of(api.Host{Phase: 1, Tries: 1})},
		{host: of(api.Host{Phase: 1, Again: true}), device: stalled, came: of(api.Host{Phase: 1}), missed: of(api.Host{Phase: 1, Tries: 1})},
		{host: of(api.Host{Phase: 1, Again: true}), device: down, came: of(api.Host{Phase: 1, Tries: 1}), missed: of(api.Host{Phase: 1, Tries: 1}), after: stalled},
		{host: of(api.Host{Phase: 2}), came: of(api.Host{Phase: 3}), missed: of(api.Host{Phase: 3, Again: true, Tries: 1}), after: begun},
		{host: of(api.Host{Phase: 2}), device: begun, came: of(api.Host{Phase: 1, Tries: 1}), missed: of(api.Host{Phase: 3, Again: true, Tries: 1}), after: stalled},
		{host: of(api.Host{Phase: 3}), device: synced, came: of(api.Host{Phase: 2, Block: 1}), missed: of(api.Host{Phase: 3, Tries: 1}), after: down},
		{host: of(api.Host{Phase: 4, Block: 1}), device: down, came: of(api.Host{Phase: 5, Block: 1}), missed: of(api.Host{Phase: 5, Block: 1, Again: true, Tries: 1}), after: ended},
		{host: of(api.Host{Phase: 5, Block: 2}), came: of(api.Host{Phase: 6}), missed: of(api.Host{Phase: 5, Block: 2, Tries: 1})},
		{host: of(api.Host{Phase: 6}), came: of(api.Host{Phase: 6, Block: 1, Read: row(32)}), missed: of(api.Host{Phase: 1, Block: 1, Again: true, Tries: 1, Read: "!"}), after: up},
		{host: of(api.Host{Phase: 6, Block: 1, Read: row(32)}), device: up, came: of(api.Host{Phase: 7, Report: 1}), missed: of(api.Host{Phase: 1, Block: 1, Again: true, Tries: 1, Read: "!"})},
	}
}

// P24.2: what is lost on its way there leaves the device as it was; what is lost on its way back doesn't, and is the same to the host.
func TestLosses(t *testing.T) {
	for n, x := range turns() {
		w := api.World{Flash: holding(row(40)), Ids: api.Ids{Vendor: 9}, Device: x.device, Host: x.host}
		if !pair.May(w) {
			t.Fatalf("P24.1: row %d: %+v, %+v", n, w.Device, w.Host)
		}
		none, out, back := w, w, w
		none.Device, none.Host = x.after, x.came
		out.Host = x.missed
		back.Device, back.Host = x.after, x.missed
		does(t, w, api.Act{Kind: api.ActStep, Loss: api.LossNone}, none)
		does(t, w, api.Act{Kind: api.ActStep, Loss: api.LossOut}, out)
		does(t, w, api.Act{Kind: api.ActStep, Loss: api.LossBack}, back)
	}
}

// P24.2: a tick does the first of a busy device's steps; of other devices nothing turns, and of other things neither.
func TestTick(t *testing.T) {
	word, wear := api.Op{At: 188, Text: "\x5a\x00\xff\x81"}, api.Op{Erase: true, At: 96}
	w := whole()
	w.Flash = strings.Repeat("\xaa", 768)
	for _, state := range []int{api.StateBusy, api.StateMani} {
		w.Device = api.Device{State: state, Status: 2, Next: 2, Got: 64, Slot: 1, Ops: []api.Op{word, wear, wear}}
		want := w
		want.Flash, want.Device.Ops = with(w.Flash, 188, "\x0a\x00\xaa\x80"), []api.Op{wear, wear}
		got := does(t, w, api.Act{Kind: api.ActTick}, want)
		want.Flash, want.Device.Ops = with(w.Flash, 96, strings.Repeat("\xff", 96)), []api.Op{wear}
		got = does(t, got, api.Act{Kind: api.ActTick}, want)
		want.Device = api.Device{}
		if state == api.StateBusy {
			want.Device = api.Device{State: api.StateSync, Status: 2, Next: 2, Got: 64, Slot: 1}
		}
		does(t, got, api.Act{Kind: api.ActTick}, want)
	}
	for _, state := range []int{0, 1, 3, 4, 6, 7} {
		w.Device.State = state
		does(t, w, api.Act{Kind: api.ActTick}, w)
	}
}

// P24.2: a cut does so much of a busy device's first step, and makes the device a new one; the host isn't told.
func TestCut(t *testing.T) {
	zeros := strings.Repeat("\x00", 768)
	for cut := range 97 {
		word := []byte("\xff\xff\xff\xff")
		for bit := range min(cut, 32) {
			word[bit/8] &^= 1 << (bit % 8)
		}
		for _, state := range []int{api.StateBusy, api.StateMani} {
			w := whole()
			w.Flash, w.Device = zeros, api.Device{State: state, Next: 2, Got: 64, Ops: []api.Op{{Erase: true, At: 480}, {At: 480, Text: "abcd"}}}
			want := w
			want.Flash, want.Device = with(zeros, 480, strings.Repeat("\xff", cut)), api.Device{}
			does(t, w, api.Act{Kind: api.ActCut, Cut: cut}, want)
			w.Flash, w.Device = nor.Blank(), api.Device{State: state, Ops: []api.Op{{At: 764, Text: "\x00\x00\x00\x00"}}}
			want.Flash = with(nor.Blank(), 764, string(word))
			does(t, w, api.Act{Kind: api.ActCut, Cut: cut}, want)
		}
	}
	for _, d := range devices() {
		if d.State == api.StateBusy || d.State == api.StateMani {
			d.Ops = nil
		}
		w := whole()
		w.Device = d
		want := w
		want.Device = api.Device{}
		for _, cut := range []int{0, 32, 96} {
			does(t, w, api.Act{Kind: api.ActCut, Cut: cut}, want)
		}
	}
}

// P24.2: a reset makes the device a new one, a drop the host; everything else stays.
func TestResetAndDrop(t *testing.T) {
	for _, w := range append(worlds(), whole()) {
		reset, drop := w, w
		reset.Device = api.Device{}
		does(t, w, api.Act{Kind: api.ActReset}, reset)
		drop.Host = api.Host{}
		does(t, w, api.Act{Kind: api.ActDrop}, drop)
	}
}

// active is the image that is active in a flash, and its record's place.
func active(t *testing.T, flash string) (string, api.Place) {
	t.Helper()
	place, e := choose.Active(flash)
	if e != api.OK {
		t.Fatalf("T2: none is active: error %d", e)
	}
	of, e := image.Of(flash, place.Record)
	if e != api.OK {
		t.Fatalf("T2: error %d", e)
	}
	return of, place
}

// done is a world behind the act, and fails if the active record turned to one of another image than these.
func done(t *testing.T, w api.World, a api.Act, begun ...string) api.World {
	t.Helper()
	got, e := pair.Do(w, a)
	if e != api.OK {
		t.Fatalf("P24.2: %+v: error %d", a, e)
	}
	was, before := active(t, w.Flash)
	is, behind := active(t, got.Flash)
	if behind != before && !slices.Contains(begun, is) {
		t.Fatalf("T1: %+v: %q is active, behind %q", a, is, was)
	}
	if behind == before && is != was {
		t.Fatalf("T2: %+v: %q is active, behind %q", a, is, was)
	}
	if got.Host.Report == api.ReportGood && w.Host.Phase != api.PhaseDone && is != got.Host.Image {
		t.Fatalf("T3: %q was carried, %q is active", got.Host.Image, is)
	}
	return got
}

// begun is a world that is to carry this, upon an elder image.
func begun(t *testing.T, image string) api.World {
	t.Helper()
	w, e := pair.New(holding("elder"), api.Ids{})
	if e != api.OK {
		t.Fatalf("P24.1: error %d", e)
	}
	return done(t, w, api.Act{Kind: api.ActStart, File: file(image)})
}

// ended is a world whose host is done, and how many acts that took: a step and a tick by turns; at tells of another act in an act's stead, others of images that were begun ahead of the host's.
func ended(t *testing.T, w api.World, at func(n int) (api.Act, bool), others ...string) (api.World, int) {
	t.Helper()
	images := append(others, w.Host.Image)
	for n := range 1024 {
		if w.Host.Phase == api.PhaseDone {
			return w, n
		}
		a, is := at(n)
		if !is {
			a = api.Act{Kind: api.ActStep + n%2}
		}
		w = done(t, w, a, images...)
	}
	t.Fatalf("T4: no end: %+v, %+v", w.Device, w.Host)
	return w, 0
}

// plain: no act but steps and ticks.
func plain(int) (api.Act, bool) {
	return api.Act{}, false
}

// well fails unless the carrying ended well, by so many tries at most.
func well(t *testing.T, what string, w api.World, image string, tries int) {
	t.Helper()
	want := api.Host{Phase: 7, Image: image, Tries: w.Host.Tries, Report: 1}
	is, _ := active(t, w.Flash)
	if w.Host != want || w.Host.Tries > tries || is != image {
		t.Errorf("T4: %s: %+v, %d bytes are active", what, w.Host, len(is))
	}
}

// T1, T3, T4: with no loss it ends well, whatever the image's size.
func TestAWholeCarrying(t *testing.T) {
	for _, size := range []int{1, 2, 31, 32, 33, 64, 65, 256, 257, 287, 288} {
		w, _ := ended(t, begun(t, row(size)), plain)
		well(t, "no loss", w, row(size), 0)
	}
}

// T1, T2, T4: any one act of another kind in between, a loss, a cut, a reset: it ends well.
func TestOneMishap(t *testing.T) {
	mishaps := []api.Act{{Kind: api.ActStep, Loss: 1}, {Kind: api.ActStep, Loss: 2}, {Kind: api.ActReset}, {Kind: api.ActTick}}
	for _, cut := range []int{0, 1, 9, 17, 31, 32, 40, 95, 96} {
		mishaps = append(mishaps, api.Act{Kind: api.ActCut, Cut: cut})
	}
	for _, size := range []int{1, 34} {
		_, acts := ended(t, begun(t, row(size)), plain)
		for at := range acts {
			for _, mishap := range mishaps {
				w, _ := ended(t, begun(t, row(size)), func(n int) (api.Act, bool) { return mishap, n == at })
				well(t, "one mishap", w, row(size), 2)
			}
		}
	}
}

// T2: behind a cut the elder image is active still, till the record's last bit that isn't blank is laid down; then the new one is.
func TestCutsOfARecord(t *testing.T) {
	w, elder := begun(t, row(34)), 0
	for w.Host.Phase != api.PhaseRead {
		for cut := range 97 {
			behind := done(t, w, api.Act{Kind: api.ActCut, Cut: cut}, row(34))
			if is, _ := active(t, behind.Flash); is == "elder" {
				elder++
			} else if w.Device.State == api.StateMani && len(w.Device.Ops) > 1 {
				t.Errorf("T2: %d steps are left, cut %d: the new one is active", len(w.Device.Ops), cut)
			}
		}
		if w.Device.State == api.StateMani || w.Device.State == api.StateBusy {
			w = done(t, w, api.Act{Kind: api.ActTick}, row(34))
			continue
		}
		w = done(t, w, api.Act{Kind: api.ActStep}, row(34))
	}
	if is, _ := active(t, w.Flash); is != row(34) || elder == 0 {
		t.Errorf("T2: %q is active; %d cuts left the elder one", is, elder)
	}
}

// T4: with too many losses it says so, and the elder image stays, though blocks came there.
func TestTooManyLosses(t *testing.T) {
	for _, loss := range []int{api.LossOut, api.LossBack} {
		for from := range 16 {
			w, _ := ended(t, begun(t, row(288)), func(n int) (api.Act, bool) {
				return api.Act{Kind: api.ActStep, Loss: loss}, n >= from && n%2 == 0
			})
			is, _ := active(t, w.Flash)
			if want := (api.Host{Phase: 7, Image: row(288), Tries: 8, Report: 2}); w.Host != want || is != "elder" {
				t.Errorf("T4: loss %d from %d on: %+v, %q is active", loss, from, w.Host, is)
			}
		}
	}
}

// T1: a host forgets what it carried, wherever it is, and begins another file: that one comes there whole.
func TestAnotherFile(t *testing.T) {
	_, acts := ended(t, begun(t, row(70)), plain)
	for at := range acts {
		w := begun(t, row(70))
		for n := range at {
			w = done(t, w, api.Act{Kind: api.ActStep + n%2}, row(70))
		}
		w = done(t, w, api.Act{Kind: api.ActDrop})
		w = done(t, w, api.Act{Kind: api.ActStart, File: file("another")})
		w, _ = ended(t, w, plain, row(70))
		well(t, "another file", w, "another", 0)
	}
}

// next is the next number of a row of them, below n.
func next(r *uint64, n int) int {
	*r = *r*6364136223846793005 + 1442695040888963407
	return int(*r >> 33 % uint64(n))
}

// T1 to T3: acts of all kinds, one behind the other without any plan; done holds them to the theorems.
func TestManyActs(t *testing.T) {
	r := uint64(24)
	changed := 0
	for range 40 {
		w, e := pair.New(holding("elder"), api.Ids{})
		if e != api.OK {
			t.Fatalf("P24.1: error %d", e)
		}
		var images []string
		for range 600 {
			a := api.Act{Kind: []int{0, 1, 1, 1, 1, 1, 2, 2, 2, 2, 2, 2}[next(&r, 12)]}
			if next(&r, 40) == 0 {
				a = api.Act{Kind: 3 + next(&r, 3), Cut: next(&r, 97)}
			}
			if next(&r, 12) == 0 {
				a.Loss = next(&r, 3)
			}
			if image := row(100)[next(&r, 60):][:1+next(&r, 40)]; a.Kind == api.ActStart {
				a.File = file(image)
				images = append(images, image)
			}
			_, before := active(t, w.Flash)
			w = done(t, w, a, images...)
			if _, behind := active(t, w.Flash); behind != before {
				changed++
			}
		}
	}
	if changed < 100 {
		t.Errorf("T1: just %d images came there", changed)
	}
}

// room is memory that is not a text's, but the text lies in it.
type room struct {
	bytes []byte
	was   string
}

// lend is the text in a room of its own, which is kept in rooms.
func lend(rooms *[]room, s string) string {
	b := []byte(s + "spare")
	*rooms = append(*rooms, room{b, string(b)})
	return unsafe.String(&b[0], len(s))
}

// lent is a world, and an act, that lie in memory that is not theirs.
func lent(w api.World, a api.Act) (api.World, api.Act, []room) {
	var rooms []room
	w.Flash, a.File = lend(&rooms, w.Flash), lend(&rooms, a.File)
	w.Host.Image, w.Host.Read = lend(&rooms, w.Host.Image), lend(&rooms, w.Host.Read)
	list := make([]api.Op, 0, len(w.Device.Ops)+3)
	for _, step := range w.Device.Ops {
		step.Text = lend(&rooms, step.Text)
		list = append(list, step)
	}
	w.Device.Ops = list
	return w, a, rooms
}

// apart: do two texts share no memory? One without bytes has none.
func apart(a, b string) bool {
	return a == "" || b == "" || unsafe.StringData(a) != unsafe.StringData(b)
}

// asunder: do two worlds share no memory?
func asunder(a, b api.World) bool {
	for n := range min(len(a.Device.Ops), len(b.Device.Ops)) {
		if &a.Device.Ops[n] == &b.Device.Ops[n] || !apart(a.Device.Ops[n].Text, b.Device.Ops[n].Text) {
			return false
		}
	}
	return apart(a.Flash, b.Flash) && apart(a.Host.Image, b.Host.Image) && apart(a.Host.Read, b.Host.Read)
}

// R4: a world behind an act shares nothing with what was handed in, nor with another answer; what was handed in stays.
func TestSharesNothing(t *testing.T) {
	list := []api.World{whole()}
	for _, x := range turns() {
		list = append(list, api.World{Flash: holding(row(40)), Device: x.device, Host: x.host})
	}
	for _, d := range devices() {
		list = append(list, api.World{Flash: row(768), Device: d, Host: api.Host{Phase: 7, Image: row(40), Read: row(9)}}, api.World{Flash: row(768), Device: d, Host: api.Host{Phase: 3, Image: row(40), Read: row(9)}})
	}
	for _, w := range list {
		for _, a := range fitting() {
			want, e := pair.Do(w, a)
			in, act, rooms := lent(w, a)
			one, _ := pair.Do(in, act)
			two, _ := pair.Do(in, act)
			if !alike(in, w) || slices.ContainsFunc(in.Device.Ops[len(in.Device.Ops):cap(in.Device.Ops)], func(o api.Op) bool { return o != api.Op{} }) {
				t.Errorf("R4: %+v: what was handed in is changed", a)
			}
			if !asunder(one, two) || !asunder(one, in) {
				t.Errorf("R4: %+v: memory is shared", a)
			}
			for _, r := range rooms {
				if string(r.bytes) != r.was {
					t.Errorf("R4: %+v: %q is changed", a, r.was)
				}
				clear(r.bytes)
			}
			clear(in.Device.Ops)
			clear(two.Device.Ops)
			if !alike(one, want) || e != api.OK {
				t.Errorf("R4: %+v: %+v now, want %+v", a, one, want)
			}
		}
	}
}

// R4: a new world shares nothing with its flash, nor with another one.
func TestNewSharesNothing(t *testing.T) {
	var rooms []room
	f := lend(&rooms, row(768))
	one, _ := pair.New(f, api.Ids{})
	two, e := pair.New(f, api.Ids{})
	if !apart(one.Flash, f) || !apart(one.Flash, two.Flash) || string(rooms[0].bytes) != rooms[0].was {
		t.Error("R4: memory is shared, or changed")
	}
	clear(rooms[0].bytes)
	if !alike(one, api.World{Flash: row(768)}) || e != api.OK {
		t.Errorf("R4: %+v now, error %d", one, e)
	}
}

// R5: acts may be done by many at one time, in one world too.
func TestManyAtOneTime(t *testing.T) {
	w, list := whole(), turns()
	var wait sync.WaitGroup
	for range 6 {
		wait.Go(func() {
			for range 20 {
				if got, e := pair.New(w.Flash, w.Ids); !alike(got, api.World{Flash: w.Flash, Ids: w.Ids}) || e != api.OK || !pair.May(w) {
					t.Errorf("R5: %+v, error %d", got, e)
				}
				for _, x := range list {
					in := api.World{Flash: holding(row(40)), Device: x.device, Host: x.host}
					does(t, in, api.Act{Kind: api.ActStep}, api.World{Flash: in.Flash, Device: x.after, Host: x.came})
				}
				does(t, w, api.Act{Kind: api.ActReset}, api.World{Flash: w.Flash, Ids: w.Ids, Host: w.Host})
			}
		})
	}
	wait.Wait()
}
