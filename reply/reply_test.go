package reply_test

import (
	"hash/crc32"
	"math"
	"strings"
	"sync"
	"testing"
	"unsafe"

	"skiff/api"
	"skiff/choose"
	"skiff/control"
	"skiff/device"
	"skiff/host"
	"skiff/image"
	"skiff/nor"
	"skiff/reply"
	"skiff/tick"
)

// row is so many bytes; no two neighbours are alike, and no two blocks of it.
func row(n int) string {
	b := make([]byte, n)
	for i := range b {
		b[i] = byte(7*i + 3 + i/256)
	}
	return string(b)
}

// told is an answer's bytes worked out by hand.
func told(state int) string {
	return string([]byte{0, 0, 0, 0, byte(state), 0})
}

// busy are the phases in which a host carries something.
func busy() []int {
	return []int{api.PhaseClear, api.PhaseSend, api.PhasePoll, api.PhaseEnd, api.PhaseWait, api.PhaseRead}
}

// sizes are images' sizes, those about whole blocks among them.
func sizes() []int {
	return []int{1, 31, 32, 33, 63, 64, 65, 256, 257, 287, 288}
}

// pieces is how many blocks so many bytes are.
func pieces(size int) int {
	n := size / 32
	if size%32 != 0 {
		n++
	}
	return n
}

// wrongs are hosts that may not be, each for one reason.
func wrongs() []api.Host {
	list := []api.Host{{Phase: -1, Image: "a"}, {Phase: 8, Image: "a"}, {Phase: math.MinInt, Image: "a"}, {Phase: math.MaxInt, Image: "a"}}
	for _, phase := range busy() {
		ok := api.Host{Phase: phase, Image: row(65), Block: 1}
		for _, change := range []func(*api.Host){
			func(h *api.Host) { h.Report = -1 },
			func(h *api.Host) { h.Report = 4 },
			func(h *api.Host) { h.Image, h.Block = "", 0 },
			func(h *api.Host) { h.Image = row(289) },
			func(h *api.Host) { h.Block = -1 },
			func(h *api.Host) { h.Block = 4 },
			func(h *api.Host) { h.Block = math.MaxInt },
			func(h *api.Host) { h.Tries = -1 },
			func(h *api.Host) { h.Tries = 9 },
			func(h *api.Host) { h.Tries = math.MaxInt },
			func(h *api.Host) { h.Tries = math.MinInt },
			func(h *api.Host) { h.Read = row(321) },
		} {
			h := ok
			change(&h)
			list = append(list, h)
		}
	}
	return list
}

// replies are some of each kind.
func replies() []api.Reply {
	list := []api.Reply{{}, {Lost: true}, {Stall: true}, {Lost: true, Stall: true, Text: told(0)}, {Stall: true, Text: told(0)}, {Text: row(32)}, {Text: row(33)}, {Text: row(5)}}
	for state := range 8 {
		list = append(list, api.Reply{Text: told(state)})
	}
	return list
}

// takes fails unless the host is this behind the reply.
func takes(t *testing.T, h api.Host, r api.Reply, want api.Host) {
	t.Helper()
	got, e := reply.Take(h, r)
	if got != want || e != api.OK || !host.May(got) {
		t.Errorf("P23.1: %+v, %+v: %+v, error %d, want %+v", h, r, got, e, want)
	}
}

// fails fails unless something went wrong by the reply: the host is want with one more try; at its ninth it is done.
func fails(t *testing.T, h api.Host, r api.Reply, want api.Host) {
	t.Helper()
	for tries := range 8 {
		h.Tries, want.Tries = tries, tries+1
		takes(t, h, r, want)
	}
	h.Tries = 8
	takes(t, h, r, api.Host{Phase: 7, Image: h.Image, Tries: 8, Report: 2})
}

// restarts fails unless the reply makes the host begin anew.
func restarts(t *testing.T, h api.Host, r api.Reply) {
	t.Helper()
	fails(t, h, r, api.Host{Phase: 1, Image: h.Image, Report: h.Report})
}

// all are the hosts of a phase that may be, so far as what they make of a reply could hang on it; Tries is 0.
func all(phase int, with func(api.Host)) {
	for _, size := range sizes() {
		for block := range pieces(size) + 1 {
			for _, again := range []bool{false, true} {
				for _, rest := range []api.Host{{}, {Report: 1}, {Read: "!"}, {Read: "!!"}, {Read: row(min(32*block, size))}, {Read: row(320), Report: 2}} {
					h := rest
					h.Phase, h.Image, h.Block, h.Again = phase, row(size), block, again
					with(h)
				}
			}
		}
	}
}

// noAnswers are texts that tell of no status.
func noAnswers() []string {
	return []string{
		"", "\x00", "\x00\x00\x00\x00\x00", "\x00\x00\x00\x00\x00\x00\x00", row(6), row(32), strings.Repeat("\x00", 5000),
		"\x07\x00\x00\x00\x00\x00", "\xff\x00\x00\x00\x00\x00", "\x00\x00\x01\x00\x00\x00", "\x00\x00\x00\x01\x00\x00", "\x00\x00\x00\x00\x08\x00", "\x00\x00\x00\x00\xff\x00", "\x00\x00\x00\x00\x00\x01",
		"\x00\x00\x00\x00\x03", "\x00\x00\x00\x00\x03\x00\x00", "\x03",
	}
}

// P23.1, R2: a host that may not be takes nothing, whatever the reply is.
func TestWrongHosts(t *testing.T) {
	for n, h := range wrongs() {
		if host.May(h) {
			t.Errorf("P23.1: row %d: %+v may be", n, h)
		}
		for _, r := range replies() {
			if got, e := reply.Take(h, r); got != (api.Host{}) || e != 2300 {
				t.Errorf("P23.1: row %d: %+v: %+v, error %d", n, h, got, e)
			}
		}
	}
}

// P23.1: a host that carries nothing, yet or any more, takes nothing.
func TestHostsThatCarryNothing(t *testing.T) {
	list := []api.Host{{}, {Phase: 7}, {Phase: 7, Report: 3}, {Phase: 7, Image: row(40), Report: 1}, {Phase: 7, Image: row(40), Tries: 8, Report: 2}}
	for _, phase := range []int{0, 7} {
		all(phase, func(h api.Host) { list = append(list, h) })
	}
	for _, h := range list {
		if !host.May(h) {
			t.Errorf("P23.1: %+v may not be", h)
		}
		for _, r := range replies() {
			if got, e := reply.Take(h, r); got != (api.Host{}) || e != 2300 {
				t.Errorf("P23.1: %+v: %+v, error %d", h, got, e)
			}
		}
	}
}

// losses are replies that are lost; what else they hold is nothing to the host.
func losses() []api.Reply {
	return []api.Reply{{Lost: true}, {Lost: true, Stall: true}, {Lost: true, Text: told(0)}, {Lost: true, Stall: true, Text: told(3)}, {Lost: true, Text: row(32)}, {Lost: true, Text: row(40)}}
}

// P23.1: nothing came back: each phase has its own way on.
func TestLost(t *testing.T) {
	for _, phase := range busy() {
		all(phase, func(h api.Host) {
			want := h
			switch phase {
			case 1:
				want.Block, want.Again, want.Read = 0, false, ""
			case 2:
				want.Phase, want.Again = 3, true
			case 4:
				want.Phase, want.Again = 5, true
			case 6:
				want.Phase, want.Block, want.Again, want.Read = 1, 1, true, "!"
			}
			for _, r := range losses() {
				fails(t, h, r, want)
			}
		})
	}
}

// P23.1: a stall makes it begin anew, whatever its bytes are.
func TestStall(t *testing.T) {
	for _, phase := range busy() {
		all(phase, func(h api.Host) {
			for _, text := range []string{"", told(0), told(3), row(32), row(40), h.Image} {
				restarts(t, h, api.Reply{Stall: true, Text: text})
			}
		})
	}
}

// P23.1: behind eight tries the next one that goes wrong is the last: what stays is the image.
func TestTries(t *testing.T) {
	for _, phase := range busy() {
		h := api.Host{Phase: phase, Image: row(40), Block: 1, Again: true, Tries: 8, Read: "some"}
		want := api.Host{Phase: 7, Image: row(40), Tries: 8, Report: 2}
		takes(t, h, api.Reply{Lost: true}, want)
		takes(t, h, api.Reply{Stall: true}, want)
		h.Tries, want = 7, api.Host{Phase: 1, Image: row(40), Tries: 8}
		takes(t, h, api.Reply{Stall: true}, want)
	}
}

// P23.1: what was to be cleared, or left off, is; the reply's bytes are nothing to it.
func TestCleared(t *testing.T) {
	all(1, func(h api.Host) {
		if !h.Again {
			return
		}
		want := h
		want.Block, want.Again, want.Read = 0, false, ""
		if h.Read == "!" {
			want.Phase = 5
		}
		for _, text := range append(noAnswers(), told(0), told(2), told(7)) {
			for _, tries := range []int{0, 3, 8} {
				h.Tries, want.Tries = tries, tries
				takes(t, h, api.Reply{Text: text}, want)
			}
		}
	})
}

// P23.1: ahead of a carrying the host looks how the device is.
func TestLooked(t *testing.T) {
	all(1, func(h api.Host) {
		if h.Again {
			return
		}
		for state := range 8 {
			want := h
			switch state {
			case 0:
				want.Phase, want.Block = 2, 0
			case 7:
				want.Again, want.Block = true, 0
			case 3, 6:
				want.Again, want.Block = true, 1
			}
			takes(t, h, api.Reply{Text: told(state)}, want)
			h.Tries, want.Tries = 8, 8
			takes(t, h, api.Reply{Text: told(state)}, want)
			h.Tries = 0
		}
		for _, text := range noAnswers() {
			restarts(t, h, api.Reply{Text: text})
		}
	})
}

// P23.1: a block came there, or the image's end did; the reply's bytes are nothing to it.
func TestSentAndEnded(t *testing.T) {
	for _, phase := range []int{2, 4} {
		all(phase, func(h api.Host) {
			want := h
			want.Phase, want.Again = phase+1, false
			for _, text := range append(noAnswers(), told(0), told(7)) {
				for _, tries := range []int{0, 8} {
					h.Tries, want.Tries = tries, tries
					takes(t, h, api.Reply{Text: text}, want)
				}
			}
		})
	}
}

// P23.1: behind a block the host goes on, sends it once more, waits, or begins anew.
func TestPolled(t *testing.T) {
	all(3, func(h api.Host) {
		n := pieces(len(h.Image))
		for state := range 8 {
			r, want := api.Reply{Text: told(state)}, h
			switch {
			case state == 1 || state == 2:
				takes(t, h, r, want)
			case state == 3 && h.Again, state == 0 && h.Again && h.Block == 0:
				want.Phase, want.Again = 2, false
				takes(t, h, r, want)
			case state == 3 && h.Block >= n-1:
				want.Phase, want.Block = 4, n
				takes(t, h, r, want)
			case state == 3:
				want.Phase, want.Block = 2, h.Block+1
				takes(t, h, r, want)
			default:
				restarts(t, h, r)
			}
		}
		for _, text := range noAnswers() {
			restarts(t, h, api.Reply{Text: text})
		}
	})
}

// P23.1: behind the image's end the host reads back, ends it once more, waits, or begins anew.
func TestWaited(t *testing.T) {
	all(5, func(h api.Host) {
		for state := range 8 {
			r, want := api.Reply{Text: told(state)}, h
			switch {
			case state == 0:
				want.Phase, want.Block, want.Again, want.Read = 6, 0, false, ""
				takes(t, h, r, want)
			case state == 3 && h.Again:
				want.Phase, want.Again = 4, false
				takes(t, h, r, want)
			case state == 4 || state == 5:
				takes(t, h, r, want)
			default:
				restarts(t, h, r)
			}
		}
		for _, text := range noAnswers() {
			restarts(t, h, api.Reply{Text: text})
		}
	})
}

// P23.1: of an answer just the state counts; its status and its ticks may be any.
func TestAnyStatusAndTicks(t *testing.T) {
	for status := range 7 {
		for _, ticks := range []int{0, 1, 255} {
			r := api.Reply{Text: string([]byte{byte(status), byte(ticks), 0, 0, 3, 0})}
			takes(t, api.Host{Phase: 3, Image: row(40)}, r, api.Host{Phase: 2, Image: row(40), Block: 1})
			takes(t, api.Host{Phase: 5, Image: row(40), Again: true}, r, api.Host{Phase: 4, Image: row(40)})
			takes(t, api.Host{Phase: 1, Image: row(40)}, r, api.Host{Phase: 1, Image: row(40), Block: 1, Again: true})
		}
	}
}

// P23.1: blocks that are read back, one behind the other, up to the image's end.
func TestReadBack(t *testing.T) {
	for size := 1; size <= 288; size++ {
		h := api.Host{Phase: 6, Image: row(size), Tries: 3}
		for h.Block < size/32 {
			want := h
			want.Block++
			want.Read = row(32 * want.Block)
			takes(t, h, api.Reply{Text: row(size)[len(h.Read):len(want.Read)]}, want)
			h = want
		}
		last := row(size)[len(h.Read):]
		takes(t, h, api.Reply{Text: last}, api.Host{Phase: 7, Image: row(size), Tries: 3, Report: 1})
		h.Tries = 0
		restarts(t, h, api.Reply{Text: last + "x"})
		restarts(t, h, api.Reply{Text: "x" + last})
		if last != "" {
			restarts(t, h, api.Reply{})
			restarts(t, h, api.Reply{Text: last[1:]})
			b := []byte(last)
			b[len(b)-1] ^= 1
			restarts(t, h, api.Reply{Text: string(b)})
		}
	}
}

// P23.1: too much of a block, too much of an image, too many blocks.
func TestReadTooMuch(t *testing.T) {
	all(6, func(h api.Host) {
		for _, size := range []int{33, 34, 64, 5000} {
			restarts(t, h, api.Reply{Text: row(size)})
		}
		text := row(400)[min(len(h.Read), 368):][:32]
		if len(h.Read)+32 > len(h.Image) || h.Block == pieces(len(h.Image)) {
			restarts(t, h, api.Reply{Text: text})
			return
		}
		want := h
		want.Read, want.Block = h.Read+text, h.Block+1
		takes(t, h, api.Reply{Text: text}, want)
	})
}

// P23.1: whole blocks go on though they are other ones; it is the end at which the host holds all against its image.
func TestReadAnotherImage(t *testing.T) {
	h := api.Host{Phase: 6, Image: row(64)}
	other := strings.Repeat("o", 32)
	takes(t, h, api.Reply{Text: other}, api.Host{Phase: 6, Image: row(64), Block: 1, Read: other})
	h.Block, h.Read = 1, other
	takes(t, h, api.Reply{Text: row(64)[32:]}, api.Host{Phase: 6, Image: row(64), Block: 2, Read: other + row(64)[32:]})
	h.Block, h.Read = 2, other+row(64)[32:]
	restarts(t, h, api.Reply{})
	h.Read = row(64)
	takes(t, h, api.Reply{}, api.Host{Phase: 7, Image: row(64), Report: 1})
}

// P23.1: what is read is good whichever block the host holds; Again and Tries stay.
func TestReadGood(t *testing.T) {
	all(6, func(h api.Host) {
		whole := len(h.Image) / 32 * 32
		h.Read, h.Tries = h.Image[:whole], 8
		takes(t, h, api.Reply{Text: h.Image[whole:]}, api.Host{Phase: 7, Image: h.Image, Again: h.Again, Tries: 8, Report: 1})
	})
}

// summed is a text with its sum behind it, the lowest byte first.
func summed(s string) string {
	x := crc32.ChecksumIEEE([]byte(s))
	return s + string([]byte{byte(x), byte(x >> 8), byte(x >> 16), byte(x >> 24)})
}

// file is a file's bytes worked out by hand; it is for any device.
func file(image string) string {
	return summed(image + "\xff\xff\xff\xff\xff\xff\x00\x01UFD\x10")
}

// wire is a host and a device with a flash, and how many replies were asked for.
type wire struct {
	flash string
	far   api.Device
	near  api.Host
	asked int
}

// begun is a wire whose host is to carry this, upon this flash.
func begun(t *testing.T, flash, image string) wire {
	t.Helper()
	h, e := host.Start(file(image), api.Ids{})
	if e != api.OK || h.Phase != api.PhaseClear {
		t.Fatalf("T4: %+v, error %d", h, e)
	}
	return wire{flash: flash, far: device.New(), near: h}
}

// step is a wire behind one request; out and back tell whether it is lost on its way there, or what comes of it on its way back.
func (w wire) step(t *testing.T, out, back bool) wire {
	t.Helper()
	setup, data, e := host.Asks(w.near)
	if e != api.OK {
		t.Fatalf("T4: %+v: error %d", w.near, e)
	}
	r := api.Reply{Lost: true}
	if !out {
		var came api.Reply
		w.far, came, e = control.Handle(w.flash, w.far, setup, data)
		if e != api.OK {
			t.Fatalf("T4: %+v: error %d", w.far, e)
		}
		if !back {
			r = came
		}
	}
	w.near, e = reply.Take(w.near, r)
	if e != api.OK {
		t.Fatalf("T4: %+v: error %d", w.near, e)
	}
	w.asked++
	return w
}

// carried is a wire whose host is done, with a tick behind each request; lost tells of each, from 0 on, which way it is lost, if at all.
func carried(t *testing.T, w wire, lost func(n int) (out, back bool)) wire {
	t.Helper()
	for w.near.Phase != api.PhaseDone {
		if w.asked > 2000 {
			t.Fatalf("T4: no end: %+v, %+v", w.near, w.far)
		}
		out, back := lost(w.asked)
		w = w.step(t, out, back)
		var e api.Errno
		if w.flash, w.far, e = tick.Step(w.flash, w.far); e != api.OK {
			t.Fatalf("T4: error %d", e)
		}
	}
	return w
}

// none: nothing is lost.
func none(int) (bool, bool) {
	return false, false
}

// active is the image that is active in a flash.
func active(t *testing.T, flash string) string {
	t.Helper()
	place, e := choose.Active(flash)
	if e != api.OK {
		t.Fatalf("T1: error %d", e)
	}
	of, e := image.Of(flash, place.Record)
	if e != api.OK {
		t.Fatalf("T1: error %d", e)
	}
	return of
}

// good fails unless the carrying ended well, with so many tries at most.
func good(t *testing.T, w wire, image string, tries int) {
	t.Helper()
	want := api.Host{Phase: 7, Image: image, Tries: w.near.Tries, Report: 1}
	if w.near != want || w.near.Tries > tries || active(t, w.flash) != image {
		t.Errorf("T3: %+v, %d requests", w.near, w.asked)
	}
}

// T3, T4: with no loss it ends well, whatever the image's size; upon what one carrying left the next one begins.
func TestAWholeCarrying(t *testing.T) {
	flash := nor.Blank()
	for _, size := range sizes() {
		w := carried(t, begun(t, flash, row(size)), none)
		good(t, w, row(size), 0)
		flash = w.flash
	}
}

// T3, T4: with one loss, whichever it is and wherever, it ends well.
func TestOneLoss(t *testing.T) {
	for _, size := range []int{1, 32, 33, 64, 288} {
		whole := carried(t, begun(t, nor.Blank(), row(size)), none).asked
		for at := range whole {
			for _, out := range []bool{false, true} {
				w := carried(t, begun(t, nor.Blank(), row(size)), func(n int) (bool, bool) { return n == at && out, n == at && !out })
				good(t, w, row(size), 2)
			}
		}
	}
}

// T3, T4: so it does with any two, upon a flash that holds an elder image.
func TestTwoLosses(t *testing.T) {
	elder := carried(t, begun(t, nor.Blank(), "elder"), none).flash
	whole := carried(t, begun(t, elder, row(34)), none).asked
	for one := range whole {
		for two := range one {
			for ways := range 4 {
				w := carried(t, begun(t, elder, row(34)), func(n int) (bool, bool) {
					out := n == one && ways&1 != 0 || n == two && ways&2 != 0
					return out, (n == one || n == two) && !out
				})
				good(t, w, row(34), 4)
			}
		}
	}
}

// T4: with too many it says so, and that is of no harm to the elder image.
func TestTooManyLosses(t *testing.T) {
	elder := carried(t, begun(t, nor.Blank(), "elder"), none).flash
	for at := range 12 {
		w := carried(t, begun(t, elder, row(288)), func(n int) (bool, bool) { return n >= at, false })
		if want := (api.Host{Phase: 7, Image: row(288), Tries: 8, Report: 2}); w.near != want || w.asked != at+9 || active(t, w.flash) != "elder" {
			t.Errorf("T4: lost from %d on: %+v, %d requests", at, w.near, w.asked)
		}
	}
}

// T4: whatever the device was about, or had failed by, the carrying begins once that is left off.
func TestUponAnyDevice(t *testing.T) {
	for _, d := range []api.Device{
		{State: api.StateError, Status: api.StatusStalled},
		{State: api.StateDown, Next: 2, Got: 64},
		{State: api.StateSync, Next: 1, Got: 4, Ops: []api.Op{{At: 192, Text: "left"}}},
		{State: api.StateBusy, Next: 1, Got: 4, Ops: []api.Op{{Erase: true, At: 192}, {At: 192, Text: "left"}}},
		{State: api.StateUp, Next: 1},
	} {
		w := begun(t, nor.Blank(), row(70))
		w.far = d
		good(t, carried(t, w, none), row(70), 0)
	}
}

// T1, T3: a device that holds another image in the end isn't good to the host.
func TestAnotherImage(t *testing.T) {
	w := begun(t, nor.Blank(), row(40))
	for w.near.Phase != api.PhaseRead {
		w = w.step(t, false, false)
		w.flash, w.far, _ = tick.Step(w.flash, w.far)
	}
	w.flash = carried(t, begun(t, w.flash, row(41)), none).flash
	for w.near.Phase == api.PhaseRead {
		w = w.step(t, false, false)
	}
	if want := (api.Host{Phase: 1, Image: row(40), Tries: 1}); w.near != want {
		t.Errorf("T3: %+v", w.near)
	}
	good(t, carried(t, w, none), row(40), 1)
}

// lent is a host, and a reply, whose texts lie in memory that is not theirs.
func lent(h api.Host, r api.Reply) (api.Host, api.Reply, [][]byte) {
	var rooms [][]byte
	lend := func(s string) string {
		b := []byte(s + "spare")
		rooms = append(rooms, b)
		return unsafe.String(&b[0], len(s))
	}
	h.Image, h.Read, r.Text = lend(h.Image), lend(h.Read), lend(r.Text)
	return h, r, rooms
}

// apart: do two texts share no memory? One without bytes has none.
func apart(a, b string) bool {
	return a == "" || b == "" || unsafe.StringData(a) != unsafe.StringData(b)
}

// R4: a host's texts share nothing with what was handed in, nor with another answer's; what was handed in stays.
func TestSharesNothing(t *testing.T) {
	for _, phase := range busy() {
		for _, h := range []api.Host{
			{Phase: phase, Image: row(40), Block: 1, Tries: 2, Read: row(32)},
			{Phase: phase, Image: row(64), Tries: 8, Again: true},
			{Phase: phase, Image: "a", Read: "!"},
		} {
			for _, r := range replies() {
				want, e := reply.Take(h, r)
				near, came, rooms := lent(h, r)
				one, _ := reply.Take(near, came)
				two, _ := reply.Take(near, came)
				if string(rooms[0]) != h.Image+"spare" || string(rooms[1]) != h.Read+"spare" || string(rooms[2]) != r.Text+"spare" {
					t.Errorf("R4: %+v, %+v: changed", h, r)
				}
				if !apart(one.Image, two.Image) || !apart(one.Read, two.Read) || !apart(one.Image, one.Read) {
					t.Errorf("R4: %+v, %+v: two answers share memory", h, r)
				}
				for _, room := range rooms {
					clear(room)
				}
				if one != want || two != want || e != api.OK {
					t.Errorf("R4: %+v, %+v: %+v now, want %+v", h, r, one, want)
				}
			}
		}
	}
}

// R5: replies may be taken by many at one time.
func TestManyAtOneTime(t *testing.T) {
	var wait sync.WaitGroup
	for range 6 {
		wait.Go(func() {
			for range 50 {
				h := api.Host{Phase: api.PhaseRead, Image: row(40), Block: 1, Read: row(32)}
				takes(t, h, api.Reply{Text: row(40)[32:]}, api.Host{Phase: 7, Image: row(40), Report: 1})
				fails(t, h, api.Reply{Lost: true}, api.Host{Phase: 1, Image: row(40), Block: 1, Again: true, Read: "!"})
			}
		})
	}
	wait.Wait()
}
