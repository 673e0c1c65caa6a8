package tick_test

import (
	"hash/crc32"
	"math"
	"slices"
	"strings"
	"sync"
	"testing"
	"unsafe"

	"skiff/api"
	"skiff/choose"
	"skiff/device"
	"skiff/download"
	"skiff/image"
	"skiff/nor"
	"skiff/ops"
	"skiff/place"
	"skiff/stage"
	"skiff/tick"
)

// row is so many bytes; no two neighbours are alike.
func row(n int) string {
	b := make([]byte, n)
	for i := range b {
		b[i] = byte(7*i + 3)
	}
	return string(b)
}

// flashes are flashes of all kinds.
func flashes() []string {
	return []string{nor.Blank(), row(768), strings.Repeat("\x00", 768), row(384) + strings.Repeat("\xff", 384)}
}

// steps are so many that may be, of both kinds, at the flash's edges and between; the first one is the one of that number.
func steps(first, n int) []api.Op {
	six := []api.Op{
		{At: 0, Text: "\x5a\x00\xff\x81"}, {Erase: true, At: 672}, {At: 764, Text: "\x0f\xf0\x33\xcc"},
		{Erase: true}, {At: 192, Text: "abcd"}, {Erase: true, At: 288},
	}
	var list []api.Op
	for i := range n {
		list = append(list, six[(first+i)%len(six)])
	}
	return list
}

// same: are they the same device? An empty list and nil are one.
func same(a, b api.Device) bool {
	return a.State == b.State && a.Status == b.Status && a.Next == b.Next && a.Got == b.Got && a.Slot == b.Slot && slices.Equal(a.Ops, b.Ops)
}

// begun is the flash in which so much of a step is done, worked out by hand: of an erasing one bytes, of another one bits.
func begun(f string, o api.Op, much int) string {
	b := []byte(f)
	if o.Erase {
		for at := range much {
			b[o.At+at] = 255
		}
		return string(b)
	}
	for bit := range min(much, 32) {
		if o.Text[bit/8]>>(bit%8)&1 == 0 {
			b[o.At+bit/8] &^= 1 << (bit % 8)
		}
	}
	return string(b)
}

// whole is the flash in which the step is done.
func whole(f string, o api.Op) string {
	return begun(f, o, 96)
}

// ticks fails unless this is what comes of a tick.
func ticks(t *testing.T, what, f string, d api.Device, flash string, want api.Device) {
	t.Helper()
	g, got, e := tick.Step(f, d)
	if g != flash || !same(got, want) || e != api.OK {
		t.Errorf("P18.1: %s: %+v: %+v, error %d, want %+v; is the flash right: %t", what, d, got, e, want, g == flash)
	}
	if !device.May(got) || !nor.May(g) {
		t.Errorf("P18.1: %s: %+v: %+v, or a flash of %d bytes, may not be", what, d, got, len(g))
	}
}

// cuts fails unless this is the flash behind a cut, and the device is a new one.
func cuts(t *testing.T, what, f string, d api.Device, cut int, flash string) {
	t.Helper()
	if g, got, e := tick.Cut(f, d, cut); g != flash || !same(got, api.Device{}) || e != api.OK {
		t.Errorf("P18.2: %s: %+v, cut %d: %+v, error %d; is the flash right: %t", what, d, cut, got, e, g == flash)
	}
}

// unticked fails unless a tick answers nothing but the error.
func unticked(t *testing.T, what, f string, d api.Device) {
	t.Helper()
	if g, got, e := tick.Step(f, d); g != "" || !same(got, api.Device{}) || e != api.ErrTickForm {
		t.Errorf("P18.1: %s: %d bytes, %+v: %d bytes, %+v, error %d", what, len(f), d, len(g), got, e)
	}
}

// uncut fails unless a cut answers nothing but the error.
func uncut(t *testing.T, what, f string, d api.Device, cut int) {
	t.Helper()
	if g, got, e := tick.Cut(f, d, cut); g != "" || !same(got, api.Device{}) || e != api.ErrTickForm {
		t.Errorf("P18.2: %s: %d bytes, %+v, cut %d: %d bytes, %+v, error %d", what, len(f), d, cut, len(g), got, e)
	}
}

// some are cuts, at the edges and between.
func some() []int {
	return []int{0, 1, 7, 8, 9, 31, 32, 33, 48, 95, 96}
}

// bases are devices of all kinds, but for their state and their steps.
func bases() []api.Device {
	return []api.Device{{}, {Status: 3, Next: 5, Got: 160, Slot: 1}, {Status: 6, Next: 16, Got: 288, Slot: 1}, {Next: 1, Got: 1}}
}

// P18.1: a busy device, written out: two steps, a tick each, and no tick more till it is asked.
func TestBusyWrittenOut(t *testing.T) {
	d := api.Device{State: api.StateBusy, Next: 1, Got: 4, Slot: 0, Ops: []api.Op{{Erase: true, At: 192}, {At: 192, Text: "hell"}}}
	f := strings.Repeat("\x00", 768)
	flash := f[:192] + strings.Repeat("\xff", 96) + f[288:]
	want := api.Device{State: api.StateBusy, Next: 1, Got: 4, Slot: 0, Ops: []api.Op{{At: 192, Text: "hell"}}}
	ticks(t, "the first tick", f, d, flash, want)
	f, d = flash, want
	flash = f[:192] + "hell" + f[196:]
	want = api.Device{State: api.StateSync, Next: 1, Got: 4, Slot: 0}
	ticks(t, "the last tick", f, d, flash, want)
	ticks(t, "one tick more", flash, want, flash, want)
}

// P18.1: a device that makes its image the active one, written out: behind the last step it is a new one.
func TestManiWrittenOut(t *testing.T) {
	d := api.Device{State: api.StateMani, Status: 2, Next: 9, Got: 288, Slot: 1, Ops: []api.Op{{At: 24, Text: "abcd"}, {At: 28, Text: "efgh"}}}
	f := nor.Blank()
	flash := f[:24] + "abcd" + f[28:]
	want := api.Device{State: api.StateMani, Status: 2, Next: 9, Got: 288, Slot: 1, Ops: []api.Op{{At: 28, Text: "efgh"}}}
	ticks(t, "the first tick", f, d, flash, want)
	f, d = flash, want
	flash = f[:24] + "abcdefgh" + f[32:]
	ticks(t, "the last tick", f, d, flash, api.Device{State: api.StateIdle, Status: api.StatusOK})
	ticks(t, "one tick more", flash, device.New(), flash, device.New())
}

// P18.1: a step of either kind, the first of few and of many: it is done, it goes, and nothing else turns till it was the last one.
func TestSteps(t *testing.T) {
	for _, f := range flashes() {
		for _, base := range bases() {
			for _, n := range []int{2, 3, 4, 255, 256, 767, 768} {
				for first := range 6 {
					list := steps(first, n)
					for _, state := range []int{api.StateBusy, api.StateMani} {
						d, want := base, base
						d.State, want.State = state, state
						d.Ops, want.Ops = list, list[1:]
						ticks(t, "more steps", f, d, whole(f, list[0]), want)
					}
				}
			}
		}
	}
}

// P18.1: the last step, of every kind and place.
func TestLastStep(t *testing.T) {
	f := row(768)
	for _, base := range bases() {
		lasts(t, f, base, api.Op{Erase: true, At: 96 * base.Next % 768})
		for at := 0; at < 768; at += 4 {
			lasts(t, f, base, api.Op{At: at, Text: row(at + 8)[at/2:][:4]})
		}
		for at := 0; at < 768; at += 96 {
			lasts(t, f, base, api.Op{Erase: true, At: at})
		}
	}
}

// lasts fails unless the device that has but this step left does it and is, if it was busy, waiting to be asked, or else new.
func lasts(t *testing.T, f string, d api.Device, o api.Op) {
	t.Helper()
	d.State, d.Ops = api.StateBusy, []api.Op{o}
	want := d
	want.State, want.Ops = api.StateSync, nil
	ticks(t, "the last step", f, d, whole(f, o), want)
	d.State = api.StateMani
	ticks(t, "the last step", f, d, whole(f, o), api.Device{})
}

// P18.1: no step: the state turns as behind the last one, and the flash stays.
func TestNoStep(t *testing.T) {
	for _, f := range flashes() {
		for _, d := range bases() {
			for _, none := range [][]api.Op{nil, {}} {
				d.State, d.Ops = api.StateBusy, none
				want := d
				want.State = api.StateSync
				ticks(t, "no step", f, d, f, want)
				d.State = api.StateMani
				ticks(t, "no step", f, d, f, api.Device{})
			}
		}
	}
}

// P18.1: in other states a tick does nothing, whatever the steps are.
func TestOtherStates(t *testing.T) {
	for _, f := range flashes() {
		for _, d := range bases() {
			for _, state := range []int{api.StateIdle, api.StateSync, api.StateDown, api.StateManisync, api.StateUp, api.StateError} {
				for _, n := range []int{0, 1, 2, 768} {
					d.State, d.Ops = state, steps(n+state, n)
					ticks(t, "another state", f, d, f, d)
				}
			}
		}
	}
}

// P18.1: a device with as many steps as may be is through with them in so many ticks.
func TestManyTicks(t *testing.T) {
	for _, state := range []int{api.StateBusy, api.StateMani} {
		f, list := row(768), steps(0, 768)
		d := api.Device{State: state, Next: 2, Got: 64, Ops: list}
		for n, o := range list {
			want := api.Device{State: state, Next: 2, Got: 64, Ops: list[n+1:]}
			if n == len(list)-1 && state == api.StateBusy {
				want.State = api.StateSync
			} else if n == len(list)-1 {
				want = api.Device{}
			}
			ticks(t, "one of many", f, d, whole(f, o), want)
			f, d, _ = tick.Step(f, d)
		}
	}
}

// P18.2: cuts, written out: eleven bits of a word, two bytes of a sector.
func TestCutWrittenOut(t *testing.T) {
	for _, state := range []int{api.StateBusy, api.StateMani} {
		d := api.Device{State: state, Status: 1, Next: 4, Got: 128, Slot: 1, Ops: []api.Op{{At: 96, Text: "\x00\x00\x00\x00"}, {At: 0, Text: "abcd"}}}
		f := nor.Blank()
		cuts(t, "a word", f, d, 11, f[:96]+"\x00\xf8"+f[98:])
		d.Ops = []api.Op{{Erase: true, At: 672}, {At: 0, Text: "abcd"}}
		f = strings.Repeat("\x00", 768)
		cuts(t, "a sector", f, d, 2, f[:672]+"\xff\xff"+f[674:])
	}
}

// P18.2: every cut of a step of either kind, of one and of the first of several.
func TestEveryCut(t *testing.T) {
	for _, f := range flashes() {
		for _, d := range bases() {
			for _, state := range []int{api.StateBusy, api.StateMani} {
				for first := range 6 {
					for cut := range 97 {
						d.State, d.Ops = state, steps(first, 1+cut%4)
						cuts(t, "a step", f, d, cut, begun(f, d.Ops[0], cut))
					}
				}
			}
		}
	}
}

// P18.2: at the edges a cut is nothing, or the whole step: a word's 32 bits, a sector's 96 bytes.
func TestCutsEdges(t *testing.T) {
	for _, f := range flashes() {
		for first := range 6 {
			d := api.Device{State: api.StateBusy, Ops: steps(first, 3)}
			cuts(t, "none of it", f, d, 0, f)
			after, _ := ops.Do(f, d.Ops[0])
			cuts(t, "all of it", f, d, api.MaxCut, after)
			if !d.Ops[0].Erase {
				cuts(t, "a word's 32 bits", f, d, 32, after)
			}
		}
	}
}

// P18.2: without steps, or in other states, the flash stays; the device is new all the same.
func TestCutOfNothing(t *testing.T) {
	for _, f := range flashes() {
		for _, d := range bases() {
			for state := range 8 {
				for _, n := range []int{0, 1, 2, 768} {
					d.State, d.Ops = state, steps(n+state, n)
					if n > 0 && (state == api.StateBusy || state == api.StateMani) {
						continue
					}
					for _, cut := range some() {
						cuts(t, "nothing to cut", f, d, cut, f)
					}
				}
			}
		}
	}
}

// rights are devices of every state, with steps and without.
func rights() []api.Device {
	var list []api.Device
	for state := range 8 {
		list = append(list, api.Device{State: state}, api.Device{State: state, Status: 2, Next: 3, Got: 96, Slot: 1, Ops: steps(state, 3)})
	}
	return list
}

// P18.2: cuts that are none; some are right in their lowest bytes.
func TestWrongCuts(t *testing.T) {
	for _, d := range rights() {
		for _, cut := range []int{math.MinInt, math.MinInt + 1, -1 << 32, -256, -96, -2, -1, 97, 98, 128, 255, 256, 257, 288, 65536, 1 << 31, 1 << 32, 1<<32 + 1, 1 << 62, math.MaxInt} {
			uncut(t, "a wrong cut", row(768), d, cut)
			uncut(t, "all wrong", "", api.Device{State: -1}, cut)
		}
	}
}

// P18.1, P18.2: texts that no flash may be.
func TestWrongFlashes(t *testing.T) {
	for _, f := range []string{"", "\xff", row(4), row(96), row(288), row(767), row(769), row(768 + 256), row(1536), strings.Repeat("é", 768)} {
		for _, d := range rights() {
			unticked(t, "a wrong flash", f, d)
			for _, cut := range some() {
				uncut(t, "a wrong flash", f, d, cut)
			}
		}
	}
}

// wrongs are devices that may not be, each for one reason, else as that one.
func wrongs(base api.Device) []api.Device {
	var list []api.Device
	add := func(change func(d *api.Device)) {
		d := base
		change(&d)
		list = append(list, d)
	}
	for _, n := range []int{math.MinInt, -256, -1, 289, 511, 512, 65536, 1 << 32, 1<<32 + 2, math.MaxInt} {
		add(func(d *api.Device) { d.State = n })
		add(func(d *api.Device) { d.Status = n })
		add(func(d *api.Device) { d.Next = n })
		add(func(d *api.Device) { d.Got = n })
		add(func(d *api.Device) { d.Slot = n })
	}
	add(func(d *api.Device) { d.State = 8 })
	add(func(d *api.Device) { d.Status = 7 })
	add(func(d *api.Device) { d.Next = 17 })
	add(func(d *api.Device) { d.Slot = 2 })
	add(func(d *api.Device) { d.Ops = steps(0, 769) })
	add(func(d *api.Device) { d.Ops = append(steps(0, 3), api.Op{}) })
	add(func(d *api.Device) { d.Ops = append([]api.Op{{At: 1, Text: "abcd"}}, steps(0, 3)...) })
	add(func(d *api.Device) { d.Ops = []api.Op{{Erase: true, At: 4}} })
	add(func(d *api.Device) { d.Ops = []api.Op{{At: 768, Text: "abcd"}} })
	return list
}

// P18.1, P18.2: devices that may not be, in every state.
func TestWrongDevices(t *testing.T) {
	for _, base := range rights() {
		for _, d := range wrongs(base) {
			unticked(t, "a wrong device", row(768), d)
			unticked(t, "all wrong", row(767), d)
			for _, cut := range some() {
				uncut(t, "a wrong device", row(768), d, cut)
			}
		}
	}
}

// sumOf is the library's sum.
func sumOf(s string) int {
	return int(crc32.ChecksumIEEE([]byte(s)))
}

// worked ticks a device of this state through its steps, each of them cut first in every way, and answers the flash behind;
// of the active image behind each cut it asks whether it may be.
func worked(t *testing.T, f string, d api.Device, may func(active string) bool) string {
	t.Helper()
	for state, left := d.State, len(d.Ops); d.State == state; left-- {
		if left != len(d.Ops) {
			t.Fatalf("P18.1: %d steps are left, want %d", len(d.Ops), left)
		}
		for cut := range 97 {
			torn, after, e := tick.Cut(f, d, cut)
			if active := activeOf(torn); !may(active) || !same(after, api.Device{}) || e != api.OK {
				t.Fatalf("T2: %+v, cut %d: %q is active, error %d", d, cut, active, e)
			}
		}
		var e api.Errno
		if f, d, e = tick.Step(f, d); e != api.OK {
			t.Fatalf("P18.1: error %d", e)
		}
	}
	return f
}

// activeOf is the active image, or no text.
func activeOf(f string) string {
	active, _ := choose.Active(f)
	carried, _ := image.Of(f, active.Record)
	return carried
}

// T2, P18.1, P18.2: image behind image: behind any cut the active one is the elder one, or, at the end of a carrying, the new one.
func TestCutsOfCarryings(t *testing.T) {
	f, elder := nor.Blank(), ""
	for n := range 11 {
		carried := row(n + 64)[n+64-[]int{32, 5, 31, 1}[n%4]:]
		d, e := download.Take(f, device.New(), 0, carried)
		d.State = api.StateBusy
		f = worked(t, f, d, func(active string) bool { return active == elder })
		r, g := stage.Record(f, d.Slot, d.Got)
		list, h := place.Append(f, r)
		if e != api.OK || g != api.OK || h != api.OK || r.Sum != sumOf(carried) {
			t.Fatalf("P18.1: %+v of %q, errors %d, %d, %d", r, carried, e, g, h)
		}
		d.State, d.Ops = api.StateMani, list
		f = worked(t, f, d, func(active string) bool { return active == elder || active == carried })
		if got := activeOf(f); got != carried {
			t.Fatalf("T2: %q is active, want %q", got, carried)
		}
		elder = carried
	}
}

// copyOf is a device of other memory, its steps' texts too.
func copyOf(d api.Device) api.Device {
	d.Ops = slices.Clone(d.Ops)
	for n := range d.Ops {
		d.Ops[n].Text = strings.Clone(d.Ops[n].Text)
	}
	return d
}

// R4: what is handed in stays, its spare room too; answers share nothing with it, nor with each other.
func TestAnswersAreNew(t *testing.T) {
	for state := range 8 {
		for n := range 4 {
			flash, text := []byte(row(768)), []byte("wordword")
			room := []api.Op{{At: 8, Text: unsafe.String(&text[0], 4)}, {Erase: true, At: 96}, {At: 4, Text: unsafe.String(&text[4], 4)}, {At: 1}, {At: 2}}
			f, kept := unsafe.String(&flash[0], len(flash)), copyOf(api.Device{Ops: room}).Ops
			d := api.Device{State: state, Status: 2, Next: 2, Got: 64, Slot: 1, Ops: room[:n:5]}
			_, one, _ := tick.Step(f, d)
			after, two, _ := tick.Step(f, d)
			torn, three, _ := tick.Cut(f, d, 9)
			wantAfter, wantTorn, want := strings.Clone(after), strings.Clone(torn), copyOf(two)
			clear(one.Ops[:cap(one.Ops)])
			_ = append(one.Ops, api.Op{At: 5})
			_ = append(three.Ops, api.Op{At: 6})
			if !slices.Equal(room, kept) || string(flash) != row(768) || len(d.Ops) != n {
				t.Errorf("R4: state %d, %d steps: what was handed in has changed: %+v", state, n, room)
			}
			clear(flash)
			clear(text)
			clear(room)
			if after != wantAfter || torn != wantTorn || !same(two, want) || !same(three, api.Device{}) {
				t.Errorf("R4: state %d, %d steps: an answer goes with another thing: %+v, want %+v", state, n, two, want)
			}
		}
	}
}

// R5: one question has one answer, whoever asks at the same time.
func TestManyAtOneTime(t *testing.T) {
	shared := api.Device{State: api.StateBusy, Next: 2, Got: 64, Ops: steps(0, 7)}
	left := shared
	left.Ops = steps(1, 6)
	var wait sync.WaitGroup
	for n := range 6 {
		wait.Go(func() {
			f := row(768)
			for range 100 {
				ticks(t, "shared", f, shared, whole(f, shared.Ops[0]), left)
				cuts(t, "shared", f, shared, n, begun(f, shared.Ops[0], n))
				lasts(t, f, api.Device{Next: n}, steps(n, 1)[0])
				unticked(t, "wrong", f[n+1:], shared)
			}
		})
	}
	wait.Wait()
}
