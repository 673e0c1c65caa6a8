package device_test

import (
	"math"
	"slices"
	"sync"
	"testing"

	"skiff/api"
	"skiff/device"
)

// wrong are numbers that may be in no place of a device; some are right in their lowest bytes.
func wrong() []int {
	return []int{-1, -2, -16, -17, -255, -256, -288, 289, 290, 511, 512, 768, 769, 65536, 65537, 1 << 31, 1<<31 + 1, 1 << 32, 1<<32 + 1, 1 << 62, math.MinInt, math.MinInt + 1, math.MaxInt}
}

// steps are so many that may be, of both kinds, at the flash's edges and between.
func steps(n int) []api.Op {
	four := []api.Op{{At: 0, Text: "\x00\x00\x00\x00"}, {Erase: true, At: 672}, {At: 764, Text: "\xff\xff\xff\xff"}, {Erase: true}}
	var list []api.Op
	for i := range n {
		list = append(list, four[i%len(four)])
	}
	return list
}

// full is a device with something in each field.
func full() api.Device {
	return api.Device{State: api.StateBusy, Status: api.StatusWrite, Next: 5, Got: 160, Slot: 1, Ops: steps(9)}
}

// bases are devices that may be: nothing in them, something, as much as may be.
func bases() []api.Device {
	return []api.Device{{}, full(), {State: api.StateError, Status: api.StatusStalled, Next: 16, Got: 288, Slot: 1, Ops: steps(768)}}
}

// same: are they the same device? An empty list and nil are one.
func same(a, b api.Device) bool {
	return a.State == b.State && a.Status == b.Status && a.Next == b.Next && a.Got == b.Got && a.Slot == b.Slot && slices.Equal(a.Ops, b.Ops)
}

// fails fails unless d may be, and each status that tells of a fault makes it one that is new but for that, each other an error.
func fails(t *testing.T, d api.Device) {
	t.Helper()
	if !device.May(d) {
		t.Errorf("P16.1: May(%+v) = false", d)
	}
	for status := 1; status <= 6; status++ {
		want := api.Device{State: 7, Status: status}
		if got, e := device.Fail(d, status); !same(got, want) || e != api.OK {
			t.Errorf("P16.1: Fail(%+v, %d) = %+v, error %d, want %+v", d, status, got, e, want)
		}
	}
	for _, status := range append(wrong(), 0, 7, 8, 9, 255, 256, 257) {
		unfailed(t, d, status)
	}
}

// unfailed fails unless nothing but the error is answered.
func unfailed(t *testing.T, d api.Device, status int) {
	t.Helper()
	if got, e := device.Fail(d, status); !same(got, api.Device{}) || e != api.ErrDeviceForm {
		t.Errorf("P16.1: Fail(%+v, %d) = %+v, error %d, want error %d", d, status, got, e, api.ErrDeviceForm)
	}
}

// none fails unless d may not be, and is not made a failed one, whatever the status.
func none(t *testing.T, d api.Device) {
	t.Helper()
	if device.May(d) {
		t.Errorf("P16.1: May(%+v) = true", d)
	}
	for status := -1; status <= 7; status++ {
		unfailed(t, d, status)
	}
}

// P16.1: a new device is idle, well, and has nothing; it may be.
func TestNew(t *testing.T) {
	d := device.New()
	if d.State != api.StateIdle || d.Status != api.StatusOK || d.Next != 0 || d.Got != 0 || d.Slot != 0 || len(d.Ops) != 0 {
		t.Errorf("P16.1: New() = %+v", d)
	}
	fails(t, d)
}

// P16.1: the statuses of a failed device, by name; it may be, and may fail again.
func TestFailed(t *testing.T) {
	for _, d := range bases() {
		for _, status := range []int{api.StatusTarget, api.StatusFile, api.StatusWrite, api.StatusAddress, api.StatusNotdone, api.StatusStalled} {
			got, e := device.Fail(d, status)
			if e != api.OK || got.State != api.StateError || got.Status != status {
				t.Errorf("P16.1: Fail(%+v, %d) = %+v, error %d", d, status, got, e)
			}
			fails(t, got)
		}
		unfailed(t, d, api.StatusOK)
	}
}

// P16.1: every state with every status: neither hangs on the other.
func TestEveryStateAndStatus(t *testing.T) {
	for _, d := range bases() {
		for state := range 8 {
			for status := range 7 {
				d.State, d.Status = state, status
				fails(t, d)
			}
		}
	}
}

// P16.1: every number that each other field may hold, whatever the rest is.
func TestEveryNumber(t *testing.T) {
	for _, base := range bases() {
		for next := range 17 {
			d := base
			d.Next = next
			fails(t, d)
		}
		for got := range 289 {
			d := base
			d.Got = got
			fails(t, d)
		}
		for slot := range 2 {
			d := base
			d.Slot = slot
			fails(t, d)
		}
	}
}

// P16.1: just behind the edge of each field, and on to that of the widest one.
func TestBehindEdges(t *testing.T) {
	for _, base := range bases() {
		for _, c := range []struct {
			first int
			with  func(d *api.Device, n int)
		}{
			{8, func(d *api.Device, n int) { d.State = n }},
			{7, func(d *api.Device, n int) { d.Status = n }},
			{17, func(d *api.Device, n int) { d.Next = n }},
			{289, func(d *api.Device, n int) { d.Got = n }},
			{2, func(d *api.Device, n int) { d.Slot = n }},
		} {
			for n := c.first; n < 300; n++ {
				d := base
				c.with(&d, n)
				none(t, d)
			}
			for _, n := range wrong() {
				d := base
				c.with(&d, n)
				none(t, d)
			}
		}
	}
}

// P16.1: steps that may not be, in each place of a list of those that may.
func TestWrongSteps(t *testing.T) {
	for _, o := range []api.Op{
		{},
		{Text: "abc"},
		{Text: "abcde"},
		{At: 1, Text: "abcd"},
		{At: -4, Text: "abcd"},
		{At: 768, Text: "abcd"},
		{At: math.MinInt, Text: "abcd"},
		{Erase: true, Text: "abcd"},
		{Erase: true, At: 4},
		{Erase: true, At: 95},
		{Erase: true, At: -96},
		{Erase: true, At: 768},
		{Erase: true, At: math.MaxInt},
	} {
		for _, base := range bases() {
			base.Ops = []api.Op{o}
			none(t, base)
			for place := range 9 {
				base.Ops = steps(9)
				base.Ops[place] = o
				none(t, base)
			}
			base.Ops = append(steps(767), o)
			none(t, base)
		}
	}
}

// P16.1: every step that may be, of a few texts.
func TestEveryStep(t *testing.T) {
	for at := 0; at < 768; at += 4 {
		for _, text := range []string{"\x00\x00\x00\x00", "abcd", "\xff\xff\xff\xff"} {
			fails(t, api.Device{Ops: []api.Op{{At: at, Text: text}}})
		}
	}
	for at := 0; at < 768; at += 96 {
		fails(t, api.Device{Ops: []api.Op{{Erase: true, At: at}}})
	}
}

// P16.1: how many steps: at most as many as the flash has bytes.
func TestHowManySteps(t *testing.T) {
	for _, d := range bases() {
		for _, n := range []int{0, 1, 2, 191, 192, 193, 255, 256, 288, 289, 766, 767, 768} {
			d.Ops = steps(n)
			fails(t, d)
		}
		for _, n := range []int{769, 770, 1024, 1536, 65536, 65537} {
			d.Ops = steps(n)
			none(t, d)
		}
		d.Ops = []api.Op{}
		fails(t, d)
	}
}

// P16.1: several faults at one time.
func TestAllWrong(t *testing.T) {
	for _, n := range wrong() {
		none(t, api.Device{State: n, Status: n, Next: n, Got: n, Slot: n, Ops: make([]api.Op, 769)})
		unfailed(t, api.Device{State: n}, n)
	}
}

// R4: what is handed in stays, its spare room too.
func TestArgumentsStay(t *testing.T) {
	d := full()
	room := append(slices.Clone(d.Ops), steps(3)...)
	kept := slices.Clone(room)
	d.Ops = room[:9:12]
	device.May(d)
	failed, _ := device.Fail(d, api.StatusNotdone)
	if !slices.Equal(room, kept) || len(d.Ops) != 9 || !same(d, full()) {
		t.Errorf("R4: what was handed in is %+v now, with room %+v", d, room)
	}
	clear(room)
	if !same(failed, api.Device{State: api.StateError, Status: api.StatusNotdone}) {
		t.Errorf("R4: what was answered is %+v now", failed)
	}
}

// R4: two answers share no memory: steps that are laid to one are not the other's.
func TestAnswersAreNew(t *testing.T) {
	one, two := device.New(), device.New()
	one.Ops = append(one.Ops, steps(1)...)
	two.Ops = append(two.Ops, steps(2)[1])
	three, _ := device.Fail(one, api.StatusFile)
	four, _ := device.Fail(one, api.StatusFile)
	three.Ops = append(three.Ops, steps(1)...)
	four.Ops = append(four.Ops, steps(2)[1])
	for _, d := range []api.Device{one, three} {
		if !slices.Equal(d.Ops, steps(1)) {
			t.Errorf("R4: an answer's steps are %+v now", d.Ops)
		}
	}
	if !same(device.New(), api.Device{}) {
		t.Errorf("R4: New() = %+v now", device.New())
	}
}

// R5: one question has one answer, whoever asks at the same time.
func TestManyAtOneTime(t *testing.T) {
	shared := full()
	var wait sync.WaitGroup
	for n := range 6 {
		wait.Go(func() {
			d := api.Device{State: n, Status: n, Next: n, Got: n, Ops: steps(n)}
			for range 200 {
				fails(t, d)
				fails(t, shared)
				none(t, api.Device{State: 8 + n})
				if got := device.New(); !same(got, api.Device{}) {
					t.Errorf("P16.1: New() = %+v", got)
				}
			}
		})
	}
	wait.Wait()
}
