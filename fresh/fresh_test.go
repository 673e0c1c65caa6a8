package fresh_test

import (
	"slices"
	"strings"
	"sync"
	"testing"
	"unsafe"

	"skiff/api"
	"skiff/fresh"
)

// full is a device with something in each field; its steps' texts lie in b.
func full(b []byte) api.Device {
	steps := []api.Op{{Erase: true, At: 96}}
	for at := 0; at+4 <= len(b); at += 4 {
		steps = append(steps, api.Op{At: at, Text: unsafe.String(&b[at], 4)})
	}
	return api.Device{State: api.StateBusy, Status: api.StatusWrite, Next: 5, Got: 160, Slot: 1, Ops: steps}
}

// same: are they the same device? An empty list and nil are one.
func same(a, b api.Device) bool {
	return a.State == b.State && a.Status == b.Status && a.Next == b.Next && a.Got == b.Got && a.Slot == b.Slot && slices.Equal(a.Ops, b.Ops)
}

// A copy is what it is of, field by field.
func TestDevice(t *testing.T) {
	for _, d := range []api.Device{
		{},
		{Ops: []api.Op{}},
		{State: 1}, {Status: 2}, {Next: 3}, {Got: 4}, {Slot: 1}, {Ops: []api.Op{{At: 8, Text: "abcd"}}},
		{State: -1, Status: -2, Next: -3, Got: -4, Slot: -5, Ops: []api.Op{{Erase: true, At: -6, Text: strings.Repeat("x", 9)}, {}}},
		full([]byte("twelve bytes")),
	} {
		if got := fresh.Device(d); !same(got, d) {
			t.Errorf("Device(%+v) = %+v", d, got)
		}
	}
}

// R4: neither list nor text is shared: what becomes of the one is not to be seen in the other.
func TestSharesNothing(t *testing.T) {
	b := []byte("twelve bytes")
	want := full([]byte("twelve bytes"))
	d := full(b)
	one, two := fresh.Device(d), fresh.Device(d)
	for n := range one.Ops {
		one.Ops[n].At, one.Ops[n].Text = 7, "other"
	}
	_ = append(two.Ops[:1], api.Op{Text: "laid"})
	if !same(d, want) {
		t.Errorf("R4: what was handed in is %+v now", d)
	}
	three := fresh.Device(d)
	clear(b)
	clear(d.Ops)
	if !same(three, want) {
		t.Errorf("R4: a copy is %+v now", three)
	}
}

// R4: the spare room of what is handed in stays.
func TestSpareRoomStays(t *testing.T) {
	room := append(full([]byte("abcd")).Ops, api.Op{At: 1}, api.Op{At: 2})
	kept := slices.Clone(room)
	got := fresh.Device(api.Device{Ops: room[:2:4]})
	_ = append(got.Ops, api.Op{At: 3}, api.Op{At: 4})
	if !slices.Equal(room, kept) || len(got.Ops) != 2 {
		t.Errorf("R4: the room is %+v now", room)
	}
}

// A host's copy is what it is of, field by field.
func TestHost(t *testing.T) {
	for _, h := range []api.Host{
		{},
		{Phase: 1}, {Image: "i"}, {Block: 2}, {Again: true}, {Tries: 3}, {Read: "r"}, {Report: 4},
		{Phase: -1, Image: strings.Repeat("i", 5000), Block: -2, Again: true, Tries: -3, Read: strings.Repeat("r", 5000), Report: -4},
	} {
		if got := fresh.Host(h); got != h {
			t.Errorf("Host(%+v) = %+v", h, got)
		}
	}
}

// R4: neither of a host's texts is shared, with what was handed in or with another copy.
func TestHostSharesNothing(t *testing.T) {
	b := []byte("an image, and what was read")
	h := api.Host{Image: unsafe.String(&b[0], 8), Read: unsafe.String(&b[8], len(b)-8)}
	one, two := fresh.Host(h), fresh.Host(h)
	if unsafe.StringData(one.Image) == unsafe.StringData(two.Image) || unsafe.StringData(one.Read) == unsafe.StringData(two.Read) {
		t.Error("R4: two copies share memory")
	}
	if string(b) != "an image, and what was read" {
		t.Errorf("R4: what was handed in is %q now", b)
	}
	clear(b)
	if one != (api.Host{Image: "an image", Read: ", and what was read"}) || two != one {
		t.Errorf("R4: a copy is %+v now", one)
	}
}

// alike: are they the same world?
func alike(a, b api.World) bool {
	return a.Flash == b.Flash && a.Ids == b.Ids && same(a.Device, b.Device) && a.Host == b.Host
}

// A world's copy is what it is of, field by field.
func TestWorld(t *testing.T) {
	for _, w := range []api.World{
		{},
		{Flash: "f"}, {Ids: api.Ids{Vendor: 1}}, {Ids: api.Ids{Product: 2}}, {Ids: api.Ids{Version: 3}}, {Device: full([]byte("abcd"))}, {Host: api.Host{Image: "i", Read: "r"}},
		{Flash: strings.Repeat("f", 5000), Ids: api.Ids{Vendor: -1, Product: -2, Version: -3}, Device: full([]byte("twelve bytes")), Host: api.Host{Phase: -1, Again: true}},
	} {
		if got := fresh.World(w); !alike(got, w) {
			t.Errorf("World(%+v) = %+v", w, got)
		}
	}
}

// R4: nothing of a world is shared, with what was handed in or with another copy.
func TestWorldSharesNothing(t *testing.T) {
	b, steps := []byte("flash"), []byte("twelve bytes")
	near := []byte("an image, and what was read")
	w := api.World{Flash: unsafe.String(&b[0], len(b)), Device: full(steps), Host: api.Host{Image: unsafe.String(&near[0], 8), Read: unsafe.String(&near[8], len(near)-8)}}
	want := api.World{Flash: "flash", Device: full([]byte("twelve bytes")), Host: api.Host{Image: "an image", Read: ", and what was read"}}
	one, two := fresh.World(w), fresh.World(w)
	if unsafe.StringData(one.Flash) == unsafe.StringData(two.Flash) || unsafe.StringData(one.Host.Image) == unsafe.StringData(two.Host.Image) || unsafe.StringData(one.Host.Read) == unsafe.StringData(two.Host.Read) {
		t.Error("R4: two copies share memory")
	}
	clear(two.Device.Ops)
	if !alike(w, want) {
		t.Errorf("R4: what was handed in is %+v now", w)
	}
	clear(b)
	clear(steps)
	clear(near)
	clear(w.Device.Ops)
	if !alike(one, want) {
		t.Errorf("R4: a copy is %+v now", one)
	}
}

// R5: one may be copied by many at one time.
func TestManyAtOneTime(t *testing.T) {
	d := full([]byte("twelve bytes"))
	var wait sync.WaitGroup
	for range 6 {
		wait.Go(func() {
			for range 200 {
				got := fresh.Device(d)
				if !same(got, d) {
					t.Errorf("R5: %+v", got)
				}
				clear(got.Ops)
				if h := fresh.Host(api.Host{Image: "i", Read: "r"}); h != (api.Host{Image: "i", Read: "r"}) {
					t.Errorf("R5: %+v", h)
				}
				if w := fresh.World(api.World{Flash: "f", Device: d}); !alike(w, api.World{Flash: "f", Device: d}) {
					t.Errorf("R5: %+v", w)
				}
			}
		})
	}
	wait.Wait()
}
