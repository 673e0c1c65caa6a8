package setup_test

import (
	"math"
	"sync"
	"testing"
	"unsafe"

	"skiff/api"
	"skiff/setup"
)

// wrong are numbers that may be in no place; some are right in their lowest bytes.
func wrong() []int {
	return []int{-1, -2, -256, -65535, -65536, 65536, 65537, 1 << 20, 1 << 31, 1 << 32, 1<<32 + 1, 1<<48 + 3, 1 << 62, math.MinInt, math.MaxInt}
}

// kinds are the first bytes of the requests, code by code.
func kinds() []byte {
	return []byte{33, 33, 161, 161, 33, 161, 33}
}

// text is a request's bytes, written out.
func text(s api.Setup) string {
	return string([]byte{kinds()[s.Code], byte(s.Code), byte(s.Value % 256), byte(s.Value / 256), 0, 0, byte(s.Length), 0})
}

// whole fails unless s may be, is put as want, and comes back from it.
func whole(t *testing.T, s api.Setup, want string) {
	t.Helper()
	if !setup.May(s) {
		t.Errorf("P13.1: May(%+v) = false", s)
	}
	if got, e := setup.Put(s); got != want || e != api.OK {
		t.Errorf("P13.1: Put(%+v) = %q, error %d, want %q", s, got, e, want)
	}
	if got, e := setup.Get(want); got != s || e != api.OK {
		t.Errorf("P13.1: Get(%q) = %+v, error %d, want %+v", want, got, e, s)
	}
}

// unput fails unless s may not be, and is not put.
func unput(t *testing.T, s api.Setup) {
	t.Helper()
	if setup.May(s) {
		t.Errorf("P13.1: May(%+v) = true", s)
	}
	if got, e := setup.Put(s); got != "" || e != api.ErrSetupForm {
		t.Errorf("P13.1: Put(%+v) = %q, error %d, want error %d", s, got, e, api.ErrSetupForm)
	}
}

// ungot fails unless Get tells nothing but its error.
func ungot(t *testing.T, s string) {
	t.Helper()
	if got, e := setup.Get(s); got != (api.Setup{}) || e != api.ErrSetupForm {
		t.Errorf("P13.1: Get(%q) = %+v, error %d, want error %d", s, got, e, api.ErrSetupForm)
	}
}

// P13.1: one of each request, written out.
func TestKnown(t *testing.T) {
	for _, c := range []struct {
		s    api.Setup
		text string
	}{
		{api.Setup{}, "\x21\x00\x00\x00\x00\x00\x00\x00"},
		{api.Setup{Code: api.RequestDetach, Value: 1000}, "\x21\x00\xe8\x03\x00\x00\x00\x00"},
		{api.Setup{Code: api.RequestDnload, Value: 8, Length: 32}, "\x21\x01\x08\x00\x00\x00\x20\x00"},
		{api.Setup{Code: api.RequestDnload, Value: 9}, "\x21\x01\x09\x00\x00\x00\x00\x00"},
		{api.Setup{Code: api.RequestUpload, Value: 0x1234, Length: 32}, "\xa1\x02\x34\x12\x00\x00\x20\x00"},
		{api.Setup{Code: api.RequestGetstatus, Length: 6}, "\xa1\x03\x00\x00\x00\x00\x06\x00"},
		{api.Setup{Code: api.RequestClrstatus}, "\x21\x04\x00\x00\x00\x00\x00\x00"},
		{api.Setup{Code: api.RequestGetstate, Length: 1}, "\xa1\x05\x00\x00\x00\x00\x01\x00"},
		{api.Setup{Code: api.RequestAbort, Value: 65535, Length: 31}, "\x21\x06\xff\xff\x00\x00\x1f\x00"},
	} {
		whole(t, c.s, c.text)
	}
}

// P13.1: every code with every length, and the edges of the values.
func TestEveryCodeAndLength(t *testing.T) {
	for code := range 7 {
		for length := range 33 {
			for _, value := range []int{0, 1, 255, 256, 0x1234, 65534, 65535} {
				s := api.Setup{Code: code, Value: value, Length: length}
				whole(t, s, text(s))
			}
		}
	}
}

// P13.1: every value.
func TestEveryValue(t *testing.T) {
	for value := range 65536 {
		s := api.Setup{Code: value % 7, Value: value, Length: value % 33}
		whole(t, s, text(s))
	}
}

// P13.1: just behind the edges, and far from them, in one place and in all; whatever the others are.
func TestWrongNumbers(t *testing.T) {
	for _, right := range []api.Setup{{}, {Code: 1, Value: 2, Length: 3}, {Code: 6, Value: 65535, Length: 32}} {
		for _, n := range wrong() {
			unput(t, api.Setup{Code: n, Value: right.Value, Length: right.Length})
			unput(t, api.Setup{Code: right.Code, Value: n, Length: right.Length})
			unput(t, api.Setup{Code: right.Code, Value: right.Value, Length: n})
			unput(t, api.Setup{Code: n, Value: n, Length: n})
		}
		for _, n := range []int{7, 8, 32, 33, 161, 255, 256, 257, 65535} {
			unput(t, api.Setup{Code: n, Value: right.Value, Length: right.Length})
		}
		for _, n := range []int{33, 34, 64, 255, 256, 257, 65535} {
			unput(t, api.Setup{Code: right.Code, Value: right.Value, Length: n})
		}
	}
}

// P13.1: every byte in every place of some requests: taken just where another request is put so.
func TestEveryByteInEveryPlace(t *testing.T) {
	for code := range 7 {
		base := text(api.Setup{Code: code, Value: 0x1234, Length: 5})
		for place := range 8 {
			for n := range 256 {
				b := []byte(base)
				b[place] = byte(n)
				is := int(b[1]) < 7 && b[0] == kinds()[b[1]] && b[4] == 0 && b[5] == 0 && b[6] <= 32 && b[7] == 0
				if !is {
					ungot(t, string(b))
					continue
				}
				whole(t, api.Setup{Code: int(b[1]), Value: int(b[2]) + 256*int(b[3]), Length: int(b[6])}, string(b))
			}
		}
	}
}

// P13.1: every kind with every code: just seven of the pairs are put.
func TestEveryKindWithEveryCode(t *testing.T) {
	taken := 0
	for kind := range 256 {
		for code := range 256 {
			s := string([]byte{byte(kind), byte(code), 0, 0, 0, 0, 0, 0})
			if code < 7 && kinds()[code] == byte(kind) {
				whole(t, api.Setup{Code: code}, s)
				taken++
				continue
			}
			ungot(t, s)
		}
	}
	if taken != 7 {
		t.Errorf("%d pairs are taken, want 7", taken)
	}
}

// P13.1: another number of bytes than eight.
func TestOtherSizes(t *testing.T) {
	for code := range 7 {
		full := text(api.Setup{Code: code, Value: 0x0102, Length: 7})
		for n := range 8 {
			ungot(t, full[:n])
			ungot(t, full[n+1:])
		}
		for _, more := range []string{"\x00", "x", "\x00\x00", full, full + full} {
			ungot(t, full+more)
			ungot(t, more[:1]+full)
		}
	}
	ungot(t, string(make([]byte, 8)))
	ungot(t, string(make([]byte, 1<<16)))
}

// R4: what is handed in stays, and what is answered hangs on it no longer.
func TestAnswersAreNew(t *testing.T) {
	b := []byte("\x21\x01\x08\x00\x00\x00\x20\x00")
	told, e := setup.Get(unsafe.String(unsafe.SliceData(b), len(b)))
	want := api.Setup{Code: api.RequestDnload, Value: 8, Length: 32}
	if string(b) != "\x21\x01\x08\x00\x00\x00\x20\x00" || e != api.OK {
		t.Errorf("R4: what was handed in is %q now, error %d", b, e)
	}
	clear(b)
	if told != want {
		t.Errorf("R4: what was answered is %+v now, want %+v", told, want)
	}
	one, _ := setup.Put(want)
	two, _ := setup.Put(want)
	if unsafe.StringData(one) == unsafe.StringData(two) {
		t.Errorf("R4: two answers share their bytes")
	}
}

// R5: one question has one answer, whoever asks at the same time.
func TestManyAtOneTime(t *testing.T) {
	var wait sync.WaitGroup
	for n := range 8 {
		wait.Go(func() {
			s := api.Setup{Code: n % 7, Value: 257 * n, Length: 4 * n}
			for range 200 {
				whole(t, s, text(s))
				unput(t, api.Setup{Code: 7 + n})
				ungot(t, text(s)[:n])
			}
		})
	}
	wait.Wait()
}
