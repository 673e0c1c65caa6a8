package answer_test

import (
	"math"
	"sync"
	"testing"
	"unsafe"

	"skiff/answer"
	"skiff/api"
)

// wrong are numbers that may be in no place; some are right in their lowest bytes.
func wrong() []int {
	return []int{-1, -2, -255, -256, -65536, 256, 257, 511, 512, 65535, 65536, 65537, 1 << 24, 1<<24 + 1, 1 << 31, 1 << 32, 1<<32 + 1, 1<<48 + 3, 1 << 62, math.MinInt, math.MinInt + 1, math.MaxInt}
}

// text is an answer's bytes, written out.
func text(a api.Answer) string {
	return string([]byte{byte(a.Status), byte(a.Ticks), 0, 0, byte(a.State), 0})
}

// whole fails unless a may be, is put as want, and comes back from it.
func whole(t *testing.T, a api.Answer, want string) {
	t.Helper()
	if !answer.May(a) {
		t.Errorf("P14.1: May(%+v) = false", a)
	}
	if got, e := answer.Put(a); got != want || e != api.OK {
		t.Errorf("P14.1: Put(%+v) = %q, error %d, want %q", a, got, e, want)
	}
	if got, e := answer.Get(want); got != a || e != api.OK {
		t.Errorf("P14.1: Get(%q) = %+v, error %d, want %+v", want, got, e, a)
	}
}

// unput fails unless a may not be, and is not put.
func unput(t *testing.T, a api.Answer) {
	t.Helper()
	if answer.May(a) {
		t.Errorf("P14.1: May(%+v) = true", a)
	}
	if got, e := answer.Put(a); got != "" || e != api.ErrAnswerForm {
		t.Errorf("P14.1: Put(%+v) = %q, error %d, want error %d", a, got, e, api.ErrAnswerForm)
	}
}

// ungot fails unless Get tells nothing but its error.
func ungot(t *testing.T, s string) {
	t.Helper()
	if got, e := answer.Get(s); got != (api.Answer{}) || e != api.ErrAnswerForm {
		t.Errorf("P14.1: Get(%q) = %+v, error %d, want error %d", s, got, e, api.ErrAnswerForm)
	}
}

// P14.1: answers written out: every status, every state, the edges of the ticks.
func TestKnown(t *testing.T) {
	for _, c := range []struct {
		a    api.Answer
		text string
	}{
		{api.Answer{}, "\x00\x00\x00\x00\x00\x00"},
		{api.Answer{State: api.StateSync, Ticks: 1}, "\x00\x01\x00\x00\x01\x00"},
		{api.Answer{State: api.StateBusy, Ticks: 11}, "\x00\x0b\x00\x00\x02\x00"},
		{api.Answer{State: api.StateDown}, "\x00\x00\x00\x00\x03\x00"},
		{api.Answer{State: api.StateManisync, Ticks: 254}, "\x00\xfe\x00\x00\x04\x00"},
		{api.Answer{State: api.StateMani, Ticks: 255}, "\x00\xff\x00\x00\x05\x00"},
		{api.Answer{State: api.StateUp}, "\x00\x00\x00\x00\x06\x00"},
		{api.Answer{Status: api.StatusTarget, State: api.StateError}, "\x01\x00\x00\x00\x07\x00"},
		{api.Answer{Status: api.StatusFile, State: api.StateError}, "\x02\x00\x00\x00\x07\x00"},
		{api.Answer{Status: api.StatusWrite, State: api.StateError}, "\x03\x00\x00\x00\x07\x00"},
		{api.Answer{Status: api.StatusAddress, State: api.StateError}, "\x04\x00\x00\x00\x07\x00"},
		{api.Answer{Status: api.StatusNotdone, State: api.StateError}, "\x05\x00\x00\x00\x07\x00"},
		{api.Answer{Status: api.StatusStalled, State: api.StateError}, "\x06\x00\x00\x00\x07\x00"},
		{api.Answer{Status: api.StatusStalled, Ticks: 255, State: api.StateError}, "\x06\xff\x00\x00\x07\x00"},
	} {
		whole(t, c.a, c.text)
	}
}

// P14.1: every answer that may be; no two are put alike.
func TestEveryAnswer(t *testing.T) {
	seen := map[string]int{}
	for status := range 7 {
		for ticks := range 256 {
			for state := range 8 {
				a := api.Answer{Status: status, Ticks: ticks, State: state}
				whole(t, a, text(a))
				got, _ := answer.Put(a)
				seen[got]++
			}
		}
	}
	if len(seen) != 7*256*8 {
		t.Errorf("P14.1: %d answers are put as %d texts", 7*256*8, len(seen))
	}
}

// P14.1: just behind the edges, and far from them, in one place and in all; whatever the others are.
func TestWrongNumbers(t *testing.T) {
	for _, right := range []api.Answer{{}, {Status: 1, Ticks: 2, State: 3}, {Status: 6, Ticks: 255, State: 7}} {
		for _, n := range wrong() {
			unput(t, api.Answer{Status: n, Ticks: right.Ticks, State: right.State})
			unput(t, api.Answer{Status: right.Status, Ticks: n, State: right.State})
			unput(t, api.Answer{Status: right.Status, Ticks: right.Ticks, State: n})
			unput(t, api.Answer{Status: n, Ticks: n, State: n})
		}
		for n := 7; n < 256; n++ {
			unput(t, api.Answer{Status: n, Ticks: right.Ticks, State: right.State})
		}
		for n := 8; n < 256; n++ {
			unput(t, api.Answer{Status: right.Status, Ticks: right.Ticks, State: n})
		}
	}
}

// P14.1: every byte in every two places of some answers: taken just where another answer is put so.
func TestEveryByteInEveryPlace(t *testing.T) {
	for _, base := range []string{text(api.Answer{}), text(api.Answer{Status: 3, Ticks: 77, State: 5})} {
		for one := range 6 {
			for two := range one {
				for n := range 256 * 256 {
					b := []byte(base)
					b[one], b[two] = byte(n/256), byte(n)
					if b[0] < 7 && b[2] == 0 && b[3] == 0 && b[4] < 8 && b[5] == 0 {
						whole(t, api.Answer{Status: int(b[0]), Ticks: int(b[1]), State: int(b[4])}, string(b))
						continue
					}
					ungot(t, string(b))
				}
			}
		}
	}
}

// P14.1: another number of bytes than six.
func TestOtherSizes(t *testing.T) {
	for _, a := range []api.Answer{{}, {Status: 1, Ticks: 2, State: 3}, {Status: 6, Ticks: 255, State: 7}} {
		full := text(a)
		for n := range 6 {
			ungot(t, full[:n])
			ungot(t, full[n+1:])
		}
		for _, more := range []string{"\x00", "x", "\x00\x00", full, full + full} {
			ungot(t, full+more)
			ungot(t, more[:1]+full)
		}
	}
	ungot(t, string(make([]byte, 1<<16)))
}

// R4: what is handed in stays, and what is answered hangs on it no longer.
func TestAnswersAreNew(t *testing.T) {
	b := []byte("\x03\x4d\x00\x00\x07\x00")
	told, e := answer.Get(unsafe.String(unsafe.SliceData(b), len(b)))
	want := api.Answer{Status: api.StatusWrite, Ticks: 77, State: api.StateError}
	if string(b) != "\x03\x4d\x00\x00\x07\x00" || e != api.OK {
		t.Errorf("R4: what was handed in is %q now, error %d", b, e)
	}
	clear(b)
	if told != want {
		t.Errorf("R4: what was answered is %+v now, want %+v", told, want)
	}
	one, _ := answer.Put(want)
	two, _ := answer.Put(want)
	if unsafe.StringData(one) == unsafe.StringData(two) {
		t.Errorf("R4: two answers share their bytes")
	}
}

// R5: one question has one answer, whoever asks at the same time.
func TestManyAtOneTime(t *testing.T) {
	var wait sync.WaitGroup
	for n := range 6 {
		wait.Go(func() {
			a := api.Answer{Status: n, Ticks: 51 * n, State: n + 1}
			for range 200 {
				whole(t, a, text(a))
				unput(t, api.Answer{Status: 7 + n})
				ungot(t, text(a)[:n])
			}
		})
	}
	wait.Wait()
}
