package table_test

import (
	"math"
	"sync"
	"testing"

	"skiff/api"
	"skiff/table"
)

// The numbers of states and of requests.
const (
	states = 8
	codes  = 7
)

// wanted is the chapter's table, written out: a row a state, in it what is allowed, request by request.
func wanted() [states][codes]int {
	return [states][codes]int{
		//                 detach, dnload, upload, getstatus, clrstatus, getstate, abort
		api.StateIdle:     {0, 1, 1, 1, 0, 1, 1},
		api.StateSync:     {0, 0, 0, 1, 0, 1, 0},
		api.StateBusy:     {0, 0, 0, 1, 0, 1, 0},
		api.StateDown:     {0, 1, 0, 1, 0, 1, 1},
		api.StateManisync: {0, 0, 0, 1, 0, 1, 0},
		api.StateMani:     {0, 0, 0, 1, 0, 1, 0},
		api.StateUp:       {0, 0, 1, 1, 0, 1, 1},
		api.StateError:    {0, 0, 0, 1, 1, 1, 0},
	}
}

// wrong are numbers that are neither a state nor a request; some are right in their lowest bytes.
func wrong() []int {
	return []int{-1, -2, -7, -8, -255, -256, 8, 9, 10, 15, 16, 255, 256, 257, 259, 65536, 65539, 1 << 31, 1<<31 + 3, 1 << 32, 1<<32 + 3, 1 << 62, math.MinInt, math.MinInt + 3, math.MaxInt}
}

// right fails unless just that is answered, without an error.
func right(t *testing.T, state, code int, want bool) {
	t.Helper()
	if got, e := table.Allowed(state, code); got != want || e != api.OK {
		t.Errorf("P15.1: Allowed(%d, %d) = %v, error %d, want %v", state, code, got, e, want)
	}
}

// refused fails unless nothing but the error is answered.
func refused(t *testing.T, state, code int) {
	t.Helper()
	if got, e := table.Allowed(state, code); got || e != api.ErrTableForm {
		t.Errorf("P15.1: Allowed(%d, %d) = %v, error %d, want error %d", state, code, got, e, api.ErrTableForm)
	}
}

// P15.1: every request in every state.
func TestEveryPair(t *testing.T) {
	for state, row := range wanted() {
		for code, is := range row {
			right(t, state, code, is == 1)
		}
	}
}

// P15.1: each request as the chapter tells of it: in how many states, and which.
func TestEveryRequest(t *testing.T) {
	every := []int{api.StateIdle, api.StateSync, api.StateBusy, api.StateDown, api.StateManisync, api.StateMani, api.StateUp, api.StateError}
	for _, c := range []struct {
		code int
		in   []int
	}{
		{api.RequestGetstatus, every},
		{api.RequestGetstate, every},
		{api.RequestDnload, []int{api.StateIdle, api.StateDown}},
		{api.RequestUpload, []int{api.StateIdle, api.StateUp}},
		{api.RequestClrstatus, []int{api.StateError}},
		{api.RequestAbort, []int{api.StateIdle, api.StateDown, api.StateUp}},
		{api.RequestDetach, nil},
	} {
		for _, state := range c.in {
			right(t, state, c.code, true)
		}
		count := 0
		for _, state := range every {
			if is, _ := table.Allowed(state, c.code); is {
				count++
			}
		}
		if count != len(c.in) {
			t.Errorf("P15.1: request %d is allowed in %d states, want %d", c.code, count, len(c.in))
		}
	}
}

// P15.1: no state, whatever the request; requests that are always allowed are not excepted.
func TestNoState(t *testing.T) {
	for _, state := range wrong() {
		for code := range codes {
			refused(t, state, code)
		}
	}
}

// P15.1: no request, whatever the state; the number behind the last request is a state's.
func TestNoRequest(t *testing.T) {
	for state := range states {
		refused(t, state, codes)
		for _, code := range wrong() {
			refused(t, state, code)
		}
	}
}

// P15.1: neither of them.
func TestNeither(t *testing.T) {
	for _, state := range wrong() {
		refused(t, state, codes)
		for _, code := range wrong() {
			refused(t, state, code)
		}
	}
}

// P15.1: all round the edges: just the states with the requests are taken.
func TestAround(t *testing.T) {
	want := wanted()
	for state := -300; state <= 300; state++ {
		for code := -300; code <= 300; code++ {
			if state >= 0 && state < states && code >= 0 && code < codes {
				right(t, state, code, want[state][code] == 1)
				continue
			}
			refused(t, state, code)
		}
	}
}

// R5: one question has one answer, whoever asks at the same time.
func TestManyAtOneTime(t *testing.T) {
	want := wanted()
	var wait sync.WaitGroup
	for state := range states {
		wait.Go(func() {
			for range 200 {
				for code := range codes {
					right(t, state, code, want[state][code] == 1)
				}
				refused(t, state, codes)
				refused(t, states+state, 0)
			}
		})
	}
	wait.Wait()
}
