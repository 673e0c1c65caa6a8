package acts_test

import (
	"math"
	"sync"
	"testing"

	"skiff/acts"
	"skiff/api"
)

// beside are numbers that are not from 0 to most.
func beside(most int) []int {
	return []int{-1, -2, most + 1, most + 2, 256, 1 << 32, math.MinInt, math.MaxInt}
}

// The six kinds, and no other.
func TestKinds(t *testing.T) {
	for kind := range 6 {
		if !acts.May(api.Act{Kind: kind}) {
			t.Errorf("kind %d may not be", kind)
		}
	}
	for _, kind := range beside(5) {
		if acts.May(api.Act{Kind: kind}) {
			t.Errorf("kind %d may be", kind)
		}
	}
}

// A step's loss is one of the three, to other acts it is nothing.
func TestLosses(t *testing.T) {
	for loss := range 3 {
		if !acts.May(api.Act{Kind: api.ActStep, Loss: loss}) {
			t.Errorf("loss %d may not be", loss)
		}
	}
	for _, loss := range beside(2) {
		for kind := range 6 {
			if got := acts.May(api.Act{Kind: kind, Loss: loss}); got != (kind != 1) {
				t.Errorf("kind %d, loss %d: %t", kind, loss, got)
			}
		}
	}
}

// A cut is of 0 to 96, to other acts it is nothing.
func TestCuts(t *testing.T) {
	for cut := range 97 {
		if !acts.May(api.Act{Kind: api.ActCut, Cut: cut}) {
			t.Errorf("cut %d may not be", cut)
		}
	}
	for _, cut := range beside(96) {
		for kind := range 6 {
			if got := acts.May(api.Act{Kind: kind, Cut: cut}); got != (kind != 3) {
				t.Errorf("kind %d, cut %d: %t", kind, cut, got)
			}
		}
	}
}

// A file may be any text, whatever the act is.
func TestFiles(t *testing.T) {
	for kind := range 6 {
		for _, file := range []string{"", "\x00", "no file", string(make([]byte, 100000))} {
			if !acts.May(api.Act{Kind: kind, File: file}) {
				t.Errorf("kind %d, %d bytes: may not be", kind, len(file))
			}
		}
	}
}

// R5: one may be asked about by many at one time.
func TestManyAtOneTime(t *testing.T) {
	var wait sync.WaitGroup
	for range 6 {
		wait.Go(func() {
			for kind := range 1000 {
				if acts.May(api.Act{Kind: kind}) != (kind < 6) {
					t.Errorf("R5: kind %d", kind)
				}
			}
		})
	}
	wait.Wait()
}
