package ident_test

import (
	"math"
	"sync"
	"testing"

	"skiff/api"
	"skiff/ident"
	"skiff/suffix"
)

// anyone stands for whatever b has.
const anyone = 65535

// wrong are numbers that may not be, in whichever place; some are right in their lowest bytes.
func wrong() []int {
	return []int{-1, -2, -65535, -65536, -65537, 65536, 65537, 131071, 1 << 20, 1 << 31, 1 << 32, 1<<32 + 5, 1<<48 + 65535, 1 << 62, math.MinInt, math.MaxInt}
}

// placed are ids that have n in one place each, and i's numbers in the others.
func placed(i api.Ids, n int) []api.Ids {
	vendor, product, version := i, i, i
	vendor.Vendor, product.Product, version.Version = n, n, n
	return []api.Ids{vendor, product, version}
}

// all are the ids that have one of these numbers in each place.
func all(numbers ...int) []api.Ids {
	var out []api.Ids
	for _, vendor := range numbers {
		for _, product := range numbers {
			for _, version := range numbers {
				out = append(out, api.Ids{Vendor: vendor, Product: product, Version: version})
			}
		}
	}
	return out
}

// may fails unless May says so.
func may(t *testing.T, i api.Ids, want bool) {
	t.Helper()
	if got := ident.May(i); got != want {
		t.Errorf("P12.1: May(%+v) = %v, want %v", i, got, want)
	}
}

// match fails unless Match says so, without an error.
func match(t *testing.T, a, b api.Ids, want bool) {
	t.Helper()
	if got, e := ident.Match(a, b); got != want || e != api.OK {
		t.Errorf("P12.1: Match(%+v, %+v) = %v, error %d, want %v", a, b, got, e, want)
	}
}

// refused fails unless Match tells nothing but its error.
func refused(t *testing.T, a, b api.Ids) {
	t.Helper()
	if got, e := ident.Match(a, b); got || e != api.ErrIdentForm {
		t.Errorf("P12.1: Match(%+v, %+v) = %v, error %d, want error %d", a, b, got, e, api.ErrIdentForm)
	}
}

// P12.1: every number that may be, in each place.
func TestMayOfEveryNumber(t *testing.T) {
	for n := range 65536 {
		may(t, api.Ids{Vendor: n, Product: n, Version: n}, true)
		for _, i := range placed(api.Ids{Vendor: 1, Product: 2, Version: 3}, n) {
			may(t, i, true)
		}
	}
}

// P12.1: the edges from 0 to MaxId, in all places at once.
func TestMayOfEdges(t *testing.T) {
	for _, i := range all(0, 1, 255, 256, 65534, 65535) {
		may(t, i, true)
	}
	for _, i := range all(-1, 0, 65535, 65536) {
		in := func(n int) bool { return n == 0 || n == 65535 }
		may(t, i, in(i.Vendor) && in(i.Product) && in(i.Version))
	}
}

// P12.1: one wrong number is enough, whatever the others are.
func TestMayOfWrongNumbers(t *testing.T) {
	for _, n := range wrong() {
		may(t, api.Ids{Vendor: n, Product: n, Version: n}, false)
		for _, right := range []api.Ids{{}, {Vendor: 1, Product: 2, Version: 3}, {Vendor: anyone, Product: anyone, Version: anyone}} {
			for _, i := range placed(right, n) {
				may(t, i, false)
			}
		}
	}
}

// P11.1, P12.1: a file is built for just those that may be.
func TestMayAsFilesSay(t *testing.T) {
	numbers := append(wrong(), 0, 1, 65534, 65535)
	for _, i := range all(numbers...) {
		_, e := suffix.Build("x", i)
		may(t, i, e == api.OK)
	}
}

// P12.1: some that are written out.
func TestKnown(t *testing.T) {
	us := api.Ids{Vendor: 0x1234, Product: 0x5678, Version: 0x0100}
	for _, c := range []struct {
		a    api.Ids
		want bool
	}{
		{us, true},
		{api.Ids{}, false},
		{api.Ids{Vendor: anyone, Product: anyone, Version: anyone}, true},
		{api.Ids{Vendor: 0x1234, Product: 0x5678, Version: anyone}, true},
		{api.Ids{Vendor: 0x1234, Product: anyone, Version: 0x0100}, true},
		{api.Ids{Vendor: anyone, Product: 0x5678, Version: 0x0100}, true},
		{api.Ids{Vendor: 0x1234, Product: anyone, Version: anyone}, true},
		{api.Ids{Vendor: 0x1235, Product: 0x5678, Version: 0x0100}, false},
		{api.Ids{Vendor: 0x1234, Product: 0x5679, Version: 0x0100}, false},
		{api.Ids{Vendor: 0x1234, Product: 0x5678, Version: 0x0101}, false},
		{api.Ids{Vendor: 0x1235, Product: anyone, Version: anyone}, false},
		{api.Ids{Vendor: anyone, Product: 0x5679, Version: anyone}, false},
		{api.Ids{Vendor: anyone, Product: anyone, Version: 0x0101}, false},
		// The right numbers in the wrong places.
		{api.Ids{Vendor: 0x5678, Product: 0x1234, Version: 0x0100}, false},
		{api.Ids{Vendor: 0x0100, Product: 0x5678, Version: 0x1234}, false},
		{api.Ids{Vendor: 0x1234, Product: 0x0100, Version: 0x5678}, false},
		// An elder version and a newer one are others; so are numbers with their bytes turned round.
		{api.Ids{Vendor: 0x1234, Product: 0x5678, Version: 0x00FF}, false},
		{api.Ids{Vendor: 0x3412, Product: 0x7856, Version: 0x0001}, false},
		// 0 is a number, and takes no other one.
		{api.Ids{Vendor: 0x1234, Product: 0x5678, Version: 0}, false},
		// 65534 is not any.
		{api.Ids{Vendor: 0x1234, Product: 0x5678, Version: 65534}, false},
	} {
		match(t, c.a, us, c.want)
	}
}

// P12.1: MaxId is any in a alone; in b it is met by itself only.
func TestAnyInAAlone(t *testing.T) {
	any3 := api.Ids{Vendor: anyone, Product: anyone, Version: anyone}
	match(t, any3, any3, true)
	for _, i := range all(0, 1, 0x1234, 65534) {
		match(t, any3, i, true)
		match(t, i, any3, false)
		for _, one := range placed(i, anyone) {
			match(t, one, i, true)
			match(t, i, one, false)
			match(t, one, one, true)
		}
	}
}

// P12.1: every number against itself and against its neighbours, in each place.
func TestMatchOfEveryNumber(t *testing.T) {
	base := api.Ids{Vendor: 7, Product: 8, Version: 9}
	for n := range 65536 {
		next := (n + 1) % 65536
		same, other := placed(base, n), placed(base, next)
		for place := range same {
			match(t, same[place], same[place], true)
			match(t, same[place], other[place], n == anyone)
			match(t, other[place], same[place], next == anyone)
		}
	}
}

// P12.1: every pair of ids of some numbers, judged place by place.
func TestMatchOfAllPairs(t *testing.T) {
	some := all(0, 1, 256, 65534, 65535)
	yes := 0
	for _, a := range some {
		for _, b := range some {
			differ := 0
			for _, place := range [][2]int{{a.Vendor, b.Vendor}, {a.Product, b.Product}, {a.Version, b.Version}} {
				if place[0] != 65535 && place[0] != place[1] {
					differ++
				}
			}
			match(t, a, b, differ == 0)
			if differ == 0 {
				yes++
			}
		}
	}
	// In a place nine of the 25 pairs fit: five alike, four more with any.
	if yes != 9*9*9 {
		t.Errorf("%d pairs match, want %d", yes, 9*9*9)
	}
}

// P12.1, R2: a wrong number in a, in b, in both: an error, and a false, where the others match and where they do not.
func TestMatchOfWrongNumbers(t *testing.T) {
	for _, right := range []api.Ids{{}, {Vendor: 1, Product: 2, Version: 3}, {Vendor: anyone, Product: anyone, Version: anyone}} {
		for _, n := range wrong() {
			for _, i := range append(placed(right, n), api.Ids{Vendor: n, Product: n, Version: n}) {
				refused(t, i, right)
				refused(t, right, i)
				refused(t, i, i)
				refused(t, i, api.Ids{Vendor: 5, Product: 6, Version: 7})
				refused(t, api.Ids{Vendor: 5, Product: 6, Version: 7}, i)
				refused(t, api.Ids{Vendor: anyone, Product: anyone, Version: anyone}, i)
			}
		}
	}
}

// R5: one question has one answer, whoever asks at the same time.
func TestManyAtOneTime(t *testing.T) {
	var wait sync.WaitGroup
	for n := range 8 {
		wait.Go(func() {
			i := api.Ids{Vendor: n, Product: 2 * n, Version: 3 * n}
			for range 200 {
				may(t, i, true)
				match(t, i, i, true)
				match(t, api.Ids{Vendor: n, Product: anyone, Version: anyone}, i, true)
				match(t, api.Ids{Vendor: n + 1, Product: anyone, Version: anyone}, i, false)
				refused(t, i, api.Ids{Vendor: -1 - n})
			}
		})
	}
	wait.Wait()
}
