package lowest_test

import (
	"math"
	"testing"

	"skiff/lowest"
)

// Known numbers stand in their bytes, and come back.
func TestKnown(t *testing.T) {
	for _, c := range []struct {
		n    int
		text string
	}{
		{0, ""}, {0, "\x00"}, {1, "\x01"}, {255, "\xff"},
		{0, "\x00\x00"}, {1, "\x01\x00"}, {256, "\x00\x01"}, {0x1234, "\x34\x12"}, {65535, "\xff\xff"},
		{0x030201, "\x01\x02\x03"}, {0xDEADBEEF, "\xef\xbe\xad\xde"}, {4294967295, "\xff\xff\xff\xff"}, {1 << 31, "\x00\x00\x00\x80"},
	} {
		if got := lowest.Put(c.n, len(c.text)); got != c.text {
			t.Errorf("Put(%d, %d) = %q, want %q", c.n, len(c.text), got, c.text)
		}
		if got := lowest.Get(c.text); got != c.n {
			t.Errorf("Get(%q) = %d, want %d", c.text, got, c.n)
		}
	}
}

// Every number of two bytes comes back.
func TestEveryTwoBytes(t *testing.T) {
	for n := range 65536 {
		if got := lowest.Get(lowest.Put(n, 2)); got != n {
			t.Fatalf("%d comes back as %d", n, got)
		}
	}
}

// What does not fit is left out; nothing panics.
func TestOdd(t *testing.T) {
	for _, c := range []struct {
		n, many int
		text    string
	}{
		{256, 1, "\x00"}, {0x1234, 1, "\x34"}, {-1, 2, "\xff\xff"}, {5, 0, ""}, {5, -1, ""}, {5, math.MinInt, ""},
	} {
		if got := lowest.Put(c.n, c.many); got != c.text {
			t.Errorf("Put(%d, %d) = %q, want %q", c.n, c.many, got, c.text)
		}
	}
	if got := lowest.Put(math.MaxInt, 20); len(got) != 20 {
		t.Errorf("Put in 20 bytes has %d", len(got))
	}
	if got := lowest.Get("\x01\x02\x00\x00\x00\x00\x00\x00\x09\x09"); got != 513 {
		t.Errorf("Get of ten bytes = %d, want 513", got)
	}
}
