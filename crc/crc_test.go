package crc_test

import (
	"hash/crc32"
	"strings"
	"sync"
	"testing"

	"skiff/api"
	"skiff/crc"
)

// library is the sum as Go's own library has it.
func library(s string) int {
	return int(crc32.ChecksumIEEE([]byte(s)))
}

// everyByte has each byte once, in their row.
func everyByte() string {
	b := make([]byte, 256)
	for i := range b {
		b[i] = byte(i)
	}
	return string(b)
}

// P1.1: sums that are known from elsewhere.
func TestKnownSums(t *testing.T) {
	for _, c := range []struct {
		text string
		want int
	}{
		{"123456789", 3421780262},
		{"", 0},
		{"a", 3904355907},
		{"abc", 891568578},
		{"The quick brown fox jumps over the lazy dog", 1095738169},
		{"\x00", 3523407757},
		{"\x00\x00\x00\x00", 558161692},
		{"\xff", 4278190080},
		{"\xff\xff\xff\xff", 4294967295},
		{everyByte(), 688229491},
	} {
		if got := crc.Sum(c.text); got != c.want {
			t.Errorf("P1.1: Sum(%q) = %d, want %d", c.text, got, c.want)
		}
	}
}

// P1.1: a byte of each value: alone, behind another one, ahead of another one.
func TestEveryByteValue(t *testing.T) {
	for v := range 256 {
		b := string([]byte{byte(v)})
		for _, s := range []string{b, "skiff" + b, b + "skiff", b + b + b} {
			if got := crc.Sum(s); got != library(s) {
				t.Errorf("P1.1: Sum(%q) = %d, want %d", s, got, library(s))
			}
		}
	}
}

// P1.1: a text of each length up to that of a flash, and some beyond.
func TestEveryLength(t *testing.T) {
	long := strings.Repeat(everyByte(), 300)
	for n := range api.FlashSize + 1 {
		s := long[len(long)-n:]
		if got := crc.Sum(s); got != library(s) {
			t.Fatalf("P1.1: of %d bytes: %d, want %d", n, got, library(s))
		}
	}
	if got := crc.Sum(long); got != library(long) {
		t.Errorf("P1.1: of %d bytes: %d, want %d", len(long), got, library(long))
	}
}

// P1.1: bytes that are no UTF-8 count as the bytes that they are.
func TestBytesThatAreNoText(t *testing.T) {
	for _, s := range []string{"\x80", "\xc3", "\xc3\x28", "\xed\xa0\x80", "\xff\xfe\x00", "é", "\u2028", "a\x00b"} {
		if got := crc.Sum(s); got != library(s) {
			t.Errorf("P1.1: Sum(%q) = %d, want %d", s, got, library(s))
		}
	}
}

// P1.1: zeros ahead of a text, and behind it, turn the sum.
func TestZerosCount(t *testing.T) {
	seen := map[int]string{}
	for n := range 20 {
		zeros := strings.Repeat("\x00", n)
		for _, s := range []string{zeros + "x", "x" + zeros} {
			other, was := seen[crc.Sum(s)]
			if was && other != s {
				t.Errorf("P1.1: one sum of %q and %q", other, s)
			}
			seen[crc.Sum(s)] = s
		}
	}
}

// P1.1: no turned bit of a slot's bytes goes unseen.
func TestTurnedBitIsSeen(t *testing.T) {
	slot := strings.Repeat("skiff\xff\x00\x7f", api.SlotSize/8)
	sum := crc.Sum(slot)
	for bit := range 8 * len(slot) {
		turned := []byte(slot)
		turned[bit/8] ^= 1 << (bit % 8)
		if crc.Sum(string(turned)) == sum {
			t.Fatalf("P1.1: bit %d turned, and the sum stays %d", bit, sum)
		}
	}
}

// P1.1: a sum is from 0 to 4294967295, never below.
func TestSumsRange(t *testing.T) {
	high := false
	for v := range 256 {
		got := crc.Sum(string([]byte{byte(v)}))
		if got < 0 || got > 4294967295 {
			t.Errorf("P1.1: of byte %d: %d", v, got)
		}
		high = high || got > 2147483647
	}
	if !high {
		t.Error("P1.1: no sum has its highest bit")
	}
}

// R5: one text has one sum, whoever asks at the same time.
func TestManyAtOneTime(t *testing.T) {
	text := everyByte()
	var wait sync.WaitGroup
	for n := range 8 {
		wait.Go(func() {
			for at := range len(text) {
				s := text[at:] + strings.Repeat("x", n)
				if got := crc.Sum(s); got != library(s) {
					t.Errorf("R5: Sum(%q) = %d, want %d", s, got, library(s))
				}
			}
		})
	}
	wait.Wait()
}
