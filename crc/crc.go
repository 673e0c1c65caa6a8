// Package crc: see DOC.md, chapter 1.
package crc

// polynomial is IEEE 802.3's, its bits turned round: the sum takes each byte's lowest bit first.
const polynomial uint32 = 0xEDB88320

// Sum: chapter 1.
func Sum(s string) int {
	// Beginning and ending with all bits turned makes zeros at either end of s count.
	rest := ^uint32(0)
	for at := range len(s) {
		rest = withByte(rest, s[at])
	}
	return int(^rest)
}

// withByte is what is left of the division once b, too, has gone in.
func withByte(rest uint32, b byte) uint32 {
	rest ^= uint32(b)
	for range 8 {
		lowest := rest & 1
		rest >>= 1
		if lowest == 1 {
			rest ^= polynomial
		}
	}
	return rest
}
