// Package lowest writes whole numbers as bytes, the lowest first, as records, files, requests and answers have them.
package lowest

// Put is n in so many bytes; what n has beyond them is left out.
func Put(n, many int) string {
	var out []byte
	for place := range many {
		out = append(out, byte(n>>(8*place)))
	}
	return string(out)
}

// Get is the number whose bytes these are; of more than seven the highest may wrap round.
func Get(s string) int {
	n := 0
	for place := range len(s) {
		n |= int(s[place]) << (8 * place)
	}
	return n
}
