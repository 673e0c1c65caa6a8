package blocks_test

import (
	"slices"
	"strings"
	"sync"
	"testing"
	"unsafe"

	"skiff/api"
	"skiff/blocks"
)

// sample has so many bytes; no two blocks of its first 288 are alike.
func sample(size int) string {
	b := make([]byte, size)
	for n := range b {
		b[n] = byte(7*n + n/256*31 + 3)
	}
	return string(b)
}

// pieces are a text's, worked out by cutting from its front.
func pieces(s string) []string {
	var out []string
	for len(s) > 32 {
		out = append(out, s[:32])
		s = s[32:]
	}
	return append(out, s)
}

// texts are of one length each, bytes of all kinds.
func texts(size int) []string {
	return []string{sample(size), strings.Repeat("\x00", size), strings.Repeat("\xff", size), strings.Repeat("é", size)[:size]}
}

// lengthed are pieces of these lengths.
func lengthed(sizes ...int) []string {
	var out []string
	for _, size := range sizes {
		out = append(out, sample(size))
	}
	return out
}

// split fails unless Split tells these pieces.
func split(t *testing.T, s string, want []string) {
	t.Helper()
	if got, e := blocks.Split(s); !slices.Equal(got, want) || e != api.OK {
		t.Errorf("P10.1: Split(%q) = %q, error %d, want %q", s, got, e, want)
	}
}

// joined fails unless Join tells this text.
func joined(t *testing.T, bs []string, want string) {
	t.Helper()
	if got, e := blocks.Join(bs); got != want || e != api.OK {
		t.Errorf("P10.1: Join(%q) = %q, error %d, want %q", bs, got, e, want)
	}
}

// refused fails unless Join tells nothing but its error.
func refused(t *testing.T, what string, bs []string) {
	t.Helper()
	if got, e := blocks.Join(bs); got != "" || e != api.ErrBlocksForm {
		t.Errorf("P10.1: %s: Join of %d pieces tells %d bytes, error %d", what, len(bs), len(got), e)
	}
}

// P10.1: texts of every length that an image may have are split, and come back.
func TestEveryLength(t *testing.T) {
	for size := 1; size <= 288; size++ {
		for _, s := range texts(size) {
			split(t, s, pieces(s))
			joined(t, pieces(s), s)
			got, _ := blocks.Split(s)
			joined(t, got, s)
		}
	}
}

// P10.1: the edges, written out: how many pieces, and of which lengths.
func TestEdges(t *testing.T) {
	for _, c := range []struct {
		size  int
		sizes []int
	}{
		{1, []int{1}}, {31, []int{31}}, {32, []int{32}}, {33, []int{32, 1}},
		{63, []int{32, 31}}, {64, []int{32, 32}}, {65, []int{32, 32, 1}},
		{256, []int{32, 32, 32, 32, 32, 32, 32, 32}},
		{257, []int{32, 32, 32, 32, 32, 32, 32, 32, 1}},
		{287, []int{32, 32, 32, 32, 32, 32, 32, 32, 31}},
		{288, []int{32, 32, 32, 32, 32, 32, 32, 32, 32}},
	} {
		got, e := blocks.Split(sample(c.size))
		var sizes []int
		for _, piece := range got {
			sizes = append(sizes, len(piece))
		}
		if !slices.Equal(sizes, c.sizes) || e != api.OK {
			t.Errorf("P10.1: %d bytes: pieces of %d, error %d, want %d", c.size, sizes, e, c.sizes)
		}
	}
}

// P10.1: the pieces are the text's own bytes, in their row.
func TestKnown(t *testing.T) {
	split(t, "a", []string{"a"})
	split(t, "\x00", []string{"\x00"})
	split(t, "an image carried across, whole or not at all",
		[]string{"an image carried across, whole o", "r not at all"})
	joined(t, []string{"an image carried across, whole o", "r not at all"},
		"an image carried across, whole or not at all")
	// Bytes are counted, not runes: the rune at the edge is cut in two.
	split(t, strings.Repeat("x", 31)+"éy", []string{strings.Repeat("x", 31) + "\xc3", "\xa9y"})
	joined(t, []string{strings.Repeat("x", 31) + "\xc3", "\xa9y"}, strings.Repeat("x", 31)+"éy")
}

// P10.1: no image has these lengths.
func TestSplitOfWrongLengths(t *testing.T) {
	for _, size := range []int{0, 289, 290, 319, 320, 321, 576, 65536, 65536 + 32, 1 << 20} {
		for _, s := range texts(size) {
			if got, e := blocks.Split(s); len(got) != 0 || e != api.ErrBlocksForm {
				t.Errorf("P10.1: %d bytes: %d pieces, error %d", size, len(got), e)
			}
		}
	}
}

// P10.1: up to three pieces, of each length about the edges: Join takes just those that Split tells of some text.
func TestJoinOfLengths(t *testing.T) {
	sizes := []int{0, 1, 2, 16, 31, 32, 33, 64, 288}
	for _, one := range sizes {
		judged(t, lengthed(one))
		for _, two := range sizes {
			judged(t, lengthed(one, two))
			for _, three := range sizes {
				judged(t, lengthed(one, two, three))
			}
		}
	}
}

// judged fails unless Join takes these where cutting what they are in all tells just them, and refuses them elsewhere.
func judged(t *testing.T, bs []string) {
	t.Helper()
	all := strings.Join(bs, "")
	if all != "" && len(all) <= 288 && slices.Equal(pieces(all), bs) {
		joined(t, bs, all)
		return
	}
	refused(t, "lengths", bs)
}

// P10.1: one piece of each length, alone, and behind whole ones.
func TestJoinOfLastPieces(t *testing.T) {
	for size := range 70 {
		for many := range 12 {
			bs := append(pieces(sample(32*many + 32))[:many], sample(size))
			if size >= 1 && size <= 32 && many <= 8 {
				joined(t, bs, strings.Join(bs, ""))
			} else {
				refused(t, "a last piece", bs)
			}
		}
	}
}

// P10.1: one of the pieces of an image is made longer, shorter, empty, is left out or put in.
func TestJoinOfSpoiled(t *testing.T) {
	for size := 1; size <= 288; size++ {
		whole := pieces(sample(size))
		last := len(whole) - 1
		for n, piece := range whole {
			refused(t, "too long", put(whole, n, sample(33)))
			refused(t, "far too long", put(whole, n, sample(64)))
			refused(t, "empty", put(whole, n, ""))
			refused(t, "an empty one put in", slices.Insert(slices.Clone(whole), n, ""))
			refused(t, "a short one put in", slices.Insert(slices.Clone(whole), n, "a"))
			if n < last {
				refused(t, "too short", put(whole, n, piece[1:]))
			}
		}
		refused(t, "an empty one behind", append(slices.Clone(whole), ""))
		if size%32 != 0 {
			refused(t, "one behind a short one", append(slices.Clone(whole), "a"))
		}
	}
}

// put is a list whose nth piece is this one.
func put(bs []string, n int, piece string) []string {
	out := slices.Clone(bs)
	out[n] = piece
	return out
}

// P10.1: no piece, empty ones, too many whole ones, lists that are long.
func TestJoinOfWrongLists(t *testing.T) {
	refused(t, "nil", nil)
	refused(t, "none", []string{})
	refused(t, "none, with room", make([]string, 0, 9))
	for many := 1; many <= 20; many++ {
		refused(t, "empty ones", make([]string, many))
	}
	for many := 10; many <= 20; many++ {
		refused(t, "too many", slices.Repeat([]string{sample(32)}, many))
	}
	refused(t, "eight and two halves", append(slices.Repeat([]string{sample(32)}, 8), sample(16), sample(16)))
	refused(t, "an image in one", []string{sample(288)})
	refused(t, "an image in bytes", strings.Split(sample(288), ""))
	refused(t, "a long list", make([]string, 1<<20))
	refused(t, "a long list of whole ones", slices.Repeat([]string{sample(32)}, 1<<20))
	// Laid together these would be 64 GiB: they are refused unread.
	refused(t, "long pieces", slices.Repeat([]string{strings.Repeat("x", 1<<20)}, 1<<16))
}

// handed is a text in memory that the test can change behind the call's back.
func handed(s string) (string, []byte) {
	b := []byte(s)
	return unsafe.String(&b[0], len(b)), b
}

// R4: what is answered by Split stays when the text goes, and the text stays as it was.
func TestSplitAnswersAreNew(t *testing.T) {
	for _, size := range []int{1, 2, 31, 32, 33, 100, 287, 288} {
		s, b := handed(sample(size))
		one, _ := blocks.Split(s)
		two, _ := blocks.Split(s)
		if string(b) != sample(size) {
			t.Errorf("R4: %d bytes: what was handed in has changed", size)
		}
		clear(b)
		if !slices.Equal(one, pieces(sample(size))) {
			t.Errorf("R4: %d bytes: an answer goes with the text: %q", size, one)
		}
		for n := range one {
			if len(one[n]) > 1 && unsafe.StringData(one[n]) == unsafe.StringData(two[n]) {
				t.Errorf("R4: %d bytes: two answers share piece %d", size, n)
			}
		}
		clear(one[:cap(one)])
		if !slices.Equal(two, pieces(sample(size))) {
			t.Errorf("R4: %d bytes: an answer goes with another one: %q", size, two)
		}
	}
}

// R4: what is answered by Join stays when the pieces go; the list, and its spare room, stay as they were.
func TestJoinAnswersAreNew(t *testing.T) {
	for _, size := range []int{1, 2, 31, 32, 33, 100, 287, 288} {
		s, b := handed(sample(size))
		bs := append(make([]string, 0, 12), pieces(s)...)
		many := len(bs)
		spare := bs[:cap(bs)]
		for n := many; n < len(spare); n++ {
			spare[n] = "spare"
		}
		one, _ := blocks.Join(bs)
		two, _ := blocks.Join(bs)
		if size > 1 && unsafe.StringData(one) == unsafe.StringData(two) {
			t.Errorf("R4: %d bytes: two answers share memory", size)
		}
		if !slices.Equal(bs, pieces(sample(size))) || !slices.Equal(spare[many:], slices.Repeat([]string{"spare"}, len(spare)-many)) {
			t.Errorf("R4: %d bytes: what was handed in has changed", size)
		}
		clear(b)
		clear(spare)
		if one != sample(size) || two != sample(size) {
			t.Errorf("R4: %d bytes: an answer goes with the pieces: %q, %q", size, one, two)
		}
	}
}

// R4: wrong lists are not changed either.
func TestRefusedListsStay(t *testing.T) {
	bs := append(lengthed(32, 5, 32), "spare")[:3]
	refused(t, "a short one within", bs)
	if !slices.Equal(bs[:4], append(lengthed(32, 5, 32), "spare")) {
		t.Errorf("R4: what was handed in has changed: %q", bs[:4])
	}
}

// R5: one question has one answer, whoever asks at the same time.
func TestManyAtOneTime(t *testing.T) {
	var wait sync.WaitGroup
	shared := pieces(sample(200))
	for n := range 8 {
		wait.Go(func() {
			s := sample(36 * (n + 1))
			for range 200 {
				split(t, s, pieces(s))
				joined(t, pieces(s), s)
				joined(t, shared, sample(200))
				refused(t, "one of many", lengthed(n, 32))
			}
		})
	}
	wait.Wait()
}
