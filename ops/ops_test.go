package ops_test

import (
	"math"
	"strings"
	"sync"
	"testing"
	"unsafe"

	"skiff/api"
	"skiff/nor"
	"skiff/ops"
)

// mixed is so many bytes of every value, no two neighbouring words of them alike; each seed makes others.
func mixed(seed, many int) string {
	b := make([]byte, many)
	for i := range b {
		b[i] = byte(i*7 + i/256*31 + seed*101)
	}
	return string(b)
}

// someFlashes are flashes that may be: blank, all cleared, mixed.
func someFlashes() []string {
	return []string{strings.Repeat("\xff", 768), strings.Repeat("\x00", 768), mixed(0, 768), mixed(1, 768)}
}

// wrongFlashes are texts that no flash may be.
func wrongFlashes() []string {
	return []string{"", "\xff", mixed(0, 4), mixed(0, 96), mixed(0, 767), mixed(0, 769), mixed(0, 1536), strings.Repeat("é", 768)}
}

// everyErase is a step for each sector.
func everyErase() []api.Op {
	var out []api.Op
	for sector := range 8 {
		out = append(out, api.Op{Erase: true, At: 96 * sector})
	}
	return out
}

// somePrograms are steps that program: each place, words of many kinds.
func somePrograms() []api.Op {
	words := []string{"\xff\xff\xff\xff", "\x00\x00\x00\x00", "\x0f\xf0\x55\xaa", "\x01\x80\xfe\x7f", "skif", "éé"}
	var out []api.Op
	for place := range 192 {
		for _, w := range words {
			out = append(out, api.Op{At: 4 * place, Text: w})
		}
	}
	return out
}

// farPlaces are far from any flash.
func farPlaces() []int {
	return []int{math.MinInt, math.MinInt + 4, -(1 << 62), -(1 << 32), -768, 1536, 1 << 32, 96 << 32, 1 << 62, math.MaxInt - 3, math.MaxInt}
}

// wrongOps are steps that may not be.
func wrongOps() []api.Op {
	out := []api.Op{
		{}, {At: 96}, {Erase: true, Text: "a"}, {Erase: true, Text: "abcd"}, {Erase: true, At: 672, Text: "\xff\xff\xff\xff"},
		{Erase: true, Text: strings.Repeat("\xff", 96)}, {Erase: true, At: 4}, {Erase: true, At: 95}, {Erase: true, At: 97},
		{Erase: true, At: 48}, {Erase: true, At: -96}, {Erase: true, At: 768}, {Erase: true, At: 764}, {Erase: true, At: 1},
		{At: -4, Text: "abcd"}, {At: 768, Text: "abcd"}, {At: 772, Text: "abcd"}, {At: 1, Text: "abcd"}, {At: 2, Text: "abcd"},
		{At: 3, Text: "abcd"}, {At: 765, Text: "abcd"}, {At: 767, Text: "abcd"}, {At: 2, Text: "ab"},
		{Text: "a"}, {Text: "abc"}, {Text: "abcde"}, {Text: "abcdefgh"}, {Text: "éééé"}, {At: 764, Text: "abc"}, {At: 764, Text: "abcde"},
	}
	for _, at := range farPlaces() {
		out = append(out, api.Op{Erase: true, At: at}, api.Op{At: at, Text: "abcd"})
	}
	return out
}

// wrongCuts are below 0, or beyond MaxCut.
func wrongCuts() []int {
	return []int{math.MinInt, -96, -32, -1, 97, 98, 128, 192, 768, 1 << 32, 1<<32 + 1, math.MaxInt}
}

// refused fails unless the answer is ErrOpsForm with nothing beside it.
func refused(t *testing.T, what string, got string, e api.Errno) {
	t.Helper()
	if got != "" || e != api.ErrOpsForm {
		t.Errorf("%s: %d bytes, error %d; want none, error %d", what, len(got), e, api.ErrOpsForm)
	}
}

// answered fails unless the answer is just this flash.
func answered(t *testing.T, what string, o api.Op, got string, e api.Errno, want string) {
	t.Helper()
	if e != api.OK || got != want {
		t.Fatalf("%s: %+v: error %d, %q, want %q", what, o, e, got, want)
	}
}

// programmed is f behind the first bits of a step's word, worked out bit by bit.
func programmed(f string, o api.Op, bits int) string {
	out := []byte(f)
	for bit := range bits {
		if o.Text[bit/8]>>(bit%8)&1 == 0 {
			out[o.At+bit/8] &^= 1 << (bit % 8)
		}
	}
	return string(out)
}

// P3.1: of every place, just the sectors' beginnings may be erased, and just the words' beginnings programmed.
func TestMayEveryPlace(t *testing.T) {
	for at := -200; at < 1000; at++ {
		inside := at >= 0 && at < 768
		if got := ops.May(api.Op{Erase: true, At: at}); got != (inside && at%96 == 0) {
			t.Errorf("P3.1: erasing at %d: %t", at, got)
		}
		if got := ops.May(api.Op{At: at, Text: "abcd"}); got != (inside && at%4 == 0) {
			t.Errorf("P3.1: programming at %d: %t", at, got)
		}
	}
}

// P3.1: a step that erases has no text, one that programs has Word bytes of it, whatever they are.
func TestMayEveryText(t *testing.T) {
	for n := range 800 {
		text := mixed(n, n)
		if got := ops.May(api.Op{Erase: true, At: 96, Text: text}); got != (n == 0) {
			t.Errorf("P3.1: erasing with %d bytes: %t", n, got)
		}
		if got := ops.May(api.Op{At: 96, Text: text}); got != (n == 4) {
			t.Errorf("P3.1: programming %d bytes: %t", n, got)
		}
	}
	for v := range 256 {
		if !ops.May(api.Op{Text: strings.Repeat(string([]byte{byte(v)}), 4)}) {
			t.Errorf("P3.1: four bytes %d may not be", v)
		}
	}
	// Bytes count, not letters: this one has two letters, that one four.
	if !ops.May(api.Op{Text: "éé"}) || ops.May(api.Op{Text: "éééé"}) {
		t.Error("P3.1: letters are counted")
	}
}

// P3.1: steps that may be, and steps that may not.
func TestMayKnown(t *testing.T) {
	for _, o := range append(everyErase(), somePrograms()...) {
		if !ops.May(o) {
			t.Errorf("P3.1: %+v may not be", o)
		}
	}
	for _, o := range wrongOps() {
		if ops.May(o) {
			t.Errorf("P3.1: %+v may be", o)
		}
	}
}

// sameSteps fails unless these are just the steps that are wanted.
func sameSteps(t *testing.T, what string, got []api.Op, e api.Errno, want []api.Op) {
	t.Helper()
	if e != api.OK || len(got) != len(want) {
		t.Fatalf("%s: error %d, %d steps, want %d", what, e, len(got), len(want))
	}
	for i := range want {
		if got[i] != want[i] {
			t.Fatalf("%s: step %d is %+v, want %+v", what, i, got[i], want[i])
		}
	}
}

// P3.1: words of known texts.
func TestWordsKnown(t *testing.T) {
	for _, c := range []struct {
		at   int
		text string
		want []api.Op
	}{
		{0, "", nil},
		{4, "", nil},
		{764, "", nil},
		{768, "", nil},
		{0, "a", []api.Op{{At: 0, Text: "a\xff\xff\xff"}}},
		{8, "ab", []api.Op{{At: 8, Text: "ab\xff\xff"}}},
		{8, "abc", []api.Op{{At: 8, Text: "abc\xff"}}},
		{8, "abcd", []api.Op{{At: 8, Text: "abcd"}}},
		{8, "abcde", []api.Op{{At: 8, Text: "abcd"}, {At: 12, Text: "e\xff\xff\xff"}}},
		{92, "abcdefgh", []api.Op{{At: 92, Text: "abcd"}, {At: 96, Text: "efgh"}}},
		{764, "a", []api.Op{{At: 764, Text: "a\xff\xff\xff"}}},
		{764, "abcd", []api.Op{{At: 764, Text: "abcd"}}},
		{760, "abcdefg", []api.Op{{At: 760, Text: "abcd"}, {At: 764, Text: "efg\xff"}}},
		{0, "\x00", []api.Op{{At: 0, Text: "\x00\xff\xff\xff"}}},
		{0, "\xff\xff\xff\xff", []api.Op{{At: 0, Text: "\xff\xff\xff\xff"}}},
		{0, "é€", []api.Op{{At: 0, Text: "\xc3\xa9\xe2\x82"}, {At: 4, Text: "\xac\xff\xff\xff"}}},
	} {
		got, e := ops.Words(c.at, c.text)
		sameSteps(t, "P3.1: Words", got, e, c.want)
	}
}

// P3.1: at every place and of every length, to beyond the flash: the text in its words, or ErrOpsForm.
func TestWordsEveryPlaceAndLength(t *testing.T) {
	text := mixed(2, 900)
	for at := -12; at <= 784; at++ {
		for n := range 785 {
			wordsOf(t, at, text[:n])
		}
	}
}

// wordsOf fails unless Words answers of this place and text as P3.1 has it.
func wordsOf(t *testing.T, at int, text string) {
	t.Helper()
	got, e := ops.Words(at, text)
	if at < 0 || at%4 != 0 || at > 768 || at+len(text) > 768 {
		if len(got) != 0 || e != api.ErrOpsForm {
			t.Fatalf("P3.1: Words(%d, %d bytes): %d steps, error %d", at, len(text), len(got), e)
		}
		return
	}
	filled := text + "\xff\xff\xff"
	var want []api.Op
	for from := 0; from < len(text); from += 4 {
		want = append(want, api.Op{At: at + from, Text: filled[from : from+4]})
	}
	sameSteps(t, "P3.1: Words", got, e, want)
	for _, o := range got {
		if !ops.May(o) {
			t.Fatalf("P3.1: Words(%d, %d bytes): %+v may not be", at, len(text), o)
		}
	}
}

// P3.1: what Words refuses, far from any flash too.
func TestWordsRefuses(t *testing.T) {
	for _, at := range append(farPlaces(), -4, -3, -1, 1, 2, 3, 5, 766, 767, 769, 772) {
		for _, text := range []string{"", "a", "abcd", mixed(0, 768), mixed(0, 5000)} {
			if got, e := ops.Words(at, text); len(got) != 0 || e != api.ErrOpsForm {
				t.Errorf("P3.1: Words(%d, %d bytes): %d steps, error %d", at, len(text), len(got), e)
			}
		}
	}
	for _, c := range []struct{ at, many int }{{0, 769}, {0, 5000}, {4, 765}, {4, 768}, {760, 9}, {764, 5}, {764, 8}, {768, 1}, {768, 4}} {
		if got, e := ops.Words(c.at, mixed(0, c.many)); len(got) != 0 || e != api.ErrOpsForm {
			t.Errorf("P3.1: Words(%d, %d bytes): %d steps, error %d", c.at, c.many, len(got), e)
		}
	}
}

// P3.1 and P3.2: a text's words, done on a blank flash in their row, are the text in its place and nothing else.
func TestWordsDone(t *testing.T) {
	for _, c := range []struct{ at, many int }{{0, 768}, {0, 767}, {192, 288}, {480, 285}, {764, 1}, {96, 24}, {768, 0}} {
		text, f := mixed(3, c.many), nor.Blank()
		steps, e := ops.Words(c.at, text)
		if e != api.OK {
			t.Fatalf("P3.1: Words(%d, %d bytes): error %d", c.at, c.many, e)
		}
		for _, o := range steps {
			if f, e = ops.Do(f, o); e != api.OK {
				t.Fatalf("P3.2: %+v: error %d", o, e)
			}
		}
		if want := strings.Repeat("\xff", c.at) + text + strings.Repeat("\xff", 768-c.at-c.many); f != want {
			t.Errorf("P3.2: %d bytes at %d are not there", c.many, c.at)
		}
	}
}

// P3.2: each step that erases: just its sector's bytes are 255.
func TestDoErase(t *testing.T) {
	for _, f := range someFlashes() {
		for _, o := range everyErase() {
			got, e := ops.Do(f, o)
			answered(t, "P3.2: Do", o, got, e, f[:o.At]+strings.Repeat("\xff", 96)+f[o.At+96:])
		}
	}
}

// P3.2: each step that programs: bits that both have, all else stays.
func TestDoProgram(t *testing.T) {
	for _, f := range someFlashes() {
		for _, o := range somePrograms() {
			got, e := ops.Do(f, o)
			answered(t, "P3.2: Do", o, got, e, programmed(f, o, 32))
		}
	}
}

// P3.2: each step that erases, cut short: just the first bytes of its sector are 255.
func TestCutErase(t *testing.T) {
	for _, f := range someFlashes() {
		for _, o := range everyErase() {
			for cut := range 97 {
				got, e := ops.Cut(f, o, cut)
				answered(t, "P3.2: Cut", o, got, e, f[:o.At]+strings.Repeat("\xff", cut)+f[o.At+cut:])
			}
		}
	}
}

// P3.2: each step that programs, cut short: just the first bits of its word, all of them from 8 Word on.
func TestCutProgram(t *testing.T) {
	for _, f := range someFlashes() {
		for _, o := range somePrograms() {
			for cut := range 97 {
				got, e := ops.Cut(f, o, cut)
				answered(t, "P3.2: Cut", o, got, e, programmed(f, o, min(cut, 32)))
			}
		}
	}
}

// P3.2: cut at 0 nothing is done, at MaxCut all of the step.
func TestCutEnds(t *testing.T) {
	for _, f := range someFlashes() {
		for _, o := range append(everyErase(), somePrograms()...) {
			none, e := ops.Cut(f, o, 0)
			answered(t, "P3.2: cut at 0", o, none, e, f)
			all, e := ops.Cut(f, o, 96)
			whole, _ := ops.Do(f, o)
			answered(t, "P3.2: cut at MaxCut", o, all, e, whole)
		}
	}
}

// P3.2: flashes that may not be are refused with ErrOpsForm, not with layer 2's error.
func TestWrongFlashes(t *testing.T) {
	for _, f := range wrongFlashes() {
		for _, o := range []api.Op{{Erase: true}, {Erase: true, At: 672}, {Text: "abcd"}, {At: 764, Text: "abcd"}, {}} {
			got, e := ops.Do(f, o)
			refused(t, "P3.2: Do of a wrong flash", got, e)
			for _, cut := range []int{-1, 0, 1, 32, 33, 96, 97} {
				got, e = ops.Cut(f, o, cut)
				refused(t, "P3.2: Cut of a wrong flash", got, e)
			}
		}
	}
}

// P3.2: steps that may not be are refused.
func TestWrongOps(t *testing.T) {
	for _, f := range someFlashes() {
		for _, o := range wrongOps() {
			got, e := ops.Do(f, o)
			refused(t, "P3.2: Do of a wrong step", got, e)
			for _, cut := range []int{-1, 0, 1, 32, 33, 96, 97} {
				got, e = ops.Cut(f, o, cut)
				refused(t, "P3.2: Cut of a wrong step", got, e)
			}
		}
	}
}

// P3.2: cuts that may not be are refused, of both kinds of step.
func TestWrongCuts(t *testing.T) {
	for _, f := range someFlashes() {
		for _, o := range append(everyErase(), somePrograms()...) {
			for _, cut := range wrongCuts() {
				got, e := ops.Cut(f, o, cut)
				refused(t, "P3.2: wrong cut", got, e)
			}
		}
	}
}

// R4: what is answered is new memory, where nothing changes too, and what was handed in stays.
func TestAnswersAreNew(t *testing.T) {
	f, text := mixed(4, 768), mixed(5, 768)
	keptFlash, keptText := strings.Clone(f), strings.Clone(text)
	o := api.Op{At: 0, Text: strings.Repeat("\xff", 4)}
	done, _ := ops.Do(f, o)
	cut, _ := ops.Cut(f, o, 0)
	worn, _ := ops.Cut(f, api.Op{Erase: true}, 0)
	seen := map[*byte]int{unsafe.StringData(f): -1, unsafe.StringData(o.Text): -2}
	for place := range len(text) {
		seen[unsafe.StringData(text[place:])] = -3
	}
	answers := []string{done, cut, worn}
	for range 2 {
		steps, _ := ops.Words(0, text)
		for _, step := range steps {
			answers = append(answers, step.Text)
		}
	}
	for i, got := range answers {
		if other, was := seen[unsafe.StringData(got)]; was {
			t.Errorf("R4: answer %d shares memory with %d", i, other)
		}
		seen[unsafe.StringData(got)] = i
	}
	if f != keptFlash || text != keptText {
		t.Error("R4: what was handed in has changed")
	}
}

// R4: a list that was answered may be changed without harm to the next one.
func TestListsAreNew(t *testing.T) {
	one, _ := ops.Words(8, "abcdefgh")
	other, _ := ops.Words(8, "abcdefgh")
	one[0] = api.Op{Erase: true}
	_ = append(one[:1], api.Op{At: 4})
	sameSteps(t, "R4: the other list", other, api.OK, []api.Op{{At: 8, Text: "abcd"}, {At: 12, Text: "efgh"}})
}

// R5: one question has one answer, whoever asks at the same time.
func TestManyAtOneTime(t *testing.T) {
	f := mixed(6, 768)
	var wait sync.WaitGroup
	for n := range 8 {
		wait.Go(func() {
			for cut := range 97 {
				at := 96 * n
				got, e := ops.Cut(f, api.Op{Erase: true, At: at}, cut)
				if e != api.OK || got != f[:at]+strings.Repeat("\xff", cut)+f[at+cut:] {
					t.Errorf("R5: Cut of sector %d, %d bytes: error %d", n, cut, e)
				}
				steps, e := ops.Words(at, f[:cut])
				if e != api.OK || len(steps) != (cut+3)/4 {
					t.Errorf("R5: Words(%d, %d bytes): %d steps, error %d", at, cut, len(steps), e)
				}
			}
		})
	}
	wait.Wait()
}
