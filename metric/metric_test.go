package metric_test

import (
	"math"
	"math/rand"
	"strings"
	"testing"

	"windowpane/api"
	"windowpane/metric"
)

// wrongFonts are numbers of points that no font has.
var wrongFonts = []int{
	math.MinInt, math.MinInt + 1, -1 << 62, -1 << 32, -maxFont, -1,
	0, maxFont + 1, 1 << 32, 1<<32 + 1, 1 << 62, math.MaxInt - 1, math.MaxInt,
}

// ordinary are texts as they are written.
var ordinary = []string{
	"", "a", "i", "W", " ", "\n", "\t", "|", "Wi a", "Hello, World!", "The quick brown fox jumps over the lazy dog.",
	"a  b\nc ", "f(x) = [1; 2]: 100% @home 'til 'now' | |", "naïve café", "Жизнь", "日本語", "한국어", "e\u0301a\u036F", "a😀b",
}

// P8.1 to P8.3: all rows of the chapter's examples.
func TestExamples(t *testing.T) {
	for r, want := range map[rune]int{'i': 16, 'a': 32, 'W': 48, 'Q': 40, 0x65E5: 64, 0x0301: 0} {
		if got := metric.Share(r); got != want {
			t.Errorf("share of %U: %d, not %d", r, got, want)
		}
	}
	checkLength(t, lengthOf(metric.Width("Wi a", 10)), length{1120, 0}, "Wi a")
	bytes := string([]byte{255, 254})
	checkLength(t, lengthOf(metric.Width(bytes, 1)), length{128, 0}, "255 254")
	if got := metric.Count(bytes); got != 2 {
		t.Errorf("count of 255 254: %d", got)
	}
	checkLength(t, lengthOf(metric.Width("", 0)), length{0, api.ErrArg}, "nothing in 0")
	checkLength(t, lengthOf(metric.Up(16)), length{960, 0}, "up of 16")
	checkLength(t, lengthOf(metric.Down(16)), length{320, 0}, "down of 16")
}

// P8.1: where the rows of the table begin and end, and what is beside them;
// numbers that are no characters.
func TestShareEdges(t *testing.T) {
	for _, x := range []struct {
		share int
		l     []rune
	}{
		{0, []rune{math.MinInt32, math.MinInt32 + 1, -0x10FFFF, -0x1100, -'i', -10, -1}},
		{0, []rune{0, 1, 8, 9, 11, 12, 13, 30, 31, 0x300, 0x301, 0x36E, 0x36F}},
		{16, []rune{10, 32}},
		{16, []rune("!'(),.:;[]fijlt|")},
		{48, []rune("%@MWmw")},
		{40, []rune("ABCDEFGHIJKLNOPQRSTUVXYZ")},
		{32, []rune(`"#$&*+-/0123456789<=>?\^_` + "`" + `abcdeghknopqrsuvxyz{}~`)},
		{32, []rune{127, 128, 0xA0, 0xFF, 0x100, 0x2FE, 0x2FF, 0x370, 0x371, 0x7FF, 0x800, 0xFFF, 0x1000, 0x10FE, 0x10FF}},
		{64, []rune{0x1100, 0x1101, 0x2028, 0xD7FF, 0xD800, 0xDFFF, 0xE000, 0xFFFC, 0xFFFD, 0xFFFE, 0xFFFF, 0x10000, 0x10FFFE, 0x10FFFF}},
		{64, []rune{0x110000, 0x110001, 0x1FFFFF, 0x200000, 1 << 24, 1<<24 + 'i', 1 << 30, math.MaxInt32 - 1, math.MaxInt32}},
	} {
		for _, r := range x.l {
			if got := metric.Share(r); got != x.share {
				t.Errorf("share of %d: %d, not %d", r, got, x.share)
			}
		}
	}
}

// P8.1: all characters, and numbers around them.
func TestShareOfAll(t *testing.T) {
	for r := rune(-0x400); r < 0x110400; r++ {
		if got, want := metric.Share(r), shareByHand(r); got != want {
			t.Fatalf("share of %d: %d, not %d", r, got, want)
		}
	}
	numbers := rand.New(rand.NewSource(1))
	for range 100000 {
		r := rune(numbers.Uint32())
		if got, want := metric.Share(r), shareByHand(r); got != want {
			t.Fatalf("share of %d: %d, not %d", r, got, want)
		}
	}
}

// P8.1, P8.2: each character as a text by itself, and within another one.
func TestTextOfEach(t *testing.T) {
	for r := rune(0); r <= 0x10FFFF; r++ {
		if r >= 0xD800 && r <= 0xDFFF {
			continue
		}
		s := "W" + string(r) + "i"
		want := length{n: (48 + shareByHand(r) + 16) * 3}
		if many, got := metric.Count(s), lengthOf(metric.Width(s, 3)); many != 3 || got != want {
			t.Fatalf("%U: %d characters, %v, not %v", r, many, got, want)
		}
	}
}

// P8.1, P8.2: ordinary texts, in all fonts.
func TestOrdinary(t *testing.T) {
	for _, s := range ordinary {
		for font := -1; font <= maxFont+2; font++ {
			checkText(t, s, font)
		}
	}
	long := strings.Repeat("Will it be wide? ", 5000)
	checkText(t, long, 7)
	checkText(t, long+"日", maxFont)
}

// P8.1, P8.2: characters of one, two, three and four bytes, the least and the
// greatest ones; what is no character, and so is one of its own for each byte.
func TestCharacters(t *testing.T) {
	for _, x := range []struct {
		s          string
		many, wide int
	}{
		{"\x00", 1, 0},
		{"\x7F", 1, 32},
		{"\xC2\x80", 1, 32},
		{"\xDF\xBF", 1, 32},
		{"\xE0\xA0\x80", 1, 32},
		{"\xE1\x84\x80", 1, 64},
		{"\xED\x9F\xBF", 1, 64},
		{"\xEE\x80\x80", 1, 64},
		{"\xEF\xBF\xBD", 1, 64},
		{"\xEF\xBF\xBF", 1, 64},
		{"\xF0\x90\x80\x80", 1, 64},
		{"\xF4\x8F\xBF\xBF", 1, 64},
		{"\xCC\x80", 1, 0},
		{"\xCD\xAF", 1, 0},
		// bytes with which none begins
		{"\x80", 1, 64},
		{"\xBF", 1, 64},
		{"\xFE", 1, 64},
		{"\xFF", 1, 64},
		{"i\x80i\xFFi", 5, 176},
		{"\x80\x80\x80\x80", 4, 256},
		// not the shortest
		{"\xC0\x80", 2, 128},
		{"\xC1\xBF", 2, 128},
		{"\xC1\xA9", 2, 128},
		{"\xE0\x80\x80", 3, 192},
		{"\xE0\x9F\xBF", 3, 192},
		{"\xE0\x8C\x80", 3, 192},
		{"\xF0\x80\x80\x80", 4, 256},
		{"\xF0\x8F\xBF\xBF", 4, 256},
		// surrogates, a pair of them, and above the greatest
		{"\xED\xA0\x80", 3, 192},
		{"\xED\xBF\xBF", 3, 192},
		{"\xED\xA0\x80\xED\xB0\x80", 6, 384},
		{"\xF4\x90\x80\x80", 4, 256},
		{"\xF5\x80\x80\x80", 4, 256},
		{"\xF7\xBF\xBF\xBF", 4, 256},
		{"\xF8\x88\x80\x80\x80", 5, 320},
		{"\xFC\x84\x80\x80\x80\x80", 6, 384},
		// one more byte than it has
		{"a\x80", 2, 96},
		{"\xCC\x80\x80", 2, 64},
		{"\xE0\xA0\x80\x80", 2, 96},
	} {
		if got := metric.Count(x.s); got != x.many {
			t.Errorf("count of %q: %d, not %d", x.s, got, x.many)
		}
		checkLength(t, lengthOf(metric.Width(x.s, 1)), length{n: x.wide}, x.s)
		checkText(t, x.s, 9)
	}
}

// P8.1, P8.2: characters that are cut off at each of their bytes, at the
// text's end, within it, and at its beginning.
func TestCutOff(t *testing.T) {
	for _, whole := range []string{"\u0080", "\u0301", "\u07FF", "\u0800", "日", "\uFFFD", "\uFFFF", "\U00010000", "😀", "\U0010FFFF"} {
		for cut := 1; cut < len(whole); cut++ {
			front, rest := whole[:cut], whole[cut:]
			for _, around := range []string{"", "i", "W", "\u0301", "日", "😀", front, rest + "|"} {
				for _, s := range []string{around + front, front + around, around + front + around, around + rest, rest + around} {
					checkText(t, s, 1)
				}
			}
			want := length{n: 16 + 64*cut + 16}
			if many, got := metric.Count("i"+front+"i"), lengthOf(metric.Width("i"+front+"i", 1)); many != cut+2 || got != want {
				t.Errorf("%q between: %d characters, %v, not %v", front, many, got, want)
			}
		}
	}
}

// P8.1, P8.2: all texts of up to two bytes; all of three of the bytes where a
// form begins or ends, by themselves and with some fourth ones behind them.
func TestBytes(t *testing.T) {
	checkText(t, "", 1)
	for a := range 256 {
		checkText(t, string([]byte{byte(a)}), 1)
		for b := range 256 {
			checkText(t, string([]byte{byte(a), byte(b)}), 1)
		}
	}
	edges := []byte{'i', 0x7F, 0x80, 0x8F, 0x90, 0x9F, 0xA0, 0xBF, 0xC1, 0xC2, 0xCC, 0xE0, 0xE1, 0xED, 0xEF, 0xF0, 0xF1, 0xF4, 0xF5}
	for _, a := range edges {
		for _, b := range edges {
			for _, c := range edges {
				checkText(t, string([]byte{a, b, c}), 1)
				checkText(t, string([]byte{a, b, c, 0x80}), 1)
				checkText(t, string([]byte{a, b, c, 0xBF}), 1)
				checkText(t, string([]byte{a, b, c, 'i'}), 1)
			}
		}
	}
}

// P8.1, P8.2: texts of whatever bytes and characters, by a fixed seed.
func TestTextsBySeed(t *testing.T) {
	numbers := rand.New(rand.NewSource(2))
	for range 4000 {
		checkText(t, textBySeed(numbers), 1+numbers.Intn(maxFont))
	}
}

// textBySeed tells a text of characters of all lengths, and of bytes.
func textBySeed(numbers *rand.Rand) string {
	s := ""
	for range numbers.Intn(12) {
		if numbers.Intn(3) == 0 {
			s += string([]byte{byte(numbers.Intn(256))})
			continue
		}
		s += string(rune(numbers.Intn(1 << (1 + numbers.Intn(20)))))
	}
	return s
}

// P8.2: ErrArg, whatever the text, and no width beside it.
func TestWidthOfWrongFonts(t *testing.T) {
	for _, font := range wrongFonts {
		for _, s := range append([]string{"\x00", "\xFF", "\u0301"}, ordinary...) {
			checkLength(t, lengthOf(metric.Width(s, font)), length{0, api.ErrArg}, s, " in ", font)
		}
	}
	checkLength(t, lengthOf(metric.Width("W", 1)), length{48, 0}, "the least font")
	checkLength(t, lengthOf(metric.Width("W", maxFont)), length{48000, 0}, "the greatest font")
	checkLength(t, lengthOf(metric.Width("", 1)), length{}, "nothing in 1")
	checkLength(t, lengthOf(metric.Width("", maxFont)), length{}, "nothing in the greatest font")
}

// P8.2: widths of just MaxCoord, below it, above it; ErrArg goes ahead.
func TestWidthAtBound(t *testing.T) {
	most := strings.Repeat("\xFF", 1<<25) // 2^31 64ths of a font's size
	part := most[:17179869]               // as many whole shares as go into MaxCoord, in a font of 1000
	over := length{0, api.ErrOver}
	for _, x := range []struct {
		s    string
		font int
		want length
	}{
		{most, 511, length{n: maxCoord / 512 * 511}},
		{most, 512, length{n: maxCoord}},
		{most, 513, over},
		{most, maxFont, over},
		{most + "\u0301\x00", 512, length{n: maxCoord}},
		{most + "i", 512, over},
		{most[1:], 512, length{n: maxCoord - 64*512}},
		{most[1:] + "Wi", 512, length{n: maxCoord}},
		{most[1:] + "WW", 512, over},
		{part, maxFont, length{n: maxCoord - 11776}},
		{part + "i", maxFont, over},
		{part + "i", maxFont - 1, length{n: 1099511632 * 999}},
		{most, maxFont + 1, length{0, api.ErrArg}},
		{most, 0, length{0, api.ErrArg}},
		{most, math.MinInt, length{0, api.ErrArg}},
		{most, math.MaxInt, length{0, api.ErrArg}},
	} {
		checkLength(t, lengthOf(metric.Width(x.s, x.font)), x.want, len(x.s), " bytes in ", x.font)
	}
	if got := metric.Count(most); got != 1<<25 {
		t.Errorf("count: %d", got)
	}
}

// P8.3: all fonts, and numbers of points that none has.
func TestUpDown(t *testing.T) {
	for font := 1; font <= maxFont; font++ {
		checkLength(t, lengthOf(metric.Up(font)), length{n: 60 * font}, "up of ", font)
		checkLength(t, lengthOf(metric.Down(font)), length{n: 20 * font}, "down of ", font)
	}
	for _, font := range wrongFonts {
		checkLength(t, lengthOf(metric.Up(font)), length{0, api.ErrArg}, "up of ", font)
		checkLength(t, lengthOf(metric.Down(font)), length{0, api.ErrArg}, "down of ", font)
	}
}

// P0.3: behind calls that were refused all are answered as ahead of them.
func TestRefusedChangesNothing(t *testing.T) {
	for _, font := range wrongFonts {
		metric.Width("Wi a", font)
		metric.Up(font)
		metric.Down(font)
		checkLength(t, lengthOf(metric.Width("Wi a", 10)), length{1120, 0}, "behind ", font)
		checkLength(t, lengthOf(metric.Up(16)), length{960, 0}, "behind ", font)
		checkLength(t, lengthOf(metric.Down(16)), length{320, 0}, "behind ", font)
	}
}
