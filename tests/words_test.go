package tests

import (
	"math"
	"slices"
	"strconv"
	"strings"
	"testing"

	"loop.example/g00970/impl"
)

func everyByte() string {
	all := make([]byte, 256)
	for i := range all {
		all[i] = byte(i)
	}
	return string(all)
}

func TestWordLimits(t *testing.T) {
	got := [4]int{impl.MaxText, impl.MaxNumber, impl.MaxWords, impl.MaxParts}
	if want := [4]int{20000, 1000000000, 600, 12}; got != want {
		t.Errorf("limits are %v, want %v", got, want)
	}
}

func TestHexWritesTwoFiguresForEachByte(t *testing.T) {
	cases := []struct{ text, want string }{
		{"", ""},
		{"az", "617a"},
		{"\x00", "00"},
		{"\x0f\xf0", "0ff0"},
		{"\xff\x10\x9a", "ff109a"},
		{" \n", "200a"},
		{"é", "c3a9"},
	}
	for _, c := range cases {
		if got, ok := impl.Hex(c.text); !ok || got != c.want {
			t.Errorf("Hex(%q) = %q, %v; want %q, true", c.text, got, ok, c.want)
		}
	}
}

func TestHexComesBack(t *testing.T) {
	texts := []string{"", "a", "az", "\x00\x00", everyByte(), "é\xff", strings.Repeat("\xfe", impl.MaxText-1), strings.Repeat("k", impl.MaxText)}
	for i := range 256 {
		texts = append(texts, string([]byte{byte(i)}))
	}
	for _, text := range texts {
		figures, ok := impl.Hex(text)
		if !ok || len(figures) != 2*len(text) {
			t.Fatalf("Hex of %d bytes gives %d figures, %v", len(text), len(figures), ok)
		}
		if back, ok := impl.Unhex(figures); !ok || back != text {
			t.Errorf("Unhex(Hex) of %d bytes beginning %.8q does not come back (%v)", len(text), text, ok)
		}
	}
}

func TestHexRefusesMoreThanMaxText(t *testing.T) {
	for _, size := range []int{impl.MaxText + 1, 2 * impl.MaxText} {
		if got, ok := impl.Hex(strings.Repeat("a", size)); ok || got != "" {
			t.Errorf("Hex of %d bytes gives %d figures, %v; want none, false", size, len(got), ok)
		}
	}
}

// Of each byte at each of two places, Unhex takes just those that Hex writes there.
func TestUnhexTakesOnlyWhatHexWrites(t *testing.T) {
	for i := range 256 {
		b := string([]byte{byte(i)})
		want := strings.Contains("0123456789abcdef", b)
		for _, text := range []string{b + "0", "0" + b, "61" + b + "1", "611" + b} {
			got, ok := impl.Unhex(text)
			if ok != want {
				t.Errorf("Unhex(%q) = %v, want %v", text, ok, want)
			}
			if !ok && got != "" {
				t.Errorf("Unhex(%q) = %q beside false", text, got)
			}
			if again, _ := impl.Hex(got); ok && again != text {
				t.Errorf("Hex(Unhex(%q)) = %q", text, again)
			}
		}
	}
}

func TestUnhexRefuses(t *testing.T) {
	texts := []string{
		"0", "617", "6G", "6A", "FF", "fF", "g0", "0x61", " 61", "61 ", "6 1", "+1", "-1", "61\n", "é", "６1",
		strings.Repeat("0", 2*impl.MaxText+1),
		strings.Repeat("0", 2*impl.MaxText+2),
		strings.Repeat("0", 2*impl.MaxText-1) + "g",
	}
	for _, text := range texts {
		if got, ok := impl.Unhex(text); ok || got != "" {
			t.Errorf("Unhex of %d bytes beginning %.8q = %.8q, %v; want nothing, false", len(text), text, got, ok)
		}
	}
}

func TestDecimalOfEveryInt(t *testing.T) {
	cases := []struct {
		n    int
		want string
	}{
		{0, "0"}, {1, "1"}, {9, "9"}, {10, "10"}, {100, "100"}, {101, "101"}, {907, "907"},
		{-1, "-1"}, {-5, "-5"}, {-10, "-10"}, {-100, "-100"},
		{impl.MaxNumber, "1000000000"}, {impl.MaxNumber + 1, "1000000001"}, {-impl.MaxNumber, "-1000000000"},
		{math.MaxInt, "9223372036854775807"},
		{-math.MaxInt, "-9223372036854775807"},
		{math.MinInt, "-9223372036854775808"},
	}
	for _, c := range cases {
		if got := impl.Decimal(c.n); got != c.want {
			t.Errorf("Decimal(%d) = %q, want %q", c.n, got, c.want)
		}
	}
}

func TestDecimalComesBack(t *testing.T) {
	numbers := []int{impl.MaxNumber, impl.MaxNumber - 1, 999999999, 123456789, 100000000}
	for n := range 2000 {
		numbers = append(numbers, n)
	}
	for n := 1; n < impl.MaxNumber; n = n*3 + 1 {
		numbers = append(numbers, n)
	}
	for _, n := range numbers {
		if back, ok := impl.ReadDecimal(impl.Decimal(n)); !ok || back != n {
			t.Errorf("ReadDecimal(Decimal(%d)) = %d, %v", n, back, ok)
		}
	}
}

func TestReadDecimalRefusesNumbersOutside(t *testing.T) {
	for _, n := range []int{impl.MaxNumber + 1, impl.MaxNumber * 10, math.MaxInt, -1, -5, -impl.MaxNumber, math.MinInt} {
		if got, ok := impl.ReadDecimal(impl.Decimal(n)); ok || got != 0 {
			t.Errorf("ReadDecimal(Decimal(%d)) = %d, %v; want 0, false", n, got, ok)
		}
	}
}

func TestReadDecimalRefusesOtherForms(t *testing.T) {
	texts := []string{
		"", "-", "+", "-0", "+0", "+5", "--5", "00", "01", "007", "00000000001", "01000000000",
		" 5", "5 ", "5\n", "1 0", "1_000", "1,000", "0x1f", "0b1", "1e3", "1.0", "a", "1a", "a1", "٣", "５", "1\x00", "\xff",
		"9223372036854775808", "18446744073709551616", "18446744073709551621", "36893488147419103237",
		strings.Repeat("0", 40), strings.Repeat("9", 5000), strings.Repeat("0", 5000) + "7",
	}
	for _, text := range texts {
		if got, ok := impl.ReadDecimal(text); ok || got != 0 {
			t.Errorf("ReadDecimal(%.20q) = %d, %v; want 0, false", text, got, ok)
		}
	}
}

// Each text of up to three bytes out of a few is taken just when it is the Decimal of what is told.
func TestReadDecimalTakesOnlyWhatDecimalWrites(t *testing.T) {
	texts := []string{""}
	for from, size := 0, 1; size <= 3; size++ {
		upTo := len(texts)
		for _, head := range texts[from:upTo] {
			for _, b := range "0159-+ _ax/:" {
				texts = append(texts, head+string(b))
			}
		}
		from = upTo
	}
	written := map[string]int{}
	for n := range 1000 {
		written[strconv.Itoa(n)] = n
	}
	for _, text := range texts {
		want, right := written[text]
		if got, ok := impl.ReadDecimal(text); ok != right || got != want {
			t.Errorf("ReadDecimal(%q) = %d, %v; want %d, %v", text, got, ok, want, right)
		}
	}
}

func TestPartsOf(t *testing.T) {
	twelve := strings.Fields("a b c d e f g h i j k l")
	cases := []struct {
		line string
		want []string
	}{
		{"", nil},
		{" ", nil},
		{"     ", nil},
		{strings.Repeat(" ", impl.MaxWords), nil},
		{"a", []string{"a"}},
		{" a", []string{"a"}},
		{"a ", []string{"a"}},
		{" step  1 ", []string{"step", "1"}},
		{"   one   two three   ", []string{"one", "two", "three"}},
		{"b a b", []string{"b", "a", "b"}},
		{"! ~ !~", []string{"!", "~", "!~"}},
		{strings.Join(twelve, " "), twelve},
		{"  " + strings.Join(twelve, "   ") + "  ", twelve},
		{strings.Repeat("x", impl.MaxWords), []string{strings.Repeat("x", impl.MaxWords)}},
		{"x" + strings.Repeat(" ", impl.MaxWords-2) + "y", []string{"x", "y"}},
	}
	for _, c := range cases {
		if got, ok := impl.PartsOf(c.line); !ok || !slices.Equal(got, c.want) {
			t.Errorf("PartsOf(%.40q) = %q, %v; want %q, true", c.line, got, ok, c.want)
		}
	}
}

func TestPartsOfRefuses(t *testing.T) {
	lines := []string{
		strings.Repeat("x", impl.MaxWords+1),
		strings.Repeat(" ", impl.MaxWords+1),
		"a" + strings.Repeat(" ", impl.MaxWords),
		"a b c d e f g h i j k l m",
		" a b c d e f g h i j k l m ",
		"a b c d e f g h i j k l  m",
		strings.Repeat("a ", impl.MaxWords/2),
		"a\tb", "a\nb", "\n", "a\r", "é", "a b c\x7f",
	}
	for _, line := range lines {
		if got, ok := impl.PartsOf(line); ok || len(got) != 0 {
			t.Errorf("PartsOf(%.40q) = %q, %v; want none, false", line, got, ok)
		}
	}
}

func TestPartsOfLooksAtEachByte(t *testing.T) {
	for i := range 256 {
		b := string([]byte{byte(i)})
		want := i >= 32 && i <= 126
		for _, line := range []string{b, b + "a", "a" + b, "a " + b + " c", "a b" + b + "c", strings.Repeat(" ", impl.MaxWords-1) + b} {
			got, ok := impl.PartsOf(line)
			if ok != want || !ok && len(got) != 0 {
				t.Errorf("PartsOf of a line with the byte %d = %q, %v; want %v", i, got, ok, want)
			}
			if ok && !slices.Equal(got, slices.DeleteFunc(strings.Split(line, " "), func(p string) bool { return p == "" })) {
				t.Errorf("PartsOf(%.40q) = %q", line, got)
			}
		}
	}
}

func TestPartsOfKeepsNothing(t *testing.T) {
	first, _ := impl.PartsOf("one two")
	first[0] = "other"
	_ = append(first, "more")
	if again, ok := impl.PartsOf("one two"); !ok || !slices.Equal(again, []string{"one", "two"}) {
		t.Errorf("PartsOf after its last answer was written into = %q, %v", again, ok)
	}
}

func TestBrought(t *testing.T) {
	cases := []struct{ n, least, most, want int }{
		{9, 1, 5, 5}, {0, 1, 5, 1}, {3, 1, 5, 3},
		{1, 1, 5, 1}, {5, 1, 5, 5}, {6, 1, 5, 5}, {2, 1, 5, 2}, {4, 1, 5, 4},
		{-7, -5, -1, -5}, {-3, -5, -1, -3}, {0, -5, -1, -1},
		{7, 4, 4, 4}, {4, 4, 4, 4}, {1, 4, 4, 4},
		{0, 5, 1, 5}, {3, 5, 1, 5}, {9, 5, 1, 5}, {5, 5, 4, 5}, {4, 5, 4, 5},
		{math.MinInt, 0, 1000, 0}, {math.MaxInt, 0, 1000, 1000},
		{7, math.MinInt, math.MaxInt, 7},
		{math.MinInt, math.MinInt, math.MaxInt, math.MinInt}, {math.MaxInt, math.MinInt, math.MaxInt, math.MaxInt},
		{0, math.MaxInt, math.MinInt, math.MaxInt},
	}
	for _, c := range cases {
		if got := impl.Brought(c.n, c.least, c.most); got != c.want {
			t.Errorf("Brought(%d, %d, %d) = %d, want %d", c.n, c.least, c.most, got, c.want)
		}
	}
}

func TestWhatIsBroughtStaysBetween(t *testing.T) {
	for n := -6; n <= 6; n++ {
		for least := -4; least <= 4; least++ {
			for most := least; most <= 4; most++ {
				got := impl.Brought(n, least, most)
				if got < least || got > most || n >= least && n <= most && got != n {
					t.Errorf("Brought(%d, %d, %d) = %d", n, least, most, got)
				}
				if again := impl.Brought(got, least, most); again != got {
					t.Errorf("Brought(%d, %d, %d) = %d, not as it is", got, least, most, again)
				}
			}
		}
	}
}
