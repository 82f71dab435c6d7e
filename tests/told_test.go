package tests

import (
	"math"
	"math/big"
	"slices"
	"strings"
	"testing"

	"loop.example/g00970/impl"
)

func noughts(count int) string { return strings.Repeat("\x00", count) }

// turned has the last byte first.
func turned(s string) string {
	out := []byte(s)
	slices.Reverse(out)
	return string(out)
}

// manyGreats are someGreats, numbers of each length, and those about the powers of 10, where there is one figure more.
func manyGreats() []string {
	list := someGreats()
	d := dice{state: 1009}
	for size := range impl.MaxGreat + 1 {
		list = append(list, d.great(size), d.great(size))
	}
	ten, one := big.NewInt(1), big.NewInt(1)
	for len(greatOfBig(ten)) <= impl.MaxGreat {
		less, more := new(big.Int).Sub(ten, one), new(big.Int).Add(ten, one)
		list = append(list, greatOfBig(less), greatOfBig(ten), greatOfBig(more))
		ten = new(big.Int).Mul(ten, big.NewInt(10))
	}
	return list
}

func checkNoGreat(t *testing.T, text string) {
	t.Helper()
	if got, ok := impl.ReadGreat(text); ok || got != "" {
		t.Errorf("ReadGreat(%.40q), of %d signs, = %x, %v; want none, false", text, len(text), got, ok)
	}
}

func TestFigureLimit(t *testing.T) {
	if impl.MaxFigures != 400 {
		t.Errorf("MaxFigures is %d, want 400", impl.MaxFigures)
	}
}

func TestGreatText(t *testing.T) {
	cases := []struct{ s, want string }{
		{"", "0"}, {"\x01", "1"}, {"\x09", "9"}, {"\x0a", "10"}, {"\x63", "99"}, {"\x64", "100"}, {"\xff", "255"}, {"\x01\x00", "256"},
		{"\x3b\x9a\xc9\xff", "999999999"}, {"\x3b\x9a\xca\x00", "1000000000"}, {"\x3b\x9a\xca\x01", "1000000001"},
		{"\xff\xff\xff\xff", "4294967295"}, {"\x01\x00\x00\x00\x00", "4294967296"},
		{"\x0d\xe0\xb6\xb3\xa7\x64\x00\x00", "1000000000000000000"}, {"\x0d\xe0\xb6\xb3\xa7\x64\x00\x05", "1000000000000000005"},
		{full(8), "18446744073709551615"}, {power(8), "18446744073709551616"},
		{full(16), "340282366920938463463374607431768211455"}, {power(16), "340282366920938463463374607431768211456"},
	}
	for _, c := range cases {
		if got := impl.GreatText(c.s); got != c.want {
			t.Errorf("GreatText(%x) = %q, want %q", c.s, got, c.want)
		}
		if got, ok := impl.ReadGreat(c.want); !ok || got != c.s {
			t.Errorf("ReadGreat(%q) = %x, %v; want %x, true", c.want, got, ok, c.s)
		}
	}
}

func TestGreatComesBackFromItsFigures(t *testing.T) {
	for _, s := range manyGreats() {
		text := impl.GreatText(s)
		if want := bigOf(s).String(); text != want {
			t.Fatalf("GreatText(%x) = %q, want %q", s, text, want)
		}
		if back, ok := impl.ReadGreat(text); !ok || back != s {
			t.Fatalf("ReadGreat(%q) = %x, %v; want %x, true", text, back, ok, s)
		}
	}
	for n := range 70000 {
		s := impl.GreatOf(n)
		if back, ok := impl.ReadGreat(impl.GreatText(s)); impl.GreatText(s) != impl.Decimal(n) || !ok || back != s {
			t.Fatalf("of %d: GreatText %q, read back %x, %v", n, impl.GreatText(s), back, ok)
		}
	}
}

func TestGreatTextOfWhatIsNotRight(t *testing.T) {
	for _, s := range wrongGreats() {
		if got := impl.GreatText(s); got != "" {
			t.Errorf("GreatText(%.20x), of %d bytes, = %q, want none", s, len(s), got)
		}
	}
}

func TestFiguresOfTheGreatest(t *testing.T) {
	most := bigOf(full(impl.MaxGreat))
	text := most.String()
	if len(text) != 386 {
		t.Fatalf("the greatest one has %d figures", len(text))
	}
	if got := impl.GreatText(full(impl.MaxGreat)); got != text {
		t.Errorf("GreatText of the greatest one = %q, want %q", got, text)
	}
	if got, ok := impl.ReadGreat(text); !ok || got != full(impl.MaxGreat) {
		t.Errorf("ReadGreat of the greatest one = %x, %v", got, ok)
	}
	for more := range 300 {
		checkNoGreat(t, new(big.Int).Add(most, big.NewInt(int64(more+1))).String())
	}
	checkNoGreat(t, new(big.Int).Lsh(most, 1).String())
	checkNoGreat(t, new(big.Int).Mul(most, most).String())
}

// From one figure more than the greatest one has on, no text has a number; MaxFigures stands among them.
func TestFiguresBeyondTheGreatest(t *testing.T) {
	sizes := []int{impl.MaxFigures - 1, impl.MaxFigures, impl.MaxFigures + 1, 420, 780, 781, 1000, 4096, impl.MaxText, 1000000}
	for size := 387; size < impl.MaxFigures; size++ {
		sizes = append(sizes, size)
	}
	for _, size := range sizes {
		for _, text := range []string{"1" + strings.Repeat("0", size-1), strings.Repeat("9", size), strings.Repeat("0", size), strings.Repeat("0", size-1) + "5"} {
			checkNoGreat(t, text)
		}
	}
}

// A number of more bits than a limb row keeps must not come round to a lesser one that is right.
func TestFiguresThatWouldComeRound(t *testing.T) {
	for bits := 8 * impl.MaxGreat; bits < 4000; bits++ {
		n := new(big.Int).Lsh(big.NewInt(1), uint(bits))
		checkNoGreat(t, n.String())
		checkNoGreat(t, n.Add(n, big.NewInt(5)).String())
	}
}

func TestNoughtsAhead(t *testing.T) {
	for _, text := range []string{"00", "000", "01", "007", "0010", "0000000001", "000000000000000001", strings.Repeat("0", 9), strings.Repeat("0", 10)} {
		checkNoGreat(t, text)
	}
	for _, s := range manyGreats() {
		text := impl.GreatText(s)
		checkNoGreat(t, "0"+text)
		checkNoGreat(t, "00"+text)
		checkNoGreat(t, strings.Repeat("0", 9)+text)
	}
}

func TestNoughtsWithinAndBehindStay(t *testing.T) {
	for size := range 385 {
		for _, text := range []string{"1" + strings.Repeat("0", size), "1" + strings.Repeat("0", size) + "7", "70" + strings.Repeat("0", size) + "3"} {
			want, _ := new(big.Int).SetString(text, 10)
			s := greatWithin(want)
			got, ok := impl.ReadGreat(text)
			if got != s || ok != (s != "") || ok && impl.GreatText(got) != text {
				t.Errorf("ReadGreat(%q) = %x, %v, told as %q", text, got, ok, impl.GreatText(got))
			}
		}
	}
}

// Each byte that is no figure stands alone, ahead of, within, and behind figures.
func TestSignsThatAreNoFigures(t *testing.T) {
	checkNoGreat(t, "")
	for b := range 256 {
		if '0' <= b && b <= '9' {
			continue
		}
		sign := string([]byte{byte(b)})
		for _, text := range []string{sign, sign + "1", "1" + sign, "1" + sign + "1", sign + "0", "0" + sign, sign + sign, "123456789" + sign, "12345678" + sign + "9", sign + "1234567890"} {
			checkNoGreat(t, text)
		}
	}
	for _, text := range []string{"1_000", "0x10", "1e3", "+5", "-5", " 5", "5 ", "5\n", "1.0", "1,000", "٣", "ff", "0b1"} {
		checkNoGreat(t, text)
	}
}

func TestEachPlaceMustBeAFigure(t *testing.T) {
	for at := range 386 {
		for _, b := range []byte{'/', ':', 'a', 0, 255} {
			text := []byte(strings.Repeat("1", 386))
			text[at] = b
			checkNoGreat(t, string(text))
		}
	}
}

func TestWhateverIsReadIsToldAgain(t *testing.T) {
	d := dice{state: 33}
	for range 5000 {
		text := make([]byte, d.below(390))
		for i := range text {
			text[i] = byte('0' + d.below(10))
		}
		want, right := new(big.Int).SetString(string(text), 10)
		right = right && want.String() == string(text) && len(want.Bytes()) <= impl.MaxGreat
		got, ok := impl.ReadGreat(string(text))
		if ok != right || !ok && got != "" || ok && (got != greatOfBig(want) || impl.GreatText(got) != string(text)) {
			t.Fatalf("ReadGreat(%q) = %x, %v", text, got, ok)
		}
	}
}

func TestBytesTold(t *testing.T) {
	cases := []struct {
		s           string
		width       int
		first, last string
	}{
		{"", 0, "", ""}, {"", 1, "\x00", "\x00"}, {"", 3, noughts(3), noughts(3)}, {"", impl.MaxGreat, noughts(impl.MaxGreat), noughts(impl.MaxGreat)},
		{"\x05", 1, "\x05", "\x05"}, {"\x05", 2, "\x00\x05", "\x05\x00"}, {"\x05", 4, "\x00\x00\x00\x05", "\x05\x00\x00\x00"},
		{"\x01\x02\x03", 3, "\x01\x02\x03", "\x03\x02\x01"}, {"\x01\x02\x03", 5, "\x00\x00\x01\x02\x03", "\x03\x02\x01\x00\x00"},
		{"\x01\x00", 2, "\x01\x00", "\x00\x01"}, {"\x01\x00", 3, "\x00\x01\x00", "\x00\x01\x00"},
		{"\x05", 0, "", ""}, {"\x01\x02\x03", 2, "", ""}, {"\x01\x02\x03", -1, "", ""}, {"", -1, "", ""}, {"", impl.MaxGreat + 1, "", ""},
	}
	for _, c := range cases {
		if first, last := impl.FirstBytes(c.s, c.width), impl.LastBytes(c.s, c.width); first != c.first || last != c.last {
			t.Errorf("%x in %d bytes: %x and %x, want %x and %x", c.s, c.width, first, last, c.first, c.last)
		}
	}
}

// checkWidth wants a number to come back from its bytes, where it has room in them.
func checkWidth(t *testing.T, s string, width int) {
	t.Helper()
	first, last := impl.FirstBytes(s, width), impl.LastBytes(s, width)
	if width < len(s) || width > impl.MaxGreat {
		if first != "" || last != "" {
			t.Fatalf("%x in %d bytes: %x and %x, want none", s, width, first, last)
		}
		return
	}
	if want := noughts(width-len(s)) + s; first != want || last != turned(want) {
		t.Fatalf("%x in %d bytes: %x and %x, want %x and this turned", s, width, first, last, want)
	}
	if back := impl.FromFirst(first); back != s {
		t.Fatalf("FromFirst(%x) = %x, want %x", first, back, s)
	}
	if back := impl.FromLast(last); back != s {
		t.Fatalf("FromLast(%x) = %x, want %x", last, back, s)
	}
}

func TestGreatComesBackFromItsBytes(t *testing.T) {
	for _, s := range manyGreats() {
		for _, width := range []int{len(s) - 1, len(s), len(s) + 1, len(s) + 7, 0, 1, 32, impl.MaxGreat - 1, impl.MaxGreat, impl.MaxGreat + 1} {
			checkWidth(t, s, width)
		}
	}
	for _, s := range []string{"", "\x01", "\xff", "\x12\x34\x56", "\x01\x00\x00", full(31), full(impl.MaxGreat - 1), full(impl.MaxGreat)} {
		for width := -3; width < impl.MaxGreat+5; width++ {
			checkWidth(t, s, width)
		}
	}
}

func TestWidthsThatAreNone(t *testing.T) {
	for _, width := range []int{-1, -2, -8, -impl.MaxGreat, math.MinInt32, math.MinInt + 1, math.MinInt, impl.MaxGreat + 1, impl.MaxGreat + 2, 256, 1 << 20, 1<<32 + 5, math.MaxInt - 1, math.MaxInt} {
		for _, s := range someGreats() {
			checkWidth(t, s, width)
		}
	}
}

func TestBytesOfWhatIsNotRight(t *testing.T) {
	for _, s := range wrongGreats() {
		for _, width := range []int{-1, 0, 1, 2, 3, 8, 9, len(s) - 1, len(s), len(s) + 1, impl.MaxGreat - 1, impl.MaxGreat, impl.MaxGreat + 1, 2 * impl.MaxGreat} {
			if first, last := impl.FirstBytes(s, width), impl.LastBytes(s, width); first != "" || last != "" {
				t.Errorf("%.20x, of %d bytes, in %d: %x and %x, want none", s, len(s), width, first, last)
			}
		}
	}
}

func TestBytesNoughtAheadAndBehind(t *testing.T) {
	cases := []struct{ b, first, last string }{
		{"", "", ""}, {"\x00", "", ""}, {"\x00\x00", "", ""}, {noughts(impl.MaxGreat), "", ""},
		{"\x05", "\x05", "\x05"}, {"\x00\x05", "\x05", "\x05\x00"}, {"\x05\x00", "\x05\x00", "\x05"},
		{"\x00\x05\x00", "\x05\x00", "\x05\x00"}, {"\x00\x01\x00\x02\x00\x00", "\x01\x00\x02\x00\x00", "\x02\x00\x01\x00"},
		{"\x01\x02\x03", "\x01\x02\x03", "\x03\x02\x01"},
		{full(impl.MaxGreat), full(impl.MaxGreat), full(impl.MaxGreat)},
		{noughts(impl.MaxGreat-1) + "\x07", "\x07", "\x07" + noughts(impl.MaxGreat-1)},
		{"\x07" + noughts(impl.MaxGreat-1), "\x07" + noughts(impl.MaxGreat-1), "\x07"},
	}
	for _, c := range cases {
		if first, last := impl.FromFirst(c.b), impl.FromLast(c.b); first != c.first || last != c.last {
			t.Errorf("of the bytes %x: %x and %x, want %x and %x", c.b, first, last, c.first, c.last)
		}
	}
}

// Whatever bytes come, the number is right, and comes to the same bytes again.
func TestBytesComeBackFromTheirGreat(t *testing.T) {
	d := dice{state: 512}
	for range 5000 {
		ahead := d.below(impl.MaxGreat + 1)
		middle := d.below(impl.MaxGreat - ahead + 1)
		b := noughts(ahead) + d.great(middle) + noughts(d.below(impl.MaxGreat-ahead-middle+1))
		first, last := impl.FromFirst(b), impl.FromLast(b)
		if !impl.GreatOk(first) || !impl.GreatOk(last) || first != greatOfBig(bigOf(b)) || last != greatOfBig(bigOf(turned(b))) {
			t.Fatalf("of the bytes %x: %x and %x", b, first, last)
		}
		if impl.FirstBytes(first, len(b)) != b || impl.LastBytes(last, len(b)) != b {
			t.Fatalf("the bytes %x come back as %x and %x", b, impl.FirstBytes(first, len(b)), impl.LastBytes(last, len(b)))
		}
	}
}

// It is the bytes that are counted, so that those that are 0 count, too.
func TestMoreBytesThanMaxGreat(t *testing.T) {
	for _, size := range []int{impl.MaxGreat + 1, impl.MaxGreat + 2, 256, 2*impl.MaxGreat + 1, 100000} {
		for _, b := range []string{full(size), noughts(size), noughts(size-1) + "\x05", "\x05" + noughts(size-1), noughts(1) + full(size-1), full(size-1) + noughts(1)} {
			if first, last := impl.FromFirst(b), impl.FromLast(b); first != "" || last != "" {
				t.Errorf("of %d bytes, from %.8x on: %x and %x, want none", size, b, first, last)
			}
		}
	}
}
