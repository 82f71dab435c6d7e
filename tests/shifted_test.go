package tests

import (
	"math/big"
	"testing"

	"loop.example/g00970/impl"
)

const lowBase = 16777216

// shiftBig is the shift of p: 2 to the power of 24 times its limbs.
func shiftBig(p string) *big.Int {
	limbs := uint((len(p) + 2) / 3)
	return new(big.Int).Lsh(big.NewInt(1), 24*limbs)
}

// oddPs are those of somePs that are odd, and others in each of the sizes about a few limbs and about MaxGreat.
func oddPs() []string {
	var list []string
	for _, p := range somePs() {
		if bigOf(p).Bit(0) == 1 {
			list = append(list, p)
		}
	}
	d := dice{state: 24}
	for _, size := range []int{1, 2, 3, 4, 5, 6, 7, 8, 9, 47, 48, 49, 156, 157, 158, 159, 160} {
		list = append(list, full(size), "\x81"+full(size-1), d.odd(size), d.odd(size))
		if size > 1 {
			list = append(list, power(size-2)+"\x01", "\x80"+noughts(size-2)+"\x01", full(size-1)+"\xfd")
		}
	}
	return list
}

// odd tells an odd number above 1, of so many bytes.
func (d *dice) odd(size int) string {
	b := []byte(d.great(size))
	b[len(b)-1] |= 1
	if size == 1 {
		b[0] |= 2
	}
	return string(b)
}

// noShiftPs have no shift: they are even, 1, or not right.
func noShiftPs() []string {
	list := append(wrongGreats(), "", "\x01", "\x00\x03", "\x00\x00\x07", power(impl.MaxGreat-1), full(impl.MaxGreat-1)+"\xfe")
	for _, p := range somePs() {
		if bigOf(p).Bit(0) == 0 {
			list = append(list, p)
		}
	}
	return list
}

// beforeTaking is what comes of a and b ahead of the last taking away of p: their product, and p as often as makes
// it divisible by the shift, over the shift.
func beforeTaking(a, b, p string) *big.Int {
	shift := shiftBig(p)
	product := new(big.Int).Mul(bigOf(a), bigOf(b))
	times := new(big.Int).ModInverse(bigOf(p), shift)
	times.Mul(times.Neg(times), product)
	times.Mod(times, shift)
	product.Add(product, times.Mul(times, bigOf(p)))
	return product.Div(product, shift)
}

func checkShifted(t *testing.T, a, p string) {
	t.Helper()
	shift := shiftBig(p)
	if got, want := impl.ShiftIn(a, p), restOfBig(new(big.Int).Mul(bigOf(a), shift), p); got != want || got != impl.MulRest(a, impl.ShiftOf(p), p) {
		t.Fatalf("ShiftIn(%x, %x) = %x, want %x", a, p, got, want)
	}
	inverse := new(big.Int).ModInverse(shift, bigOf(p))
	if got, want := impl.ShiftOut(a, p), restOfBig(inverse.Mul(inverse, bigOf(a)), p); got != want {
		t.Fatalf("ShiftOut(%x, %x) = %x, want %x", a, p, got, want)
	}
	if in, out := impl.ShiftOut(impl.ShiftIn(a, p), p), impl.ShiftIn(impl.ShiftOut(a, p), p); in != a || out != a {
		t.Fatalf("%x by %x comes back as %x and %x", a, p, in, out)
	}
}

func checkShiftMul(t *testing.T, a, b, p string) {
	t.Helper()
	want := new(big.Int).ModInverse(shiftBig(p), bigOf(p))
	want.Mul(want, bigOf(a)).Mul(want, bigOf(b))
	got := impl.ShiftMul(a, b, p)
	if got != restOfBig(want, p) || got != impl.ShiftOut(impl.MulRest(a, b, p), p) {
		t.Fatalf("ShiftMul(%x, %x, %x) = %x, want %x", a, b, p, got, restOfBig(want, p))
	}
	shifted := impl.ShiftMul(impl.ShiftIn(a, p), impl.ShiftIn(b, p), p)
	product := impl.MulRest(a, b, p)
	if shifted != impl.ShiftIn(product, p) || impl.ShiftOut(shifted, p) != product {
		t.Fatalf("%x and %x by %x, shifted, come to %x; want %x, shifted", a, b, p, shifted, product)
	}
}

func checkLowInverse(t *testing.T, p string) {
	t.Helper()
	got := impl.LowInverse(p)
	left := new(big.Int).Mul(bigOf(p), big.NewInt(int64(got)))
	left.Mod(left, big.NewInt(lowBase))
	if got <= 0 || got >= lowBase || left.Int64() != lowBase-1 {
		t.Fatalf("LowInverse(%x) = %d, which times it leaves %d", p, got, left)
	}
}

func TestLimbsOf(t *testing.T) {
	if impl.LimbsOf("") != 0 || impl.LimbsOf(full(impl.MaxGreat)) != 54 {
		t.Errorf("LimbsOf 0 = %d, of the greatest number %d", impl.LimbsOf(""), impl.LimbsOf(full(impl.MaxGreat)))
	}
	for i, want := range []int{1, 1, 1, 2, 2, 2, 3, 3, 3, 4} {
		for _, p := range []string{full(i + 1), power(i), "\x80" + noughts(i), "\x02" + noughts(i)} {
			if got := impl.LimbsOf(p); got != want {
				t.Errorf("LimbsOf(%x) = %d, want %d", p, got, want)
			}
		}
	}
	for size := range impl.MaxGreat + 1 {
		want := size / 3
		if size%3 != 0 {
			want++
		}
		if got := impl.LimbsOf(full(size)); got != want {
			t.Errorf("LimbsOf %d bytes = %d, want %d", size, got, want)
		}
	}
	for _, p := range wrongGreats() {
		if got := impl.LimbsOf(p); got != 0 {
			t.Errorf("LimbsOf(%.20x), of %d bytes, = %d, want 0", p, len(p), got)
		}
	}
}

func TestShiftedByHand(t *testing.T) {
	cases := []struct{ what, got, want string }{
		{"16777216 by 3", impl.ShiftOf("\x03"), "\x01"},
		{"16777216 by 5", impl.ShiftOf("\x05"), "\x01"},
		{"16777216 by 7", impl.ShiftOf("\x07"), "\x01"},
		{"16777216 by 11", impl.ShiftOf("\x0b"), "\x05"},
		{"16777216 by 101", impl.ShiftOf("\x65"), "\x05"},
		{"16777216 by 16777215", impl.ShiftOf("\xff\xff\xff"), "\x01"},
		{"16777216 by 16777213", impl.ShiftOf("\xff\xff\xfd"), "\x03"},
		{"16777216 twice by 16777217", impl.ShiftOf("\x01\x00\x00\x01"), "\x01"},
		{"16777216 twice by 16777219", impl.ShiftOf("\x01\x00\x00\x03"), "\x09"},
		{"2 in by 11", impl.ShiftIn("\x02", "\x0b"), "\x0a"},
		{"3 in by 11", impl.ShiftIn("\x03", "\x0b"), "\x04"},
		{"0 in by 11", impl.ShiftIn("", "\x0b"), ""},
		{"10 out by 11", impl.ShiftOut("\x0a", "\x0b"), "\x02"},
		{"4 out by 11", impl.ShiftOut("\x04", "\x0b"), "\x03"},
		{"1 out by 11", impl.ShiftOut("\x01", "\x0b"), "\x09"},
		{"0 out by 11", impl.ShiftOut("", "\x0b"), ""},
		{"10 and 4 by 11", impl.ShiftMul("\x0a", "\x04", "\x0b"), "\x08"},
		{"5 and 5 by 11", impl.ShiftMul("\x05", "\x05", "\x0b"), "\x05"},
		{"2 and 2 by 3", impl.ShiftMul("\x02", "\x02", "\x03"), "\x01"},
		{"3 and 3 by 9", impl.ShiftMul("\x03", "\x03", "\x09"), ""},
		{"16777214 and itself by 16777215", impl.ShiftMul("\xff\xff\xfe", "\xff\xff\xfe", "\xff\xff\xff"), "\x01"},
	}
	for _, c := range cases {
		if c.got != c.want {
			t.Errorf("%s: %x, want %x", c.what, c.got, c.want)
		}
	}
}

func TestShiftOf(t *testing.T) {
	for _, p := range oddPs() {
		got := impl.ShiftOf(p)
		if want := restOfBig(shiftBig(p), p); got != want || !impl.RestOk(got, p) {
			t.Errorf("ShiftOf(%x) = %x, want %x", p, got, want)
		}
		if got != impl.ShiftIn("\x01", p) || impl.ShiftOut(got, p) != "\x01" {
			t.Errorf("ShiftOf(%x) = %x is not 1, shifted", p, got)
		}
	}
}

func TestAllShiftedOfSmallNumbers(t *testing.T) {
	for n := 3; n <= 63; n += 2 {
		p := impl.GreatOf(n)
		for x := range n {
			checkShifted(t, impl.GreatOf(x), p)
			for y := range n {
				checkShiftMul(t, impl.GreatOf(x), impl.GreatOf(y), p)
			}
		}
	}
}

func TestShiftedOfManyNumbers(t *testing.T) {
	d := dice{state: 55}
	for _, p := range oddPs() {
		rests := someRests(p, &d)
		for i, a := range rests {
			checkShifted(t, a, p)
			for _, b := range rests[i:] {
				checkShiftMul(t, a, b, p)
				checkShiftMul(t, b, a, p)
			}
		}
	}
	for range 1500 {
		p := d.odd(1 + d.below(impl.MaxGreat))
		a, b := d.restBelow(p), d.restBelow(p)
		checkShifted(t, a, p)
		checkShiftMul(t, a, b, p)
	}
}

// What is shifted in stays so through a chain of products, in any order.
func TestShiftedInAnyOrder(t *testing.T) {
	d := dice{state: 77}
	for _, p := range oddPs() {
		a, b, c := d.restBelow(p), d.restBelow(p), d.restBelow(p)
		x, y, z := impl.ShiftIn(a, p), impl.ShiftIn(b, p), impl.ShiftIn(c, p)
		one := impl.ShiftMul(impl.ShiftMul(x, y, p), z, p)
		other := impl.ShiftMul(y, impl.ShiftMul(z, x, p), p)
		if want := impl.MulRest(impl.MulRest(a, b, p), c, p); one != other || impl.ShiftOut(one, p) != want {
			t.Errorf("%x, %x and %x by %x, shifted: %x and %x", a, b, c, p, one, other)
		}
		if impl.ShiftMul(x, impl.ShiftOf(p), p) != x || impl.ShiftMul(x, "\x01", p) != a || impl.ShiftMul("", x, p) != "" {
			t.Errorf("%x by %x, times 1 shifted, 1, and 0", x, p)
		}
	}
}

// A product that is a multiple of p, and not 0, is p itself ahead of the last taking away.
func TestShiftedIsPItself(t *testing.T) {
	most := full(impl.MaxGreat)
	d := dice{state: 15}
	parts := [][2]string{
		{"\x03", "\x03"}, {"\x03", "\x05"}, {"\x05", "\x33"}, {"\x03", "\x55\x55\x55"}, {"\xff\xff\xff", "\xff\xff\xff"}, {"\x0f\xff", "\x10\x01"},
		{"\x03", greatOfBig(new(big.Int).Div(bigOf(most), big.NewInt(3)))},
		{d.odd(80), d.odd(80)}, {d.odd(79), d.odd(80)}, {d.odd(79), d.odd(79)}, {d.odd(1), d.odd(158)}, {d.odd(24), d.odd(24)}, {d.odd(2), d.odd(3)},
	}
	for _, c := range parts {
		a, b := c[0], c[1]
		p := impl.MulGreat(a, b)
		for _, more := range []string{"\x01", "\x02"} {
			x := impl.MulGreat(a, more)
			if beforeTaking(x, b, p).Cmp(bigOf(p)) != 0 {
				t.Fatalf("%x and %x by %x do not come to it", x, b, p)
			}
			if got, other := impl.ShiftMul(x, b, p), impl.ShiftMul(b, x, p); got != "" || other != "" {
				t.Errorf("ShiftMul(%x, %x, %x) = %x and %x, want 0", x, b, p, got, other)
			}
		}
	}
}

func TestShiftedIsOneLessThanP(t *testing.T) {
	for _, p := range oddPs() {
		last := lessBy(p, 1)
		a := impl.ShiftIn(last, p)
		if beforeTaking(a, "\x01", p).Cmp(bigOf(last)) != 0 {
			t.Fatalf("%x by %x does not come to one less", a, p)
		}
		if out, product, turned := impl.ShiftOut(a, p), impl.ShiftMul(a, "\x01", p), impl.ShiftMul(last, impl.ShiftOf(p), p); out != last || product != last || turned != last {
			t.Errorf("one less than %x comes out as %x, %x and %x", p, out, product, turned)
		}
	}
}

// By a p of whole limbs of 255 alone, what is one more than p has a limb more than p.
func TestShiftedIsOneMoreThanP(t *testing.T) {
	for _, size := range []int{3, 6, 9, 48, 156, 159} {
		p := full(size)
		last := lessBy(p, 1)
		if beforeTaking(last, last, p).Cmp(shiftBig(p)) != 0 {
			t.Fatalf("one less than %d bytes, times itself, does not come to the shift", size)
		}
		if got := impl.ShiftMul(last, last, p); got != "\x01" {
			t.Errorf("ShiftMul of one less than %d bytes = %x, want 1", size, got)
		}
	}
}

// Each side of p is come to, by many a p, ahead of the last taking away.
func TestShiftedOnBothSidesOfP(t *testing.T) {
	d := dice{state: 31}
	for _, size := range []int{3, 6, 48, 156, 159} {
		sides := map[int]int{}
		for range 400 {
			p := d.odd(size)
			a, b := lessBy(p, int64(1+d.below(2))), d.restBelow(p)
			before := beforeTaking(a, b, p)
			sides[before.Cmp(bigOf(p))]++
			if got, want := impl.ShiftMul(a, b, p), restOfBig(before, p); got != want {
				t.Fatalf("ShiftMul(%x, %x, %x) = %x, want %x", a, b, p, got, want)
			}
		}
		if sides[-1] == 0 || sides[1] == 0 {
			t.Errorf("of %d bytes: %d below p, %d above", size, sides[-1], sides[1])
		}
	}
}

func TestLowInverse(t *testing.T) {
	cases := []struct {
		p    string
		want int
	}{
		{"\x01", 16777215}, {"\x03", 5592405}, {"\x05", 3355443}, {"\xff\xff\xff", 1}, {"\x01\x00\x00\x01", 16777215}, {"\xff\x00\x00\x03", 5592405}, {"\x7f\xff\xff", 8388609},
		{"", 0}, {"\x02", 0}, {"\x04", 0}, {"\xfe", 0}, {"\x01\x00", 0}, {"\x03\x00", 0}, {"\x01\x00\x00\x00", 0}, {full(impl.MaxGreat-1) + "\xfe", 0},
	}
	for _, c := range cases {
		if got := impl.LowInverse(c.p); got != c.want {
			t.Errorf("LowInverse(%x) = %d, want %d", c.p, got, c.want)
		}
	}
	for n := 1; n < 1<<18; n += 2 {
		checkLowInverse(t, impl.GreatOf(n))
	}
	for n := 1<<24 - 2001; n < 1<<24+2000; n += 2 {
		checkLowInverse(t, impl.GreatOf(n))
	}
	d := dice{state: 24}
	for _, p := range oddPs() {
		checkLowInverse(t, p)
	}
	for range 20000 {
		checkLowInverse(t, d.odd(1+d.below(impl.MaxGreat)))
	}
	for _, p := range append(wrongGreats(), "\x00\x03", "\x00\x00\x07") {
		if got := impl.LowInverse(p); got != 0 {
			t.Errorf("LowInverse(%.20x), of %d bytes, = %d, want 0", p, len(p), got)
		}
	}
}

func TestNumbersWithoutShift(t *testing.T) {
	for _, p := range noShiftPs() {
		if got := impl.ShiftOf(p); got != "" {
			t.Errorf("ShiftOf(%.20x) = %x, want none", p, got)
		}
		for _, a := range append(wrongGreats(), "", "\x01", "\x02", "\x03", "\xff", p, full(impl.MaxGreat)) {
			if in, out := impl.ShiftIn(a, p), impl.ShiftOut(a, p); in != "" || out != "" {
				t.Errorf("%.20x by %.20x: in %x, out %x; want none", a, p, in, out)
			}
			for _, b := range []string{"", "\x01", "\x03", p} {
				if got, turned := impl.ShiftMul(a, b, p), impl.ShiftMul(b, a, p); got != "" || turned != "" {
					t.Errorf("ShiftMul(%.20x, %.20x, %.20x) = %x, turned %x; want none", a, b, p, got, turned)
				}
			}
		}
	}
}

// Each number is no rest in turn, with the other as it should be.
func TestShiftedThatAreNoRests(t *testing.T) {
	for _, p := range oddPs() {
		wrongs := append(wrongGreats(), p, "\x00"+lessBy(p, 1), p+"\x00")
		if len(p) < impl.MaxGreat || p != full(impl.MaxGreat) {
			wrongs = append(wrongs, greatOfBig(new(big.Int).Add(bigOf(p), big.NewInt(1))), full(impl.MaxGreat))
		}
		for _, wrong := range wrongs {
			if in, out := impl.ShiftIn(wrong, p), impl.ShiftOut(wrong, p); in != "" || out != "" {
				t.Errorf("%.20x by %.20x: in %x, out %x; want none", wrong, p, in, out)
			}
			for _, right := range []string{"", "\x01", lessBy(p, 1), wrong} {
				if got, turned := impl.ShiftMul(wrong, right, p), impl.ShiftMul(right, wrong, p); got != "" || turned != "" {
					t.Errorf("ShiftMul(%.20x, %.20x, %.20x) = %x, turned %x; want none", wrong, right, p, got, turned)
				}
			}
		}
	}
}

func TestShiftedByThree(t *testing.T) {
	for a, text := range []string{"", "\x01", "\x02"} {
		if impl.ShiftIn(text, "\x03") != text || impl.ShiftOut(text, "\x03") != text {
			t.Errorf("%d by 3: in %x, out %x", a, impl.ShiftIn(text, "\x03"), impl.ShiftOut(text, "\x03"))
		}
		for b := range 3 {
			if got := impl.ShiftMul(text, impl.GreatOf(b), "\x03"); got != impl.GreatOf(a*b%3) {
				t.Errorf("%d and %d by 3 = %x", a, b, got)
			}
		}
	}
	if impl.ShiftIn("\x03", "\x03") != "" || impl.ShiftOut("\x03", "\x03") != "" || impl.ShiftMul("\x03", "\x01", "\x03") != "" {
		t.Error("3 is taken as a rest of 3")
	}
}

func TestShiftedByTheGreatest(t *testing.T) {
	p := full(impl.MaxGreat)
	last := lessBy(p, 1)
	// 54 limbs have 16 bits more than 160 bytes, whose power of 2 leaves 1 by p.
	if got := impl.ShiftOf(p); got != "\x01\x00\x00" {
		t.Errorf("ShiftOf = %x, want 65536", got)
	}
	if got := impl.ShiftIn(last, p); got != lessBy(p, 65536) {
		t.Errorf("ShiftIn of one less = %x", got)
	}
	if got := impl.ShiftOut("\x01\x00\x00", p); got != "\x01" {
		t.Errorf("ShiftOut of the shift = %x, want 1", got)
	}
	if got := impl.ShiftMul(last, last, p); got != "\x01"+noughts(impl.MaxGreat-2) {
		t.Errorf("ShiftMul of one less, twice = %x", got)
	}
	if impl.LowInverse(p) != 1 || impl.LimbsOf(p) != 54 {
		t.Errorf("LowInverse %d, LimbsOf %d", impl.LowInverse(p), impl.LimbsOf(p))
	}
}
