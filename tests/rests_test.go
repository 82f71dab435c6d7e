package tests

import (
	"math/big"
	"strings"
	"testing"

	"loop.example/g00970/impl"
)

const (
	primeOf32 = "21888242871839275222246405745257275088696311157297823662689037894645226208583"
	primeOf48 = "4002409555221667393417789825735904156556882819939007885332058136124031650490837864442687629129015664037894272559787"
)

func greatOfFigures(figures string) string {
	n, _ := new(big.Int).SetString(figures, 10)
	return greatOfBig(n)
}

// lessBy is p less a small number, which must not be greater.
func lessBy(p string, n int64) string {
	return greatOfBig(new(big.Int).Sub(bigOf(p), big.NewInt(n)))
}

// somePs are all right and above 1: primes and others, odd and even, at the edges of bytes, limbs and MaxGreat.
func somePs() []string {
	var list []string
	for _, n := range []int{2, 3, 4, 5, 6, 7, 8, 9, 10, 12, 15, 16, 21, 97, 127, 128, 251, 255, 256, 257, 9973, 65535, 65536, 65537, 1706311, 1<<31 - 1, 1 << 31, 1<<32 - 5, 1<<32 - 1, 1 << 32, 1<<32 + 1, 10647363907} {
		list = append(list, impl.GreatOf(n))
	}
	list = append(list, greatOfFigures(primeOf32), greatOfFigures(primeOf48))
	for _, size := range []int{8, 9, 12, 40, 79, 80, 81, 159, 160} {
		list = append(list, power(size-1), power(size-2)+"\x01", full(size), full(size-1)+"\xfe", "\x80"+noughts(size-1), "\x7f"+full(size-1))
	}
	d := dice{state: 1904}
	for _, size := range []int{2, 5, 7, 16, 24, 31, 33, 64, 80, 100, 157, 158, 159, 160} {
		list = append(list, d.great(size), d.great(size))
	}
	return list
}

// restBelow tells some rest of p.
func (d *dice) restBelow(p string) string {
	return greatOfBig(new(big.Int).Mod(bigOf(d.great(len(p))), bigOf(p)))
}

// someRests are right for p: those at both ends, those about the middle, and a few others.
func someRests(p string, d *dice) []string {
	half := new(big.Int).Rsh(bigOf(p), 1)
	list := []string{"", "\x01", lessBy(p, 1), lessBy(p, 2), greatOfBig(half), lessBy(greatOfBig(half), 1)}
	for range 4 {
		list = append(list, d.restBelow(p))
	}
	return list
}

// restOfBig is what is left over, never below 0.
func restOfBig(n *big.Int, p string) string {
	return greatOfBig(new(big.Int).Mod(n, bigOf(p)))
}

func checkTwoRests(t *testing.T, a, b, p string) {
	t.Helper()
	x, y := bigOf(a), bigOf(b)
	if got, want := impl.AddRest(a, b, p), restOfBig(new(big.Int).Add(x, y), p); got != want {
		t.Fatalf("AddRest(%x, %x, %x) = %x, want %x", a, b, p, got, want)
	}
	if got, want := impl.SubRest(a, b, p), restOfBig(new(big.Int).Sub(x, y), p); got != want {
		t.Fatalf("SubRest(%x, %x, %x) = %x, want %x", a, b, p, got, want)
	}
	if got, want := impl.MulRest(a, b, p), restOfBig(new(big.Int).Mul(x, y), p); got != want {
		t.Fatalf("MulRest(%x, %x, %x) = %x, want %x", a, b, p, got, want)
	}
}

func checkInverse(t *testing.T, a, p string) {
	t.Helper()
	want := new(big.Int).ModInverse(bigOf(a), bigOf(p))
	got, ok := impl.InverseRest(a, p)
	if want == nil {
		if ok || got != "" {
			t.Fatalf("InverseRest(%x, %x) = %x, %v; want nothing, false", a, p, got, ok)
		}
		return
	}
	if !ok || got != greatOfBig(want) {
		t.Fatalf("InverseRest(%x, %x) = %x, %v; want %x, true", a, p, got, ok, greatOfBig(want))
	}
}

func checkHalf(t *testing.T, a, p string) {
	t.Helper()
	want := ""
	if bigOf(p).Bit(0) == 1 {
		half := new(big.Int).ModInverse(big.NewInt(2), bigOf(p))
		want = restOfBig(half.Mul(half, bigOf(a)), p)
	}
	if got := impl.HalfRest(a, p); got != want {
		t.Fatalf("HalfRest(%x, %x) = %x, want %x", a, p, got, want)
	}
}

func checkOneRest(t *testing.T, a, p string) {
	t.Helper()
	if !impl.RestOk(a, p) || impl.RestOf(a, p) != a {
		t.Fatalf("RestOk(%x, %x) = %v, RestOf = %x", a, p, impl.RestOk(a, p), impl.RestOf(a, p))
	}
	if got, want := impl.NegRest(a, p), restOfBig(new(big.Int).Neg(bigOf(a)), p); got != want || got != impl.SubRest("", a, p) {
		t.Fatalf("NegRest(%x, %x) = %x, want %x", a, p, got, want)
	}
	checkInverse(t, a, p)
	checkHalf(t, a, p)
}

func checkPower(t *testing.T, a, n, p string) {
	t.Helper()
	if got, want := impl.PowRest(a, n, p), greatOfBig(new(big.Int).Exp(bigOf(a), bigOf(n), bigOf(p))); got != want {
		t.Fatalf("PowRest(%x, %x, %x) = %x, want %x", a, n, p, got, want)
	}
}

func TestRestOk(t *testing.T) {
	cases := []struct {
		a, p string
		want bool
	}{
		{"", "\x01", true}, {"", "\x02", true}, {"\x01", "\x02", true}, {"\x06", "\x07", true}, {"\xff", "\x01\x00", true},
		{"\x01\x00", "\x01\x01", true}, {"\x02", "\x01\x00", true}, {"", full(impl.MaxGreat), true},
		{"", "", false}, {"\x01", "", false}, {"\x01", "\x01", false}, {"\x02", "\x01", false}, {"\x02", "\x02", false},
		{"\x07", "\x07", false}, {"\x08", "\x07", false}, {"\x01\x00", "\xff", false}, {"\x01\x01", "\x01\x00", false},
		{full(impl.MaxGreat-1) + "\xfe", full(impl.MaxGreat), true}, {full(impl.MaxGreat), full(impl.MaxGreat), false},
	}
	for _, c := range cases {
		if got := impl.RestOk(c.a, c.p); got != c.want {
			t.Errorf("RestOk(%x, %x) = %v, want %v", c.a, c.p, got, c.want)
		}
	}
	for _, a := range someGreats() {
		for _, p := range someGreats() {
			if got, want := impl.RestOk(a, p), bigOf(a).Cmp(bigOf(p)) < 0; got != want {
				t.Errorf("RestOk(%x, %x) = %v, want %v", a, p, got, want)
			}
		}
	}
}

func TestRestsByHand(t *testing.T) {
	cases := []struct{ what, got, want string }{
		{"10 by 7", impl.RestOf("\x0a", "\x07"), "\x03"},
		{"256 by 7", impl.RestOf("\x01\x00", "\x07"), "\x04"},
		{"7 by 7", impl.RestOf("\x07", "\x07"), ""},
		{"5 and 4 by 7", impl.AddRest("\x05", "\x04", "\x07"), "\x02"},
		{"5 and 2 by 7", impl.AddRest("\x05", "\x02", "\x07"), ""},
		{"5 and 1 by 7", impl.AddRest("\x05", "\x01", "\x07"), "\x06"},
		{"2 less 4 by 7", impl.SubRest("\x02", "\x04", "\x07"), "\x05"},
		{"4 less 2 by 7", impl.SubRest("\x04", "\x02", "\x07"), "\x02"},
		{"4 less 4 by 7", impl.SubRest("\x04", "\x04", "\x07"), ""},
		{"3 times 5 by 7", impl.MulRest("\x03", "\x05", "\x07"), "\x01"},
		{"3 times 4 by 6", impl.MulRest("\x03", "\x04", "\x06"), ""},
		{"3 four times by 7", impl.PowRest("\x03", "\x04", "\x07"), "\x04"},
		{"3 not once by 7", impl.PowRest("\x03", "", "\x07"), "\x01"},
		{"0 not once by 7", impl.PowRest("", "", "\x07"), "\x01"},
		{"0 once by 7", impl.PowRest("", "\x01", "\x07"), ""},
		{"2 three times by 8", impl.PowRest("\x02", "\x03", "\x08"), ""},
		{"0 less 3 by 7", impl.NegRest("\x03", "\x07"), "\x04"},
		{"0 less 0 by 7", impl.NegRest("", "\x07"), ""},
		{"half of 3 by 7", impl.HalfRest("\x03", "\x07"), "\x05"},
		{"half of 4 by 7", impl.HalfRest("\x04", "\x07"), "\x02"},
		{"half of 0 by 7", impl.HalfRest("", "\x07"), ""},
		{"half of 2 by 8", impl.HalfRest("\x02", "\x08"), ""},
	}
	for _, c := range cases {
		if c.got != c.want {
			t.Errorf("%s: %x, want %x", c.what, c.got, c.want)
		}
	}
}

func TestInversesByHand(t *testing.T) {
	cases := []struct {
		a, p, want string
		ok         bool
	}{
		{"\x03", "\x07", "\x05", true}, {"\x05", "\x07", "\x03", true}, {"\x01", "\x07", "\x01", true}, {"\x06", "\x07", "\x06", true},
		{"\x01", "\x02", "\x01", true}, {"\x03", "\x04", "\x03", true}, {"\x03", "\x0a", "\x07", true}, {"\x02", "\x0f", "\x08", true},
		{"", "\x07", "", false}, {"", "\x02", "", false}, {"\x02", "\x04", "", false}, {"\x05", "\x0a", "", false}, {"\x06", "\x0f", "", false},
		{"", "\x01", "", false}, {"", "", "", false}, {"\x01", "\x01", "", false}, {"\x08", "\x07", "", false},
	}
	for _, c := range cases {
		if got, ok := impl.InverseRest(c.a, c.p); ok != c.ok || got != c.want {
			t.Errorf("InverseRest(%x, %x) = %x, %v; want %x, %v", c.a, c.p, got, ok, c.want, c.ok)
		}
	}
}

func TestAllRestsOfSmallNumbers(t *testing.T) {
	for n := 2; n <= 48; n++ {
		p := impl.GreatOf(n)
		for x := range n {
			a := impl.GreatOf(x)
			checkOneRest(t, a, p)
			for y := range n {
				checkTwoRests(t, a, impl.GreatOf(y), p)
				checkPower(t, a, impl.GreatOf(y), p)
			}
		}
	}
}

func TestRestsOfManyNumbers(t *testing.T) {
	d := dice{state: 44}
	for _, p := range somePs() {
		rests := someRests(p, &d)
		for _, a := range rests {
			checkOneRest(t, a, p)
			for _, b := range rests {
				checkTwoRests(t, a, b, p)
			}
		}
	}
	for range 3000 {
		p := d.great(1 + d.below(impl.MaxGreat))
		if p != "\x01" {
			a, b := d.restBelow(p), d.restBelow(p)
			checkTwoRests(t, a, b, p)
			checkOneRest(t, a, p)
		}
	}
}

func TestRestOf(t *testing.T) {
	for _, p := range somePs() {
		for _, a := range append(someGreats(), p, lessBy(p, 1)) {
			got := impl.RestOf(a, p)
			if want := restOfBig(bigOf(a), p); got != want || !impl.RestOk(got, p) {
				t.Errorf("RestOf(%x, %x) = %x, want %x", a, p, got, want)
			}
		}
	}
}

func TestPowersOfRests(t *testing.T) {
	d := dice{state: 8}
	for _, p := range somePs() {
		for _, a := range []string{"", "\x01", lessBy(p, 1), d.restBelow(p)} {
			for _, n := range []string{"", "\x01", "\x02", "\x03", "\xff", "\x01\x00", "\x01\x01", d.great(3), d.great(8)} {
				checkPower(t, a, n, p)
			}
		}
	}
	most := full(impl.MaxGreat)
	for _, n := range []string{most, power(impl.MaxGreat - 1), d.great(impl.MaxGreat)} {
		for _, p := range []string{"\x02", "\x07", "\x01\x00", greatOfFigures(primeOf48), most, power(impl.MaxGreat - 1)} {
			checkPower(t, d.restBelow(p), n, p)
			checkPower(t, lessBy(p, 1), n, p)
		}
	}
}

// By a prime, the power of one less is 1, and that of two less is the inverse.
func TestPowersByPrimes(t *testing.T) {
	d := dice{state: 21}
	for _, p := range []string{"\x02", "\x03", "\x07", "\xfb", impl.GreatOf(1706311), impl.GreatOf(10647363907), greatOfFigures(primeOf32), greatOfFigures(primeOf48)} {
		for _, a := range []string{"\x01", lessBy(p, 1), d.restBelow(p), d.restBelow(p)} {
			if a == "" {
				continue
			}
			inverse, ok := impl.InverseRest(a, p)
			if got := impl.PowRest(a, lessBy(p, 1), p); got != "\x01" || !ok || inverse != impl.PowRest(a, lessBy(p, 2), p) {
				t.Errorf("%x by the prime %x: %x, and the inverse %x, %v", a, p, got, inverse, ok)
			}
		}
	}
}

func TestRestsInAnyOrder(t *testing.T) {
	d := dice{state: 5150}
	for _, p := range somePs() {
		for range 6 {
			a, b, c := d.restBelow(p), d.restBelow(p), d.restBelow(p)
			sum, product := impl.AddRest(a, b, p), impl.MulRest(a, b, p)
			if sum != impl.AddRest(b, a, p) || product != impl.MulRest(b, a, p) {
				t.Errorf("%x and %x by %x in the other order", a, b, p)
			}
			if impl.AddRest(sum, c, p) != impl.AddRest(a, impl.AddRest(b, c, p), p) {
				t.Errorf("the sum of %x, %x, %x by %x, taken from behind", a, b, c, p)
			}
			if impl.MulRest(product, c, p) != impl.MulRest(a, impl.MulRest(b, c, p), p) {
				t.Errorf("the product of %x, %x, %x by %x, taken from behind", a, b, c, p)
			}
			if impl.MulRest(sum, c, p) != impl.AddRest(impl.MulRest(a, c, p), impl.MulRest(b, c, p), p) {
				t.Errorf("%x and %x, times %x, by %x, part by part", a, b, c, p)
			}
		}
	}
}

func TestRestTakenAwayComesBack(t *testing.T) {
	d := dice{state: 63}
	for _, p := range somePs() {
		for _, a := range someRests(p, &d) {
			for _, b := range someRests(p, &d) {
				if impl.AddRest(impl.SubRest(a, b, p), b, p) != a || impl.SubRest(impl.AddRest(a, b, p), b, p) != a {
					t.Errorf("%x less and with %x by %x", a, b, p)
				}
				if impl.SubRest(a, b, p) != impl.AddRest(a, impl.NegRest(b, p), p) {
					t.Errorf("%x less %x by %x is another than with what is against it", a, b, p)
				}
			}
			if impl.AddRest(a, impl.NegRest(a, p), p) != "" || impl.NegRest(impl.NegRest(a, p), p) != a {
				t.Errorf("what is against %x by %x: %x", a, p, impl.NegRest(a, p))
			}
		}
	}
}

func TestInverseComesToOne(t *testing.T) {
	d := dice{state: 1201}
	for _, p := range somePs() {
		for _, a := range someRests(p, &d) {
			inverse, ok := impl.InverseRest(a, p)
			if coprime := new(big.Int).GCD(nil, nil, bigOf(a), bigOf(p)).Cmp(big.NewInt(1)) == 0; ok != coprime {
				t.Errorf("InverseRest(%x, %x) = %v, want %v", a, p, ok, coprime)
			}
			if !ok {
				continue
			}
			if impl.MulRest(a, inverse, p) != "\x01" || !impl.RestOk(inverse, p) {
				t.Errorf("%x times its inverse %x by %x = %x", a, inverse, p, impl.MulRest(a, inverse, p))
			}
			if back, ok := impl.InverseRest(inverse, p); !ok || back != a {
				t.Errorf("the inverse of the inverse of %x by %x = %x, %v", a, p, back, ok)
			}
		}
	}
}

func TestHalfTwiceIsIt(t *testing.T) {
	d := dice{state: 17}
	for _, p := range somePs() {
		for _, a := range someRests(p, &d) {
			half := impl.HalfRest(a, p)
			if bigOf(p).Bit(0) == 0 {
				if half != "" {
					t.Errorf("HalfRest(%x, %x) = %x, want none by what is even", a, p, half)
				}
			} else if !impl.RestOk(half, p) || impl.AddRest(half, half, p) != a {
				t.Errorf("HalfRest(%x, %x) = %x", a, p, half)
			}
		}
	}
}

func TestPowersAreAddedUp(t *testing.T) {
	d := dice{state: 300}
	for _, p := range somePs() {
		a, b, n, m := d.restBelow(p), d.restBelow(p), d.great(d.below(6)), d.great(d.below(6))
		power := impl.PowRest(a, n, p)
		if impl.MulRest(power, impl.PowRest(a, m, p), p) != impl.PowRest(a, impl.AddGreat(n, m), p) {
			t.Errorf("the powers %x and %x of %x by %x are not added up", n, m, a, p)
		}
		if impl.PowRest(power, m, p) != impl.PowRest(a, impl.MulGreat(n, m), p) {
			t.Errorf("the power %x of the power %x of %x by %x", m, n, a, p)
		}
		if impl.MulRest(power, impl.PowRest(b, n, p), p) != impl.PowRest(impl.MulRest(a, b, p), n, p) {
			t.Errorf("the power %x of %x and %x by %x", n, a, b, p)
		}
		if impl.PowRest(a, "", p) != "\x01" || impl.PowRest(a, "\x01", p) != a || impl.PowRest(a, "\x02", p) != impl.MulRest(a, a, p) {
			t.Errorf("the first powers of %x by %x", a, p)
		}
	}
}

// What comes to p itself is 0; one less is the greatest rest there is.
func TestWhatComesToPItself(t *testing.T) {
	d := dice{state: 90}
	for _, p := range somePs() {
		last, a := lessBy(p, 1), d.restBelow(p)
		if impl.RestOf(p, p) != "" || impl.RestOf(last, p) != last || impl.RestOk(p, p) || !impl.RestOk(last, p) {
			t.Errorf("%x itself, and one less, as rests", p)
		}
		if impl.AddRest(last, "\x01", p) != "" || impl.AddRest("\x01", last, p) != "" || impl.AddRest(last, last, p) != lessBy(p, 2) {
			t.Errorf("sums about %x: %x, %x", p, impl.AddRest(last, "\x01", p), impl.AddRest(last, last, p))
		}
		if impl.SubRest("", "\x01", p) != last || impl.NegRest("\x01", p) != last || impl.NegRest(last, p) != "\x01" || impl.NegRest("", p) != "" {
			t.Errorf("one less than 0 by %x = %x", p, impl.SubRest("", "\x01", p))
		}
		if impl.MulRest(last, last, p) != "\x01" || impl.MulRest(last, a, p) != impl.NegRest(a, p) || impl.MulRest("", last, p) != "" {
			t.Errorf("products with one less than %x", p)
		}
		if inverse, ok := impl.InverseRest(last, p); !ok || inverse != last {
			t.Errorf("the inverse of one less than %x = %x, %v", p, inverse, ok)
		}
	}
}

// Each number is held against p in turn, with the others as they should be.
func TestNumbersThatAreNoRests(t *testing.T) {
	for _, p := range somePs() {
		last := lessBy(p, 1)
		for _, wrong := range []string{p, impl.AddGreat(p, "\x01"), impl.AddGreat(p, p), p + "\x00", full(impl.MaxGreat), "\x00", "\x00\x01", full(impl.MaxGreat + 1)} {
			if wrong == "" || len(wrong) <= impl.MaxGreat && wrong[0] != 0 && bigOf(wrong).Cmp(bigOf(p)) < 0 {
				continue
			}
			for _, right := range []string{"", "\x01", last} {
				checkNoRests(t, wrong, right, p)
				checkNoRests(t, right, wrong, p)
			}
			checkNoRests(t, wrong, wrong, p)
			checkNoRest(t, wrong, p)
		}
	}
}

func checkNoRests(t *testing.T, a, b, p string) {
	t.Helper()
	if sum, difference, product := impl.AddRest(a, b, p), impl.SubRest(a, b, p), impl.MulRest(a, b, p); sum != "" || difference != "" || product != "" {
		t.Errorf("%.20x and %.20x by %.20x: %x, %x, %x; want none", a, b, p, sum, difference, product)
	}
}

// checkNoRest asks all that is asked of one rest alone.
func checkNoRest(t *testing.T, a, p string) {
	t.Helper()
	if inverse, ok := impl.InverseRest(a, p); ok || inverse != "" || impl.RestOk(a, p) && p != "\x01" {
		t.Errorf("InverseRest(%.20x, %.20x) = %x, %v; RestOk %v", a, p, inverse, ok, impl.RestOk(a, p))
	}
	if against, half := impl.NegRest(a, p), impl.HalfRest(a, p); against != "" || half != "" {
		t.Errorf("%.20x by %.20x: against it %x, half %x; want none", a, p, against, half)
	}
	for _, n := range []string{"", "\x01", "\x02", "\x07"} {
		if got := impl.PowRest(a, n, p); got != "" {
			t.Errorf("PowRest(%.20x, %x, %.20x) = %x, want none", a, n, p, got)
		}
	}
}

// By 0, by 1, and by what is not right, nothing has a rest.
func TestNumbersThatLeaveNoRests(t *testing.T) {
	for _, p := range append(wrongGreats(), "", "\x01") {
		for _, a := range append(wrongGreats(), "", "\x01", "\x02", "\xff", p, full(impl.MaxGreat)) {
			checkNoRest(t, a, p)
			if got := impl.RestOf(a, p); got != "" {
				t.Errorf("RestOf(%.20x, %.20x) = %x, want none", a, p, got)
			}
			for _, b := range []string{"", "\x01", "\x02", p} {
				checkNoRests(t, a, b, p)
			}
		}
	}
}

func TestRestsByTwo(t *testing.T) {
	for a := range 2 {
		x := impl.GreatOf(a)
		for b := range 2 {
			y := impl.GreatOf(b)
			if impl.AddRest(x, y, "\x02") != impl.GreatOf(a^b) || impl.SubRest(x, y, "\x02") != impl.GreatOf(a^b) || impl.MulRest(x, y, "\x02") != impl.GreatOf(a&b) {
				t.Errorf("%d and %d by 2", a, b)
			}
		}
		if impl.NegRest(x, "\x02") != x || impl.HalfRest(x, "\x02") != "" || impl.PowRest(x, "", "\x02") != "\x01" || impl.PowRest(x, "\x09", "\x02") != x {
			t.Errorf("%d by 2", a)
		}
	}
}

func TestRestOfWhatIsNotRight(t *testing.T) {
	for _, a := range wrongGreats() {
		for _, p := range somePs() {
			if got := impl.RestOf(a, p); got != "" || impl.RestOk(a, p) || impl.RestOk("", a) {
				t.Errorf("RestOf(%.20x, %x) = %x, want none", a, p, got)
			}
		}
	}
}

func TestPowersThatAreNotRight(t *testing.T) {
	for _, n := range wrongGreats() {
		for _, p := range []string{"\x02", "\x07", "\x0a", greatOfFigures(primeOf32), full(impl.MaxGreat)} {
			for _, a := range []string{"", "\x01", lessBy(p, 1)} {
				if got := impl.PowRest(a, n, p); got != "" {
					t.Errorf("PowRest(%x, %.20x, %x) = %x, want none", a, n, p, got)
				}
			}
		}
	}
}

// Sums and products have no room in MaxGreat bytes here, and their rests still do.
func TestRestsOfWhatHasNoRoom(t *testing.T) {
	most := full(impl.MaxGreat)
	half := "\x80" + noughts(impl.MaxGreat-1)
	if impl.AddGreat(half, half) != "" || impl.MulGreat(half, half) != "" {
		t.Fatal("these have room")
	}
	if got := impl.AddRest(half, half, most); got != "\x01" {
		t.Errorf("twice 2 to the power of %d = %x, want 1", 8*impl.MaxGreat-1, got)
	}
	if got := impl.MulRest(half, "\x02", most); got != "\x01" {
		t.Errorf("2 times it = %x, want 1", got)
	}
	if got := impl.MulRest(half, half, most); got != "\x40"+noughts(impl.MaxGreat-1) {
		t.Errorf("it times itself = %x", got)
	}
	if got := impl.PowRest("\x02", impl.GreatOf(8*impl.MaxGreat), most); got != "\x01" {
		t.Errorf("2 to the power of %d = %x, want 1", 8*impl.MaxGreat, got)
	}
	if got := impl.HalfRest("\x01", most); got != half {
		t.Errorf("half of 1 = %x, want %x", got, half)
	}
	if got := impl.HalfRest(lessBy(most, 2), most); got != lessBy(most, 1) {
		t.Errorf("half of what is 2 less = %x", got)
	}
	if got, ok := impl.InverseRest("\x02", most); !ok || got != half {
		t.Errorf("the inverse of 2 = %x, %v; want %x", got, ok, half)
	}
	if got, ok := impl.InverseRest("\x01", most); !ok || got != "\x01" {
		t.Errorf("the inverse of 1 = %x, %v", got, ok)
	}
}

// Neighbours among those numbers of which each is the sum of the two ahead take the most divisions of all.
func TestInverseOfNeighbours(t *testing.T) {
	a, b := "\x01", "\x02"
	for steps := 0; ; steps++ {
		next := impl.AddGreat(a, b)
		if next == "" {
			if steps < 1800 {
				t.Errorf("only %d steps", steps)
			}
			return
		}
		a, b = b, next
		checkInverse(t, a, b)
	}
}

// Numbers that go into both, one after the other, leave no inverse.
func TestWhatHasNoInverse(t *testing.T) {
	d := dice{state: 4321}
	for range 500 {
		size := 1 + d.below(impl.MaxGreat/2)
		common, p := d.great(size), d.great(1+d.below(impl.MaxGreat-size))
		if common == "\x01" || p == "\x01" {
			continue
		}
		a, product := impl.MulGreat(common, d.restBelow(p)), impl.MulGreat(common, p)
		if got, ok := impl.InverseRest(a, product); ok || got != "" {
			t.Errorf("InverseRest(%x, %x) = %x, %v; want nothing, false", a, product, got, ok)
		}
	}
}

// The list of works is made anew in each call, so that no answer hangs on what was asked before.
func TestRestsKeepNothing(t *testing.T) {
	p := strings.Repeat("\x81", 20)
	a, b := p[:19], p[:18]
	first := impl.AddRest(a, b, p) + impl.SubRest(a, b, p) + impl.MulRest(a, b, p)
	impl.MulRest(full(impl.MaxGreat-1), full(impl.MaxGreat-1), full(impl.MaxGreat))
	impl.AddRest(p, p, p)
	if again := impl.AddRest(a, b, p) + impl.SubRest(a, b, p) + impl.MulRest(a, b, p); again != first {
		t.Errorf("the same rests come to %x, and then to %x", first, again)
	}
}
