package tests

import (
	"math"
	"math/big"
	"strings"
	"testing"

	"loop.example/g00970/impl"
)

func bigOf(s string) *big.Int { return new(big.Int).SetBytes([]byte(s)) }

func greatOfBig(n *big.Int) string { return string(n.Bytes()) }

// greatWithin is the text of a number, or empty when it has more than MaxGreat bytes.
func greatWithin(n *big.Int) string {
	if s := greatOfBig(n); len(s) <= impl.MaxGreat {
		return s
	}
	return ""
}

// power is 1 with so many bytes 0 behind.
func power(noughts int) string { return "\x01" + strings.Repeat("\x00", noughts) }

func full(size int) string { return strings.Repeat("\xff", size) }

// dice tells the same bytes in each run.
type dice struct{ state uint64 }

func (d *dice) next() uint64 {
	d.state ^= d.state << 13
	d.state ^= d.state >> 7
	d.state ^= d.state << 17
	return d.state
}

func (d *dice) below(n int) int { return int(d.next() >> 33 % uint64(n)) }

// great tells a right number of so many bytes, in which bytes 0 and 255 come often, and in runs.
func (d *dice) great(size int) string {
	out := make([]byte, 0, size)
	for len(out) < size {
		b, run := byte(d.next()>>24), 1
		switch d.below(4) {
		case 0:
			b, run = 0, 1+d.below(9)
		case 1:
			b, run = 255, 1+d.below(9)
		}
		for ; run > 0 && len(out) < size; run-- {
			out = append(out, b)
		}
	}
	if size > 0 && out[0] == 0 {
		out[0] = byte(1 + d.below(255))
	}
	return string(out)
}

// someGreats are all right, and stand at the edges of bytes, of limbs of any usual size, and of MaxGreat.
func someGreats() []string {
	list := []string{"", "\x01", "\x02", "\x03", "\x7f", "\x80", "\x81", "\xfe", "\xff", "\x01\x01", "\xff\xfe", "\x80\x01"}
	for _, size := range []int{2, 3, 4, 5, 7, 8, 9, 12, 16, 17, 24, 48, 79, 80, 81, 159, 160} {
		list = append(list, power(size-1), full(size), full(size-1)+"\xfe", power(size-2)+"\x01", "\x80"+strings.Repeat("\x00", size-1), "\x7f"+full(size-1))
	}
	d := dice{state: 970}
	for _, size := range []int{1, 3, 4, 6, 8, 11, 20, 32, 33, 64, 79, 80, 81, 100, 156, 157, 160} {
		list = append(list, d.great(size))
	}
	return list
}

func wrongGreats() []string {
	return []string{
		"\x00", "\x00\x01", "\x00\xff\xff", "\x00\x00", strings.Repeat("\x00", 8), "\x00" + full(impl.MaxGreat-1), "\x00" + full(impl.MaxGreat),
		full(impl.MaxGreat + 1), power(impl.MaxGreat), power(2 * impl.MaxGreat), strings.Repeat("a", 100000),
	}
}

func TestGreatLimit(t *testing.T) {
	if impl.MaxGreat != 160 {
		t.Errorf("MaxGreat is %d, want 160", impl.MaxGreat)
	}
}

func TestGreatOk(t *testing.T) {
	for _, s := range someGreats() {
		if !impl.GreatOk(s) {
			t.Errorf("GreatOk(%x) is false", s)
		}
	}
	for _, s := range wrongGreats() {
		if impl.GreatOk(s) {
			t.Errorf("GreatOk(%.20x), of %d bytes, is true", s, len(s))
		}
	}
	for b := range 256 {
		for _, behind := range []string{"", "\x00", "\x01", full(impl.MaxGreat - 1)} {
			if got := impl.GreatOk(string([]byte{byte(b)}) + behind); got != (b != 0) {
				t.Errorf("GreatOk with the first byte %d and %d behind = %v", b, len(behind), got)
			}
		}
	}
	for size := range 2 * impl.MaxGreat {
		if got := impl.GreatOk(full(size)); got != (size <= impl.MaxGreat) {
			t.Errorf("GreatOk of %d bytes = %v", size, got)
		}
	}
}

func TestGreatOf(t *testing.T) {
	cases := []struct {
		n    int
		want string
	}{
		{0, ""}, {1, "\x01"}, {127, "\x7f"}, {128, "\x80"}, {255, "\xff"}, {256, "\x01\x00"}, {257, "\x01\x01"},
		{65535, "\xff\xff"}, {65536, "\x01\x00\x00"}, {66051, "\x01\x02\x03"},
		{math.MaxInt32, "\x7f\xff\xff\xff"}, {math.MaxUint32, "\xff\xff\xff\xff"}, {math.MaxUint32 + 1, "\x01\x00\x00\x00\x00"},
		{math.MaxInt - 1, "\x7f\xff\xff\xff\xff\xff\xff\xfe"}, {math.MaxInt, "\x7f\xff\xff\xff\xff\xff\xff\xff"},
		{-1, ""}, {-255, ""}, {-256, ""}, {-math.MaxInt, ""}, {math.MinInt, ""},
	}
	for _, c := range cases {
		if got := impl.GreatOf(c.n); got != c.want {
			t.Errorf("GreatOf(%d) = %x, want %x", c.n, got, c.want)
		}
	}
}

func TestNumberComesBackFromItsGreat(t *testing.T) {
	numbers := []int{math.MaxInt, math.MaxInt - 1}
	for n := range 70000 {
		numbers = append(numbers, n)
	}
	for bit := range 63 {
		numbers = append(numbers, 1<<bit, 1<<bit-1, 1<<bit+1)
	}
	d := dice{state: 2}
	for range 1000 {
		numbers = append(numbers, int(d.next()>>(1+d.below(60))))
	}
	for _, n := range numbers {
		s := impl.GreatOf(n)
		if back, ok := impl.GreatInt(s); !ok || back != n || !impl.GreatOk(s) {
			t.Errorf("GreatInt(GreatOf(%d)) = %d, %v", n, back, ok)
		}
		if s != greatOfBig(big.NewInt(int64(n))) {
			t.Errorf("GreatOf(%d) = %x", n, s)
		}
	}
}

func TestGreatInt(t *testing.T) {
	cases := []struct {
		s    string
		want int
	}{
		{"", 0}, {"\x05", 5}, {"\x01\x00", 256}, {"\x01\x02\x03", 66051}, {"\xff\xff\xff\xff", math.MaxUint32},
		{"\x01\x02\x03\x04\x05\x06\x07\x08", 0x0102030405060708}, {"\x7f" + full(7), math.MaxInt},
	}
	for _, c := range cases {
		if got, ok := impl.GreatInt(c.s); !ok || got != c.want {
			t.Errorf("GreatInt(%x) = %d, %v; want %d, true", c.s, got, ok, c.want)
		}
	}
	above := []string{"\x80" + strings.Repeat("\x00", 7), "\x80" + strings.Repeat("\x00", 6) + "\x01", full(8), power(8), power(8) + "\x05", full(9), full(impl.MaxGreat)}
	for _, s := range append(above, wrongGreats()...) {
		if got, ok := impl.GreatInt(s); ok || got != 0 {
			t.Errorf("GreatInt(%.20x) = %d, %v; want 0, false", s, got, ok)
		}
	}
}

func TestCompareGreat(t *testing.T) {
	for _, a := range someGreats() {
		for _, b := range someGreats() {
			if got, want := impl.CompareGreat(a, b), bigOf(a).Cmp(bigOf(b)); got != want {
				t.Errorf("CompareGreat(%x, %x) = %d, want %d", a, b, got, want)
			}
		}
	}
}

// One byte alone is another, at each place of a number.
func TestCompareGreatLooksAtEachByte(t *testing.T) {
	for i := range impl.MaxGreat {
		low := []byte(strings.Repeat("\x80", impl.MaxGreat))
		high := append([]byte{}, low...)
		high[i]++
		if got, back := impl.CompareGreat(string(low), string(high)), impl.CompareGreat(string(high), string(low)); got != -1 || back != 1 {
			t.Errorf("with a greater byte %d: %d and %d, want -1 and 1", i, got, back)
		}
	}
}

func TestAddGreat(t *testing.T) {
	for _, a := range someGreats() {
		for _, b := range someGreats() {
			want := greatWithin(new(big.Int).Add(bigOf(a), bigOf(b)))
			if got := impl.AddGreat(a, b); got != want {
				t.Errorf("AddGreat(%x, %x) = %x, want %x", a, b, got, want)
			}
		}
	}
}

func TestSumJustRight(t *testing.T) {
	most := full(impl.MaxGreat)
	if got := impl.AddGreat(full(impl.MaxGreat-1)+"\xfe", "\x01"); got != most {
		t.Errorf("the greatest sum is %x", got)
	}
	if got := impl.AddGreat("", most); got != most {
		t.Errorf("0 and the greatest one is %x", got)
	}
	half := "\x80" + strings.Repeat("\x00", impl.MaxGreat-1)
	for _, pair := range [][2]string{{most, "\x01"}, {"\x01", most}, {most, most}, {half, half}, {most, full(3)}, {full(impl.MaxGreat-1) + "\xfe", "\x02"}} {
		if got := impl.AddGreat(pair[0], pair[1]); got != "" {
			t.Errorf("AddGreat(%x, %x) = %x, want none", pair[0], pair[1], got)
		}
	}
}

func TestSubGreat(t *testing.T) {
	for _, a := range someGreats() {
		for _, b := range someGreats() {
			difference := new(big.Int).Sub(bigOf(a), bigOf(b))
			want, wantOk := "", difference.Sign() >= 0
			if wantOk {
				want = greatOfBig(difference)
			}
			if got, ok := impl.SubGreat(a, b); ok != wantOk || got != want {
				t.Errorf("SubGreat(%x, %x) = %x, %v; want %x, %v", a, b, got, ok, want, wantOk)
			}
		}
	}
}

func TestDifferenceOfTwoThatAreTheSame(t *testing.T) {
	for _, a := range someGreats() {
		if got, ok := impl.SubGreat(a, a); !ok || got != "" {
			t.Errorf("SubGreat(%x, itself) = %x, %v; want nothing, true", a, got, ok)
		}
	}
}

func TestWhatWasAddedIsTakenAway(t *testing.T) {
	d := dice{state: 31}
	for range 5000 {
		a, b := d.great(d.below(impl.MaxGreat)), d.great(d.below(impl.MaxGreat))
		sum := impl.AddGreat(a, b)
		if !impl.GreatOk(sum) || sum != impl.AddGreat(b, a) {
			t.Fatalf("AddGreat(%x, %x) = %x", a, b, sum)
		}
		if back, ok := impl.SubGreat(sum, b); !ok || back != a {
			t.Fatalf("SubGreat(%x, %x) = %x, %v; want %x", sum, b, back, ok, a)
		}
		if back, ok := impl.SubGreat(sum, a); !ok || back != b {
			t.Fatalf("SubGreat(%x, %x) = %x, %v; want %x", sum, a, back, ok, b)
		}
	}
}

func TestMulGreat(t *testing.T) {
	for _, a := range someGreats() {
		for _, b := range someGreats() {
			want := greatWithin(new(big.Int).Mul(bigOf(a), bigOf(b)))
			if got := impl.MulGreat(a, b); got != want {
				t.Errorf("MulGreat(%x, %x) = %x, want %x", a, b, got, want)
			}
		}
	}
}

// The greatest and the least numbers of each two lengths come to the greatest and the least product of theirs.
func TestProductJustRight(t *testing.T) {
	for i := 1; i < impl.MaxGreat; i++ {
		if got := impl.MulGreat(full(i), full(impl.MaxGreat-i)); len(got) != impl.MaxGreat || bigOf(got).Cmp(new(big.Int).Mul(bigOf(full(i)), bigOf(full(impl.MaxGreat-i)))) != 0 {
			t.Errorf("the product of the greatest of %d and %d bytes = %x", i, impl.MaxGreat-i, got)
		}
		if got := impl.MulGreat(power(i), power(impl.MaxGreat-1-i)); got != power(impl.MaxGreat-1) {
			t.Errorf("the product of 1 with %d and %d bytes 0 behind = %x", i, impl.MaxGreat-1-i, got)
		}
		if got := impl.MulGreat(power(i), power(impl.MaxGreat-i)); got != "" {
			t.Errorf("the product of 1 with %d and %d bytes 0 behind = %x, want none", i, impl.MaxGreat-i, got)
		}
		if got := impl.MulGreat(full(i+1), full(impl.MaxGreat-i)); got != "" {
			t.Errorf("the product of the greatest of %d and %d bytes = %x, want none", i+1, impl.MaxGreat-i, got)
		}
	}
	most := full(impl.MaxGreat)
	if got := impl.MulGreat("\x7f"+full(impl.MaxGreat-1), "\x02"); got != full(impl.MaxGreat-1)+"\xfe" {
		t.Errorf("twice the greatest that has room = %x", got)
	}
	for _, pair := range [][2]string{{"\x80" + strings.Repeat("\x00", impl.MaxGreat-1), "\x02"}, {"\x02", most}, {most, most}, {power(impl.MaxGreat - 1), power(impl.MaxGreat - 1)}} {
		if got := impl.MulGreat(pair[0], pair[1]); got != "" {
			t.Errorf("MulGreat(%x, %x) = %x, want none", pair[0], pair[1], got)
		}
	}
}

func checkDiv(t *testing.T, a, b string) {
	t.Helper()
	quotient, rest := new(big.Int).QuoRem(bigOf(a), bigOf(b), new(big.Int))
	q, r, ok := impl.DivGreat(a, b)
	if !ok || q != greatOfBig(quotient) || r != greatOfBig(rest) {
		t.Fatalf("DivGreat(%x, %x) = %x, %x, %v; want %x, %x, true", a, b, q, r, ok, greatOfBig(quotient), greatOfBig(rest))
	}
	if impl.CompareGreat(r, b) != -1 {
		t.Fatalf("DivGreat(%x, %x) leaves %x", a, b, r)
	}
}

func TestDivGreat(t *testing.T) {
	for _, a := range someGreats() {
		for _, b := range someGreats() {
			if b != "" {
				checkDiv(t, a, b)
			}
		}
	}
	d := dice{state: 2718}
	for range 20000 {
		checkDiv(t, d.great(d.below(impl.MaxGreat+1)), d.great(1+d.below(impl.MaxGreat)))
	}
}

func TestDivGreatByNought(t *testing.T) {
	for _, a := range someGreats() {
		if q, r, ok := impl.DivGreat(a, ""); ok || q != "" || r != "" {
			t.Errorf("DivGreat(%x, 0) = %x, %x, %v; want nothing, nothing, false", a, q, r, ok)
		}
	}
}

// What is greater goes into it not once; what is the same, once.
func TestDivGreatByWhatIsGreaterOrTheSame(t *testing.T) {
	for _, a := range someGreats() {
		if b := impl.AddGreat(a, "\x01"); b != "" {
			if q, r, ok := impl.DivGreat(a, b); !ok || q != "" || r != a {
				t.Errorf("DivGreat(%x, one more) = %x, %x, %v", a, q, r, ok)
			}
		}
		if a != "" {
			if q, r, ok := impl.DivGreat(a, a); !ok || q != "\x01" || r != "" {
				t.Errorf("DivGreat(%x, itself) = %x, %x, %v", a, q, r, ok)
			}
		}
	}
}

// limbText joins limbs of so many bytes each, the highest first.
func limbText(size int, limbs ...*big.Int) string {
	n := new(big.Int)
	for _, limb := range limbs {
		n.Lsh(n, uint(8*size))
		n.Add(n, limb)
	}
	return greatOfBig(n)
}

// Of limbs at the edges, each four are divided by each three and each two: whatever the size of a limb, some guesses
// are one too great, some are two too great, and some have no room in a limb.
func TestDivGreatGuesses(t *testing.T) {
	for _, size := range []int{1, 2, 3, 4, 7, 8} {
		base := new(big.Int).Lsh(big.NewInt(1), uint(8*size))
		half := new(big.Int).Rsh(base, 1)
		one := big.NewInt(1)
		edges := []*big.Int{new(big.Int), one, new(big.Int).Sub(half, one), half, new(big.Int).Sub(base, one)}
		var tops, parts []string
		for _, x := range edges {
			for _, y := range edges {
				for _, z := range edges {
					parts = append(parts, limbText(size, x, y, z))
					for _, w := range edges {
						tops = append(tops, limbText(size, x, y, z, w))
					}
				}
			}
		}
		for _, a := range tops {
			for _, b := range parts {
				if b != "" {
					checkDiv(t, a, b)
				}
			}
		}
	}
}

// The greatest rest that a divisor leaves, and one more or less, are where a guess by the highest limbs goes wrong.
func TestDivGreatJustBelowMultiples(t *testing.T) {
	d := dice{state: 161}
	for range 20000 {
		size := 1 + d.below(impl.MaxGreat-1)
		b, q := d.great(size), d.great(d.below(impl.MaxGreat-size+1))
		product := impl.MulGreat(b, q)
		for _, more := range []string{"\x01", b} {
			if a := impl.AddGreat(product, more); a != "" {
				checkDiv(t, a, b)
			}
		}
		if a, ok := impl.SubGreat(product, "\x01"); ok {
			checkDiv(t, a, b)
		}
	}
}

// With limbs of so many bytes, the first division wants the divisor added back once.
func TestDivGreatGuessOneTooGreat(t *testing.T) {
	for _, size := range []int{1, 2, 3, 4, 8} {
		noughts := strings.Repeat("\x00", size-1)
		half, under := "\x80"+noughts, "\x7f"+full(size-1)
		a := under + half + noughts + "\x00" + noughts + "\x00"
		b := half + noughts + "\x00" + noughts + "\x01"
		checkDiv(t, a, b)
		if q, _, _ := impl.DivGreat(a, b); q != full(size-1)+"\xfe" {
			t.Errorf("DivGreat(%x, %x) = %x, want %x", a, b, q, full(size-1)+"\xfe")
		}
		behind := strings.Repeat("\x00", impl.MaxGreat-len(a))
		checkDiv(t, a+behind, b)
		checkDiv(t, a+behind, b+strings.Repeat("\x00", impl.MaxGreat-len(a)-1)+"\x01")
	}
}

func TestProductIsPartedByEachPart(t *testing.T) {
	d := dice{state: 77}
	for range 5000 {
		size := 1 + d.below(impl.MaxGreat-1)
		a, b := d.great(size), d.great(1+d.below(impl.MaxGreat-size))
		product := impl.MulGreat(a, b)
		if !impl.GreatOk(product) || product == "" || product != impl.MulGreat(b, a) {
			t.Fatalf("MulGreat(%x, %x) = %x", a, b, product)
		}
		if q, r, ok := impl.DivGreat(product, a); !ok || q != b || r != "" {
			t.Fatalf("DivGreat(%x, %x) = %x, %x, %v; want %x", product, a, q, r, ok, b)
		}
		if q, r, ok := impl.DivGreat(product, b); !ok || q != a || r != "" {
			t.Fatalf("DivGreat(%x, %x) = %x, %x, %v; want %x", product, b, q, r, ok, a)
		}
	}
}

func TestQuotientAndRestComeBack(t *testing.T) {
	d := dice{state: 404}
	for range 5000 {
		a := d.great(d.below(impl.MaxGreat + 1))
		b := d.great(1 + d.below(impl.MaxGreat))
		q, r, ok := impl.DivGreat(a, b)
		if !ok || impl.CompareGreat(r, b) != -1 || impl.AddGreat(impl.MulGreat(q, b), r) != a {
			t.Fatalf("DivGreat(%x, %x) = %x, %x, %v", a, b, q, r, ok)
		}
	}
}

func TestBitsOf(t *testing.T) {
	for _, s := range someGreats() {
		if got, want := impl.BitsOf(s), bigOf(s).BitLen(); got != want {
			t.Errorf("BitsOf(%x) = %d, want %d", s, got, want)
		}
	}
	for bit := range 8 * impl.MaxGreat {
		s := greatOfBig(new(big.Int).Lsh(big.NewInt(1), uint(bit)))
		less, _ := impl.SubGreat(s, "\x01")
		if impl.BitsOf(s) != bit+1 || impl.BitsOf(less) != bit {
			t.Errorf("BitsOf 2 to the power of %d = %d, of one less = %d", bit, impl.BitsOf(s), impl.BitsOf(less))
		}
	}
	for _, s := range wrongGreats() {
		if got := impl.BitsOf(s); got != -1 {
			t.Errorf("BitsOf(%.20x) = %d, want -1", s, got)
		}
	}
}

func TestBitsTellTheNumber(t *testing.T) {
	for _, s := range someGreats() {
		told := new(big.Int)
		for i := range 8 * (impl.MaxGreat + 2) {
			told.SetBit(told, i, uint(impl.BitOf(s, i)))
		}
		if told.Cmp(bigOf(s)) != 0 {
			t.Errorf("the bits of %x tell %x", s, told)
		}
		if n := impl.BitsOf(s); n > 0 && impl.BitOf(s, n-1) != 1 || impl.BitOf(s, n) != 0 {
			t.Errorf("the highest bit of %x, and the one behind it, are %d and %d", s, impl.BitOf(s, n-1), impl.BitOf(s, n))
		}
	}
}

func TestBitOfWhereThereIsNone(t *testing.T) {
	places := []int{-1, -2, -7, -8, -9, -64, -8 * impl.MaxGreat, math.MinInt, math.MinInt + 1, math.MinInt32}
	for _, s := range append(someGreats(), wrongGreats()...) {
		for _, i := range places {
			if got := impl.BitOf(s, i); got != 0 {
				t.Errorf("BitOf(%.20x, %d) = %d, want 0", s, i, got)
			}
		}
		for _, i := range []int{8 * len(s), 8*len(s) + 1, 8*len(s) + 7, 8*len(s) + 8, 8 * impl.MaxGreat, math.MaxInt32, math.MaxInt - 7, math.MaxInt} {
			if got := impl.BitOf(s, i); got != 0 {
				t.Errorf("BitOf(%.20x, %d) = %d, want 0", s, i, got)
			}
		}
	}
	for _, s := range wrongGreats() {
		for i := range 8 * (impl.MaxGreat + 2) {
			if got := impl.BitOf(s, i); got != 0 {
				t.Errorf("BitOf(%.20x, %d) = %d, want 0", s, i, got)
			}
		}
	}
}

// checkRefused wants the fixed answers where a or b is not right.
func checkRefused(t *testing.T, a, b string) {
	t.Helper()
	if got := impl.CompareGreat(a, b); got != 0 {
		t.Errorf("CompareGreat(%.20x, %.20x) = %d, want 0", a, b, got)
	}
	if got := impl.AddGreat(a, b); got != "" {
		t.Errorf("AddGreat(%.20x, %.20x) = %x, want none", a, b, got)
	}
	if got, ok := impl.SubGreat(a, b); ok || got != "" {
		t.Errorf("SubGreat(%.20x, %.20x) = %x, %v; want none, false", a, b, got, ok)
	}
	if got := impl.MulGreat(a, b); got != "" {
		t.Errorf("MulGreat(%.20x, %.20x) = %x, want none", a, b, got)
	}
	if q, r, ok := impl.DivGreat(a, b); ok || q != "" || r != "" {
		t.Errorf("DivGreat(%.20x, %.20x) = %x, %x, %v; want none, none, false", a, b, q, r, ok)
	}
}

func TestWhatIsNotRightIsRefused(t *testing.T) {
	for _, wrong := range wrongGreats() {
		for _, right := range someGreats() {
			checkRefused(t, wrong, right)
			checkRefused(t, right, wrong)
		}
		for _, other := range wrongGreats() {
			checkRefused(t, wrong, other)
		}
	}
}
