package tests

import (
	"math/big"
	"testing"

	"loop.example/g00970/impl"
)

func pairOfInts(a, b int) impl.Pair {
	return impl.Pair{A: impl.GreatOf(a), B: impl.GreatOf(b)}
}

func one() impl.Pair { return impl.Pair{A: "\x01"} }

func pairOfBigs(a, b *big.Int, p string) impl.Pair {
	return impl.Pair{A: restOfBig(a, p), B: restOfBig(b, p)}
}

func productOfBigs(x, y impl.Pair, p string) impl.Pair {
	a, b, c, d := bigOf(x.A), bigOf(x.B), bigOf(y.A), bigOf(y.B)
	first := new(big.Int).Sub(new(big.Int).Mul(a, c), new(big.Int).Mul(b, d))
	second := new(big.Int).Add(new(big.Int).Mul(a, d), new(big.Int).Mul(b, c))
	return pairOfBigs(first, second, p)
}

func normOfBigs(x impl.Pair, p string) *big.Int {
	a, b := bigOf(x.A), bigOf(x.B)
	norm := new(big.Int).Add(new(big.Int).Mul(a, a), new(big.Int).Mul(b, b))
	return norm.Mod(norm, bigOf(p))
}

// powerOfBigs begins with the lowest bit, other than the program.
func powerOfBigs(x impl.Pair, n, p string) impl.Pair {
	power, bits := one(), bigOf(n)
	for i := range bits.BitLen() {
		if bits.Bit(i) == 1 {
			power = productOfBigs(power, x, p)
		}
		x = productOfBigs(x, x, p)
	}
	return power
}

// pairPs are somePs, P and R of each curve, and products of these.
func pairPs() []string {
	primes := curvePrimes()
	list := append(somePs(), primes...)
	return append(list, impl.MulGreat(primes[0], primes[1]), impl.MulGreat(primes[4], primes[5]), impl.MulGreat(primes[7], primes[7]))
}

// somePairs are right for p: those with a part at an end, and a few others.
func somePairs(p string, d *dice) []impl.Pair {
	last := lessBy(p, 1)
	list := []impl.Pair{
		{}, one(), {B: "\x01"}, {A: "\x01", B: "\x01"},
		{A: last}, {B: last}, {A: last, B: last}, {A: "\x01", B: last},
	}
	for range 3 {
		list = append(list, impl.Pair{A: d.restBelow(p), B: d.restBelow(p)})
	}
	return append(list, impl.Pair{A: d.restBelow(p)}, impl.Pair{B: d.restBelow(p)})
}

// noInverse is a pair, neither part of which is 0, whose norm has a part in common with p.
type noInverse struct {
	p    string
	x    impl.Pair
	norm string
}

func withoutInverse() []noInverse {
	list := []noInverse{
		{"\x02", pairOfInts(1, 1), ""}, {"\x04", pairOfInts(1, 1), "\x02"}, {"\x04", pairOfInts(3, 1), "\x02"},
		{"\x04", pairOfInts(2, 2), ""}, {"\x05", pairOfInts(1, 2), ""}, {"\x05", pairOfInts(3, 1), ""}, {"\x05", pairOfInts(4, 2), ""},
		{"\x06", pairOfInts(1, 1), "\x02"}, {"\x06", pairOfInts(3, 3), ""}, {"\x08", pairOfInts(1, 3), "\x02"}, {"\x09", pairOfInts(3, 3), ""},
		{"\x09", pairOfInts(3, 6), ""}, {"\x0a", pairOfInts(1, 2), "\x05"}, {"\x0a", pairOfInts(1, 3), ""}, {"\x0d", pairOfInts(2, 3), ""},
		{"\x0f", pairOfInts(1, 2), "\x05"}, {"\x0f", pairOfInts(3, 6), ""}, {"\x15", pairOfInts(7, 14), "\x0e"}, {"\x41", pairOfInts(4, 7), ""},
	}
	for i, p := range curvePrimes() {
		if i%2 == 0 {
			continue
		}
		// R of each curve leaves 1 by 4, so that 0 less 1 has a root.
		root, _ := impl.RootOf(lessBy(p, 1), p)
		times := impl.MulRest(root, "\x07", p)
		list = append(list, noInverse{p, impl.Pair{A: root, B: "\x01"}, ""}, noInverse{p, impl.Pair{A: "\x01", B: root}, ""}, noInverse{p, impl.Pair{A: times, B: lessBy(p, 7)}, ""})
	}
	even := full(impl.MaxGreat-1) + "\xfe"
	return append(list, noInverse{even, impl.Pair{A: lessBy(even, 1), B: "\x01"}, "\x02"}, noInverse{full(impl.MaxGreat), pairOfInts(1, 2), "\x05"})
}

func checkTwoPairs(t *testing.T, x, y impl.Pair, p string) {
	t.Helper()
	a, b, c, d := bigOf(x.A), bigOf(x.B), bigOf(y.A), bigOf(y.B)
	sum := impl.AddPair(x, y, p)
	if want := pairOfBigs(new(big.Int).Add(a, c), new(big.Int).Add(b, d), p); sum != want || impl.AddPair(y, x, p) != want {
		t.Fatalf("AddPair(%x, %x, %x) = %x, want %x", x, y, p, sum, want)
	}
	difference := impl.SubPair(x, y, p)
	if want := pairOfBigs(new(big.Int).Sub(a, c), new(big.Int).Sub(b, d), p); difference != want {
		t.Fatalf("SubPair(%x, %x, %x) = %x, want %x", x, y, p, difference, want)
	}
	if impl.SubPair(sum, y, p) != x || impl.AddPair(difference, y, p) != x || impl.AddPair(x, impl.NegPair(y, p), p) != difference {
		t.Fatalf("what was added to %x by %x does not come back: %x", x, p, y)
	}
	product := impl.MulPair(x, y, p)
	if want := productOfBigs(x, y, p); product != want || impl.MulPair(y, x, p) != want {
		t.Fatalf("MulPair(%x, %x, %x) = %x, want %x", x, y, p, product, want)
	}
	if got, want := impl.NormOf(product, p), impl.MulRest(impl.NormOf(x, p), impl.NormOf(y, p), p); got != want {
		t.Fatalf("NormOf the product of %x and %x by %x = %x, want %x", x, y, p, got, want)
	}
	if got, want := impl.OtherPair(product, p), impl.MulPair(impl.OtherPair(x, p), impl.OtherPair(y, p), p); got != want {
		t.Fatalf("OtherPair of the product of %x and %x by %x = %x, want %x", x, y, p, got, want)
	}
}

func checkThreePairs(t *testing.T, x, y, z impl.Pair, p string) {
	t.Helper()
	if got, want := impl.AddPair(impl.AddPair(x, y, p), z, p), impl.AddPair(x, impl.AddPair(y, z, p), p); got != want {
		t.Fatalf("%x, %x and %x by %x come to %x and %x", x, y, z, p, got, want)
	}
	if got, want := impl.MulPair(impl.MulPair(x, y, p), z, p), impl.MulPair(x, impl.MulPair(y, z, p), p); got != want {
		t.Fatalf("%x, %x and %x by %x, multiplied, come to %x and %x", x, y, z, p, got, want)
	}
	parts := impl.AddPair(impl.MulPair(x, z, p), impl.MulPair(y, z, p), p)
	if got := impl.MulPair(impl.AddPair(x, y, p), z, p); got != parts {
		t.Fatalf("%x and %x by %x, times %x = %x, part by part %x", x, y, p, z, got, parts)
	}
}

func checkOnePair(t *testing.T, x impl.Pair, p string) {
	t.Helper()
	a, b := bigOf(x.A), bigOf(x.B)
	if !impl.PairOk(x, p) {
		t.Fatalf("PairOk(%x, %x) = false", x, p)
	}
	if got, want := impl.NegPair(x, p), pairOfBigs(new(big.Int).Neg(a), new(big.Int).Neg(b), p); got != want {
		t.Fatalf("NegPair(%x, %x) = %x, want %x", x, p, got, want)
	}
	other := impl.OtherPair(x, p)
	if want := pairOfBigs(a, new(big.Int).Neg(b), p); other != want || impl.OtherPair(other, p) != x {
		t.Fatalf("OtherPair(%x, %x) = %x, want %x", x, p, other, want)
	}
	norm := impl.NormOf(x, p)
	if want := greatOfBig(normOfBigs(x, p)); norm != want || impl.NormOf(other, p) != want || impl.MulPair(x, other, p) != (impl.Pair{A: want}) {
		t.Fatalf("NormOf(%x, %x) = %x, want %x", x, p, norm, want)
	}
	checkInversePair(t, x, p)
}

func checkInversePair(t *testing.T, x impl.Pair, p string) {
	t.Helper()
	part := new(big.Int).ModInverse(normOfBigs(x, p), bigOf(p))
	got, ok := impl.InversePair(x, p)
	if part == nil {
		if ok || got != (impl.Pair{}) {
			t.Fatalf("InversePair(%x, %x) = %x, %v, want none", x, p, got, ok)
		}
		return
	}
	want := pairOfBigs(new(big.Int).Mul(bigOf(x.A), part), new(big.Int).Mul(new(big.Int).Neg(bigOf(x.B)), part), p)
	if !ok || got != want || impl.MulPair(x, got, p) != one() || impl.MulPair(got, x, p) != one() {
		t.Fatalf("InversePair(%x, %x) = %x, %v, want %x", x, p, got, ok, want)
	}
	if back, ok := impl.InversePair(got, p); !ok || back != x {
		t.Fatalf("InversePair(%x, %x) = %x, %v, want %x", got, p, back, ok, x)
	}
}

func TestPairsByBigs(t *testing.T) {
	d := dice{state: 707}
	for _, p := range pairPs() {
		pairs := somePairs(p, &d)
		for i, x := range pairs {
			checkOnePair(t, x, p)
			for _, y := range pairs {
				checkTwoPairs(t, x, y, p)
			}
			checkThreePairs(t, x, pairs[(i+5)%len(pairs)], pairs[(i+9)%len(pairs)], p)
		}
	}
}

// TestEachPair tries all pairs of a small p; an inverse is looked for among all of them.
func TestEachPair(t *testing.T) {
	for p := 2; p <= 13; p++ {
		great := impl.GreatOf(p)
		for i := range p * p {
			a, b := i/p, i%p
			x := pairOfInts(a, b)
			if got := impl.NormOf(x, great); got != impl.GreatOf((a*a+b*b)%p) {
				t.Fatalf("NormOf %d and %d by %d = %x", a, b, p, got)
			}
			if got := impl.NegPair(x, great); got != pairOfInts((p-a)%p, (p-b)%p) {
				t.Fatalf("NegPair of %d and %d by %d = %x", a, b, p, got)
			}
			if got := impl.OtherPair(x, great); got != pairOfInts(a, (p-b)%p) {
				t.Fatalf("OtherPair of %d and %d by %d = %x", a, b, p, got)
			}
			var inverse impl.Pair
			found := false
			for j := range p * p {
				c, e := j/p, j%p
				product := pairOfInts((a*c+(p-b)*e)%p, (a*e+b*c)%p)
				if got := impl.MulPair(x, pairOfInts(c, e), great); got != product {
					t.Fatalf("MulPair of %d and %d, %d and %d by %d = %x", a, b, c, e, p, got)
				}
				if got := impl.AddPair(x, pairOfInts(c, e), great); got != pairOfInts((a+c)%p, (b+e)%p) {
					t.Fatalf("AddPair of %d and %d, %d and %d by %d = %x", a, b, c, e, p, got)
				}
				if got := impl.SubPair(x, pairOfInts(c, e), great); got != pairOfInts((a+p-c)%p, (b+p-e)%p) {
					t.Fatalf("SubPair of %d and %d, %d and %d by %d = %x", a, b, c, e, p, got)
				}
				if product == one() {
					inverse, found = pairOfInts(c, e), true
				}
			}
			if got, ok := impl.InversePair(x, great); got != inverse || ok != found {
				t.Fatalf("InversePair of %d and %d by %d = %x, %v, want %x, %v", a, b, p, got, ok, inverse, found)
			}
		}
	}
}

func TestPairsWrittenOut(t *testing.T) {
	x, y := pairOfInts(2, 3), pairOfInts(4, 6)
	for _, c := range []struct {
		what      string
		got, want impl.Pair
	}{
		{"sum by 7", impl.AddPair(x, y, "\x07"), pairOfInts(6, 2)},
		{"difference by 7", impl.SubPair(x, y, "\x07"), pairOfInts(5, 4)},
		{"product by 7", impl.MulPair(x, y, "\x07"), pairOfInts(4, 3)},
		{"product by 1000", impl.MulPair(x, y, impl.GreatOf(1000)), pairOfInts(990, 24)},
		{"what is no rest, squared, by 2", impl.MulPair(pairOfInts(0, 1), pairOfInts(0, 1), "\x02"), pairOfInts(1, 0)},
		{"what is no rest, squared, by 3", impl.MulPair(pairOfInts(0, 1), pairOfInts(0, 1), "\x03"), pairOfInts(2, 0)},
		{"what is no rest, squared, by 4", impl.MulPair(pairOfInts(0, 1), pairOfInts(0, 1), "\x04"), pairOfInts(3, 0)},
		{"against 2 and 3 by 7", impl.NegPair(x, "\x07"), pairOfInts(5, 4)},
		{"against 0 and 0 by 7", impl.NegPair(impl.Pair{}, "\x07"), impl.Pair{}},
		{"against 2 and 0 by 7", impl.NegPair(pairOfInts(2, 0), "\x07"), pairOfInts(5, 0)},
		{"other than 2 and 3 by 7", impl.OtherPair(x, "\x07"), pairOfInts(2, 4)},
		{"other than 2 and 0 by 7", impl.OtherPair(pairOfInts(2, 0), "\x07"), pairOfInts(2, 0)},
		{"other than 0 and 3 by 7", impl.OtherPair(pairOfInts(0, 3), "\x07"), pairOfInts(0, 4)},
		{"square by 7", impl.PowPair(x, "\x02", "\x07"), pairOfInts(2, 5)},
		{"cube by 7", impl.PowPair(x, "\x03", "\x07"), pairOfInts(3, 2)},
		{"power 48 by 7", impl.PowPair(x, "\x30", "\x07"), pairOfInts(1, 0)},
		{"power 7 by 7", impl.PowPair(x, "\x07", "\x07"), pairOfInts(2, 4)},
	} {
		if c.got != c.want {
			t.Errorf("%s: %x, want %x", c.what, c.got, c.want)
		}
	}
	if got := impl.NormOf(x, impl.GreatOf(1000)); got != "\x0d" {
		t.Errorf("NormOf 2 and 3 by 1000 = %x", got)
	}
	for _, c := range []struct{ a, b, p, c, d int }{
		{2, 3, 7, 5, 3}, {1, 0, 2, 1, 0}, {0, 1, 2, 0, 1}, {0, 1, 3, 0, 2}, {1, 1, 3, 2, 1}, {2, 2, 3, 1, 2}, {0, 1, 4, 0, 3}, {3, 0, 4, 3, 0}, {1, 2, 4, 1, 2}, {1, 1, 9, 5, 4},
	} {
		if got, ok := impl.InversePair(pairOfInts(c.a, c.b), impl.GreatOf(c.p)); !ok || got != pairOfInts(c.c, c.d) {
			t.Errorf("InversePair of %d and %d by %d = %x, %v, want %d and %d", c.a, c.b, c.p, got, ok, c.c, c.d)
		}
	}
}

func TestPairsWithoutInverse(t *testing.T) {
	for _, c := range withoutInverse() {
		if c.x.A == "" || c.x.B == "" {
			t.Fatalf("%x has a part that is 0", c.x)
		}
		if got := impl.NormOf(c.x, c.p); got != c.norm {
			t.Errorf("NormOf(%x, %x) = %x, want %x", c.x, c.p, got, c.norm)
		}
		for _, x := range []impl.Pair{c.x, impl.OtherPair(c.x, c.p), impl.NegPair(c.x, c.p)} {
			if got, ok := impl.InversePair(x, c.p); ok || got != (impl.Pair{}) {
				t.Errorf("InversePair(%x, %x) = %x, %v, want none", x, c.p, got, ok)
			}
		}
	}
	for _, p := range pairPs() {
		if got, ok := impl.InversePair(impl.Pair{}, p); ok || got != (impl.Pair{}) {
			t.Errorf("InversePair of 0 and 0 by %x = %x, %v, want none", p, got, ok)
		}
	}
	for _, x := range []impl.Pair{pairOfInts(2, 0), pairOfInts(0, 2), pairOfInts(0, 3), pairOfInts(3, 0)} {
		if got, ok := impl.InversePair(x, "\x06"); ok || got != (impl.Pair{}) {
			t.Errorf("InversePair(%x, 6) = %x, %v, want none", x, got, ok)
		}
	}
}

// TestInversesByP tells that, where P of a curve leaves 3 by 4, each pair but 0 and 0 has an inverse.
func TestInversesByP(t *testing.T) {
	d := dice{state: 717}
	for i, p := range curvePrimes() {
		if i%2 == 1 {
			continue
		}
		if impl.BitOf(p, 0) != 1 || impl.BitOf(p, 1) != 1 {
			t.Fatalf("P %x does not leave 3", p)
		}
		for _, x := range somePairs(p, &d)[1:] {
			if _, ok := impl.InversePair(x, p); !ok && x != (impl.Pair{}) {
				t.Errorf("%x has no inverse by %x", x, p)
			}
		}
	}
}

func somePowers(d *dice) []string {
	return []string{"", "\x01", "\x02", "\x03", "\x04", "\x0a", "\xff", "\x01\x00", "\x80\x01", d.great(3), d.great(9), d.great(32)}
}

func TestPowersOfPairs(t *testing.T) {
	d := dice{state: 770}
	for _, p := range pairPs() {
		pairs := somePairs(p, &d)
		for _, x := range []impl.Pair{pairs[0], pairs[1], pairs[2], pairs[3], pairs[6], pairs[8], pairs[11], pairs[12]} {
			if got := impl.PowPair(x, "", p); got != one() {
				t.Fatalf("PowPair(%x, 0, %x) = %x", x, p, got)
			}
			if got := impl.PowPair(x, "\x01", p); got != x {
				t.Fatalf("PowPair(%x, 1, %x) = %x", x, p, got)
			}
			for _, n := range somePowers(&d) {
				if got, want := impl.PowPair(x, n, p), powerOfBigs(x, n, p); got != want {
					t.Fatalf("PowPair(%x, %x, %x) = %x, want %x", x, n, p, got, want)
				}
			}
			n, m := d.great(1+d.below(5)), d.great(1+d.below(5))
			both := impl.MulPair(impl.PowPair(x, n, p), impl.PowPair(x, m, p), p)
			if got := impl.PowPair(x, impl.AddGreat(n, m), p); got != both {
				t.Fatalf("the powers %x and %x of %x by %x, added up: %x, want %x", n, m, x, p, got, both)
			}
			if got, want := impl.PowPair(impl.PowPair(x, n, p), m, p), impl.PowPair(x, impl.MulGreat(n, m), p); got != want {
				t.Fatalf("the power %x of the power %x of %x by %x: %x, want %x", m, n, x, p, got, want)
			}
		}
	}
}

func TestPowersOneByOne(t *testing.T) {
	for _, p := range []string{"\x02", "\x03", "\x04", "\x05", "\x09", "\x0b", impl.GreatOf(9973), curvePrimes()[2], full(impl.MaxGreat)} {
		x := impl.Pair{A: "\x01", B: lessBy(p, 1)}
		product := one()
		for n := range 40 {
			if got := impl.PowPair(x, impl.GreatOf(n), p); got != product {
				t.Fatalf("PowPair(%x, %d, %x) = %x, want %x", x, n, p, got, product)
			}
			product = impl.MulPair(product, x, p)
		}
	}
}

// TestGreatPowersOfPairs hangs on what is known of a prime that leaves 3 by 4: p times, a pair comes to the other one.
func TestGreatPowersOfPairs(t *testing.T) {
	d := dice{state: 771}
	primes := curvePrimes()
	for i, p := range primes {
		x := impl.Pair{A: d.restBelow(p), B: d.restBelow(p)}
		want := impl.OtherPair(x, p)
		if i%2 == 1 {
			// R leaves 1, and each pair comes to itself.
			want = x
		}
		if got := impl.PowPair(x, p, p); got != want {
			t.Errorf("PowPair(%x, p, %x) = %x, want %x", x, p, got, want)
		}
	}
	for _, p := range []string{full(impl.MaxGreat), "\x07", primes[6]} {
		x := impl.Pair{A: d.restBelow(p), B: d.restBelow(p)}
		n := d.great(impl.MaxGreat)
		if got, want := impl.PowPair(x, n, p), powerOfBigs(x, n, p); got != want {
			t.Errorf("PowPair(%x, %x, %x) = %x, want %x", x, n, p, got, want)
		}
		if got, want := impl.PowPair(x, full(impl.MaxGreat), p), powerOfBigs(x, full(impl.MaxGreat), p); got != want {
			t.Errorf("PowPair(%x, full, %x) = %x, want %x", x, p, got, want)
		}
	}
}

// checkPairRefused holds that whatever is made with x by p is nothing; y is right, where p is.
func checkPairRefused(t *testing.T, x, y impl.Pair, p string) {
	t.Helper()
	for _, c := range []struct {
		what string
		got  impl.Pair
	}{
		{"AddPair", impl.AddPair(x, y, p)}, {"AddPair, turned", impl.AddPair(y, x, p)},
		{"SubPair", impl.SubPair(x, y, p)}, {"SubPair, turned", impl.SubPair(y, x, p)},
		{"MulPair", impl.MulPair(x, y, p)}, {"MulPair, turned", impl.MulPair(y, x, p)},
		{"AddPair of it alone", impl.AddPair(x, x, p)}, {"SubPair of it alone", impl.SubPair(x, x, p)}, {"MulPair of it alone", impl.MulPair(x, x, p)},
		{"NegPair", impl.NegPair(x, p)}, {"OtherPair", impl.OtherPair(x, p)},
		{"PowPair 0", impl.PowPair(x, "", p)}, {"PowPair 1", impl.PowPair(x, "\x01", p)}, {"PowPair 2", impl.PowPair(x, "\x02", p)},
	} {
		if c.got != (impl.Pair{}) {
			t.Errorf("%s of %x and %x by %x = %x", c.what, x, y, p, c.got)
		}
	}
	if impl.PairOk(x, p) {
		t.Errorf("PairOk(%x, %x) = true", x, p)
	}
	if got := impl.NormOf(x, p); got != "" {
		t.Errorf("NormOf(%x, %x) = %x", x, p, got)
	}
	if got, ok := impl.InversePair(x, p); got != (impl.Pair{}) || ok {
		t.Errorf("InversePair(%x, %x) = %x, %v", x, p, got, ok)
	}
}

func TestPairsByPThatIsRefused(t *testing.T) {
	ps := append(wrongGreats(), "", "\x01", "\x00", "\x00\x07", "\x00\x01", full(impl.MaxGreat+1), "\x00"+full(impl.MaxGreat), power(impl.MaxGreat))
	for _, p := range ps {
		for _, x := range []impl.Pair{{}, one(), {B: "\x01"}, {A: "\x02", B: "\x03"}, {A: p}, {B: p}, {A: p, B: p}, {A: "\x00"}, {B: "\x00"}} {
			checkPairRefused(t, x, impl.Pair{}, p)
			checkPairRefused(t, x, one(), p)
		}
	}
}

func TestPairsThatAreRefused(t *testing.T) {
	ps := append(curvePrimes(), "\x02", "\x03", "\x04", "\x05", "\x07", "\x09", "\xff", "\x01\x00", full(impl.MaxGreat), "\x80"+noughts(impl.MaxGreat-1))
	d := dice{state: 777}
	for _, p := range ps {
		y := impl.Pair{A: "\x01", B: d.restBelow(p)}
		for _, wrong := range wrongRests(p) {
			if impl.RestOk(wrong, p) {
				// What is too long for a great number comes as 0.
				continue
			}
			for _, part := range []string{"", "\x01", lessBy(p, 1)} {
				checkPairRefused(t, impl.Pair{A: wrong, B: part}, y, p)
				checkPairRefused(t, impl.Pair{A: part, B: wrong}, y, p)
			}
			checkPairRefused(t, impl.Pair{A: wrong, B: wrong}, y, p)
		}
		checkPairRefused(t, impl.Pair{A: p, B: "\x01"}, impl.Pair{A: "\x01", B: p}, p)
	}
}

func TestPowersOfPairsThatAreRefused(t *testing.T) {
	wrong := append(wrongGreats(), "\x00", "\x00\x01", "\x00\x00\x02", full(impl.MaxGreat+1), "\x00"+full(impl.MaxGreat), power(impl.MaxGreat))
	for _, p := range append(curvePrimes(), "\x02", "\x03", "\x04", "\x07", full(impl.MaxGreat)) {
		for _, n := range wrong {
			for _, x := range []impl.Pair{{}, one(), {B: "\x01"}, {A: lessBy(p, 1), B: "\x01"}} {
				if got := impl.PowPair(x, n, p); got != (impl.Pair{}) {
					t.Errorf("PowPair(%x, %x, %x) = %x", x, n, p, got)
				}
			}
		}
	}
}

func TestPairOk(t *testing.T) {
	for _, c := range []struct {
		a, b, p string
		want    bool
	}{
		{"", "", "\x02", true}, {"\x01", "\x01", "\x02", true}, {"\x02", "", "\x02", false}, {"", "\x02", "\x02", false},
		{"\x02", "\x02", "\x03", true}, {"\x03", "\x02", "\x03", false}, {"\x02", "\x03", "\x03", false}, {"\x03", "\x03", "\x04", true},
		{"", "", "", false}, {"", "", "\x01", false}, {"\x01", "", "\x01", false}, {"", "\x01", "", false},
		{"\x00", "", "\x07", false}, {"", "\x00", "\x07", false}, {"\x00\x01", "\x01", "\x07", false}, {"\x01", "\x00\x01", "\x07", false}, {"\x01", "\x01", "\x00\x07", false},
		{lessBy(full(160), 1), lessBy(full(160), 1), full(160), true}, {full(160), "", full(160), false}, {"", full(160), full(160), false},
		{"\x01", "\x01", full(161), false}, {full(161), "", full(160), false}, {"", full(161), full(160), false},
	} {
		if got := impl.PairOk(impl.Pair{A: c.a, B: c.b}, c.p); got != c.want {
			t.Errorf("PairOk of %x and %x by %x = %v", c.a, c.b, c.p, got)
		}
	}
}
