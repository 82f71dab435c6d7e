package tests

import (
	"fmt"
	"math/big"
	"testing"

	"loop.example/g00970/impl"
)

const smallEnd = 10000

// curvePrimes are P and R of the four curves, one behind the other.
func curvePrimes() []string {
	var list []string
	for _, figures := range []string{
		"1706311", "1704961", "10647363907", "9831361", primeOf32,
		"21888242871839275222246405745257275088548364400416034343698204186575808495617", primeOf48,
		"52435875175126190479447740508185965837690552500527637822603658699938581184513",
	} {
		list = append(list, greatOfFigures(figures))
	}
	return list
}

// smallPrimes are crossed out by their multiples, not divided.
func smallPrimes(from, end int) []int {
	crossed := make([]bool, end)
	var list []int
	for n := 2; n < end; n++ {
		if crossed[n] {
			continue
		}
		if n >= from {
			list = append(list, n)
		}
		for m := n * n; m < end; m += n {
			crossed[m] = true
		}
	}
	return list
}

// rightPrimes are all that PrimeOk takes.
func rightPrimes() []string {
	list := curvePrimes()
	for _, n := range smallPrimes(3, smallEnd) {
		list = append(list, impl.GreatOf(n))
	}
	return list
}

// refusedPrimes are primes of no curve that are not small, numbers that are no primes, and what is not right.
func refusedPrimes() []string {
	list := append(wrongGreats(), "", "\x01", "\x02", "\x04", "\x00\x03", "\x00\x07", "\x00\x00\x11", "\x07\x00", "\x00\x02")
	for _, n := range []int{9, 15, 21, 25, 49, 121, 169, 561, 1105, 1729, 9409, 9797, 9801, 9991, 9999, 10000, 10001, 10007, 10009, 10037, 10201, 12289, 65537, 1706311 + 2, 1706311 + 12, 1704961 + 30, 9831361 - 2, 1<<31 - 1, 1<<61 - 1, 1<<63 - 25} {
		list = append(list, impl.GreatOf(n))
	}
	for _, figures := range []string{
		"170141183460469231731687303715884105727",
		"57896044618658097711785492504343953926634992332820282019728792003956564819949",
	} {
		list = append(list, greatOfFigures(figures))
	}
	primes := curvePrimes()
	for i, p := range primes {
		next := primes[(i+1)%len(primes)]
		list = append(list, "\x00"+p, p+"\x00", p+p, p[:len(p)-1], p[1:], lessBy(p, 1), lessBy(p, 2), impl.AddGreat(p, "\x02"), impl.MulGreat(p, next), impl.MulGreat(p, p))
	}
	for _, size := range []int{9, 80, 159, 160} {
		list = append(list, full(size), power(size-2)+"\x01")
	}
	return list
}

// wrongRests are none of p: p itself, others that are not less, and what is not right.
func wrongRests(p string) []string {
	return append(wrongGreats(), p, impl.AddGreat(p, "\x01"), impl.MulGreat(p, p), full(impl.MaxGreat), "\x00"+lessBy(p, 1))
}

// lesserRoot is told by big numbers; it is nil without a root.
func lesserRoot(a, p string) *big.Int {
	root := new(big.Int).ModSqrt(bigOf(a), bigOf(p))
	if root == nil {
		return nil
	}
	if other := new(big.Int).Sub(bigOf(p), root); root.Sign() > 0 && other.Cmp(root) < 0 {
		return other
	}
	return root
}

func checkRoot(t *testing.T, a, p string) {
	t.Helper()
	symbol := big.Jacobi(bigOf(a), bigOf(p))
	if got := impl.SymbolOf(a, p); got != symbol {
		t.Fatalf("SymbolOf(%x, %x) = %d, want %d", a, p, got, symbol)
	}
	got, ok := impl.RootOf(a, p)
	want := lesserRoot(a, p)
	if want == nil {
		if ok || got != "" || symbol != -1 {
			t.Fatalf("RootOf(%x, %x) = %x, %v, want none", a, p, got, ok)
		}
		return
	}
	if !ok || got != greatOfBig(want) || impl.MulRest(got, got, p) != a || impl.Greater(got, p) {
		t.Fatalf("RootOf(%x, %x) = %x, %v, want %x", a, p, got, ok, want.Bytes())
	}
}

func TestPrimeOkOfAllThatAreSmall(t *testing.T) {
	prime := map[int]bool{}
	for _, n := range smallPrimes(3, smallEnd) {
		prime[n] = true
	}
	if len(prime) != 1228 {
		t.Fatalf("%d small primes above 2", len(prime))
	}
	for n := range 3 * smallEnd {
		if got := impl.PrimeOk(impl.GreatOf(n)); got != prime[n] {
			t.Errorf("PrimeOk of %d = %v", n, got)
		}
	}
}

func TestPrimeOkAboutItsEnd(t *testing.T) {
	for n, want := range map[int]bool{0: false, 1: false, 2: false, 3: true, 4: false, 5: true, 9: false, 9941: true, 9949: true, 9967: true, 9973: true, 9975: false, 9999: false, 10000: false, 10007: false, 10009: false} {
		if got := impl.PrimeOk(impl.GreatOf(n)); got != want {
			t.Errorf("PrimeOk of %d = %v", n, got)
		}
	}
}

func TestPrimeOkOfCurves(t *testing.T) {
	for _, p := range curvePrimes() {
		if !impl.PrimeOk(p) {
			t.Errorf("PrimeOk(%x) = false", p)
		}
		if !bigOf(p).ProbablyPrime(20) {
			t.Errorf("%x is no prime", p)
		}
	}
}

func TestPrimesThatAreRefused(t *testing.T) {
	for _, p := range refusedPrimes() {
		if impl.PrimeOk(p) {
			t.Errorf("PrimeOk(%x) = true", p)
		}
		if got := impl.NoSquare(p); got != "" {
			t.Errorf("NoSquare(%x) = %x", p, got)
		}
		for _, a := range []string{"", "\x01", "\x04", "\x09", p, "\x00", "\x00\x01"} {
			if got := impl.SymbolOf(a, p); got != 2 {
				t.Errorf("SymbolOf(%x, %x) = %d", a, p, got)
			}
			if got, ok := impl.RootOf(a, p); got != "" || ok {
				t.Errorf("RootOf(%x, %x) = %x, %v", a, p, got, ok)
			}
		}
	}
}

func TestRestsWithoutSymbol(t *testing.T) {
	primes := append(curvePrimes(), "\x03", "\x05", "\x07", "\x11", "\xfb", "\x01\x01", impl.GreatOf(7681), impl.GreatOf(9973))
	for _, p := range primes {
		for _, a := range wrongRests(p) {
			if got := impl.SymbolOf(a, p); got != 2 {
				t.Errorf("SymbolOf(%x, %x) = %d", a, p, got)
			}
			if got, ok := impl.RootOf(a, p); got != "" || ok {
				t.Errorf("RootOf(%x, %x) = %x, %v", a, p, got, ok)
			}
			if impl.Greater(a, p) {
				t.Errorf("Greater(%x, %x) = true", a, p)
			}
		}
	}
}

func TestRootsWrittenOut(t *testing.T) {
	for _, c := range []struct {
		a, p, symbol int
		root         int
	}{
		{0, 3, 0, 0}, {1, 3, 1, 1}, {2, 3, -1, 0},
		{0, 5, 0, 0}, {1, 5, 1, 1}, {2, 5, -1, 0}, {3, 5, -1, 0}, {4, 5, 1, 2},
		{1, 7, 1, 1}, {2, 7, 1, 3}, {3, 7, -1, 0}, {4, 7, 1, 2}, {5, 7, -1, 0}, {6, 7, -1, 0},
		{1, 17, 1, 1}, {2, 17, 1, 6}, {4, 17, 1, 2}, {8, 17, 1, 5}, {9, 17, 1, 3}, {13, 17, 1, 8}, {15, 17, 1, 7}, {16, 17, 1, 4}, {3, 17, -1, 0},
		{256, 257, 1, 16}, {2, 257, 1, 60}, {255, 257, 1, 68}, {3, 257, -1, 0},
	} {
		a, p := impl.GreatOf(c.a), impl.GreatOf(c.p)
		if got := impl.SymbolOf(a, p); got != c.symbol {
			t.Errorf("SymbolOf %d of %d = %d, want %d", c.a, c.p, got, c.symbol)
		}
		if got, ok := impl.RootOf(a, p); got != impl.GreatOf(c.root) || ok != (c.symbol >= 0) {
			t.Errorf("RootOf %d of %d = %x, %v, want %d", c.a, c.p, got, ok, c.root)
		}
	}
}

// TestRootsOfEachRest gathers the squares first, so that it hangs on no other way to look for roots.
func TestRootsOfEachRest(t *testing.T) {
	primes := append(smallPrimes(3, 300), 577, 641, 769, 1153)
	for _, p := range primes {
		root := map[int]int{}
		for x := (p - 1) / 2; x >= 0; x-- {
			root[x*x%p] = x
		}
		if len(root) != (p+1)/2 {
			t.Fatalf("%d squares of %d", len(root), p)
		}
		for a := range p {
			want, square := root[a]
			got, ok := impl.RootOf(impl.GreatOf(a), impl.GreatOf(p))
			if ok != square || got != impl.GreatOf(want) {
				t.Fatalf("RootOf %d of %d = %x, %v, want %d, %v", a, p, got, ok, want, square)
			}
		}
	}
}

func TestRootsOfAllPrimes(t *testing.T) {
	d := dice{state: 66}
	for _, p := range rightPrimes() {
		for _, a := range someRests(p, &d) {
			checkRoot(t, a, p)
			checkRoot(t, impl.MulRest(a, a, p), p)
		}
	}
}

// TestRootsOfManyTwos goes through rests that need each number of turns of a search, and 1 at once.
func TestRootsOfManyTwos(t *testing.T) {
	primes := curvePrimes()
	for _, n := range []int{3, 5, 13, 17, 41, 97, 193, 257, 577, 641, 769, 1153, 2689, 3329, 6529, 7681, 7937, 9473} {
		primes = append(primes, impl.GreatOf(n))
	}
	d := dice{state: 606}
	for _, p := range primes {
		twos, odd := impl.TwosIn(p)
		factor := impl.PowRest(impl.NoSquare(p), odd, p)
		for times := range twos + 1 {
			checkRoot(t, factor, p)
			some := impl.PowRest(d.restBelow(p), impl.GreatOf(1<<twos), p)
			checkRoot(t, impl.MulRest(factor, some, p), p)
			if (factor == "\x01") != (times == twos) {
				t.Fatalf("a factor of %x comes to %x when it is squared %d times", p, factor, times)
			}
			factor = impl.MulRest(factor, factor, p)
		}
	}
}

func TestSymbolsAreMultiplied(t *testing.T) {
	d := dice{state: 616}
	primes := append(curvePrimes(), "\x03", "\x05", "\x07", "\x11", "\x01\x01", impl.GreatOf(7681), impl.GreatOf(9967), impl.GreatOf(9973))
	for _, p := range primes {
		seen := map[string]bool{}
		rests := append(someRests(p, &d), "\x02", impl.NoSquare(p))
		for _, a := range rests {
			for _, b := range rests {
				x, y := impl.SymbolOf(a, p), impl.SymbolOf(b, p)
				if got := impl.SymbolOf(impl.MulRest(a, b, p), p); got != x*y {
					t.Fatalf("SymbolOf the product of %x and %x by %x = %d, of them %d and %d", a, b, p, got, x, y)
				}
				seen[fmt.Sprint(x, y)] = true
			}
		}
		if len(seen) != 9 {
			t.Errorf("of %x only %d cases were seen", p, len(seen))
		}
	}
}

func TestGreater(t *testing.T) {
	d := dice{state: 660}
	ps := append(somePs(), rightPrimes()[:40]...)
	for _, p := range ps {
		for _, a := range someRests(p, &d) {
			want := a != "" && new(big.Int).Lsh(bigOf(a), 1).Cmp(bigOf(p)) > 0
			if got := impl.Greater(a, p); got != want {
				t.Fatalf("Greater(%x, %x) = %v", a, p, got)
			}
			if a != "" && want && impl.Greater(impl.NegRest(a, p), p) {
				t.Fatalf("both %x and what is against it by %x are greater", a, p)
			}
		}
	}
}

func TestGreaterWrittenOut(t *testing.T) {
	for _, c := range []struct {
		a, p string
		want bool
	}{
		{"", "\x07", false}, {"\x03", "\x07", false}, {"\x04", "\x07", true}, {"\x06", "\x07", true}, {"\x07", "\x07", false}, {"\x08", "\x07", false},
		{"\x04", "\x08", false}, {"\x05", "\x08", true}, {"\x03", "\x08", false}, {"\x01", "\x02", false}, {"", "\x02", false}, {"\x02", "\x03", true},
		{"", "\x01", false}, {"\x01", "\x01", false}, {"", "", false}, {"\x01", "", false}, {"\x05", "", false}, {"\x00", "\x07", false},
		{"\x00\x05", "\x07", false}, {"\x05", "\x00\x07", false}, {"\x05", "\x00\xff\xff", false}, {full(160), full(160), false},
		{lessBy(full(160), 1), full(160), true}, {"\x80" + noughts(159), full(160), true}, {"\x7f" + full(159), full(160), false},
		{full(160), full(161), false}, {full(161), full(160), false}, {full(161), full(162), false},
	} {
		if got := impl.Greater(c.a, c.p); got != c.want {
			t.Errorf("Greater(%x, %x) = %v", c.a, c.p, got)
		}
	}
}

func TestNoSquareIsTheLeast(t *testing.T) {
	for _, p := range rightPrimes() {
		least := int64(2)
		for big.Jacobi(big.NewInt(least), bigOf(p)) != -1 {
			least++
		}
		got := impl.NoSquare(p)
		if got != impl.GreatOf(int(least)) || impl.SymbolOf(got, p) != -1 {
			t.Errorf("NoSquare(%x) = %x, want %d", p, got, least)
		}
	}
}

func TestNoSquareWrittenOut(t *testing.T) {
	for p, want := range map[int]int{0: 0, 1: 0, 2: 0, 3: 2, 4: 0, 5: 2, 7: 3, 9: 0, 17: 3, 23: 5, 71: 7, 311: 11, 479: 13, 1559: 17, 5711: 19, 9973: 2, 10007: 0, 1706311: 3, 1704961: 7, 9831361: 13, 10647363907: 2} {
		if got := impl.NoSquare(impl.GreatOf(p)); got != impl.GreatOf(want) {
			t.Errorf("NoSquare of %d = %x, want %d", p, got, want)
		}
	}
}

func checkTwos(t *testing.T, p string) {
	t.Helper()
	n, odd := impl.TwosIn(p)
	less := new(big.Int).Sub(bigOf(p), big.NewInt(1))
	if got := new(big.Int).Lsh(bigOf(odd), uint(n)); got.Cmp(less) != 0 || !impl.GreatOk(odd) || impl.BitOf(odd, 0) != 1 {
		t.Fatalf("TwosIn(%x) = %d, %x", p, n, odd)
	}
}

func TestTwosIn(t *testing.T) {
	for n := 2; n < 3000; n++ {
		checkTwos(t, impl.GreatOf(n))
	}
	for _, p := range append(somePs(), curvePrimes()...) {
		checkTwos(t, p)
	}
	d := dice{state: 1606}
	for bits := range uint(8*impl.MaxGreat - 1) {
		two := new(big.Int).Lsh(big.NewInt(1), bits)
		checkTwos(t, greatOfBig(new(big.Int).Add(two, big.NewInt(1))))
		many := new(big.Int).Lsh(bigOf(d.odd(1+d.below(8))), bits)
		if p := greatWithin(many.Add(many, big.NewInt(1))); p != "" {
			checkTwos(t, p)
		}
	}
}

func TestTwosInWrittenOut(t *testing.T) {
	for _, c := range []struct {
		p   string
		n   int
		odd string
	}{
		{"", 0, ""}, {"\x01", 0, ""}, {"\x02", 0, "\x01"}, {"\x03", 1, "\x01"}, {"\x04", 0, "\x03"}, {"\x05", 2, "\x01"}, {"\x07", 1, "\x03"}, {"\x11", 4, "\x01"},
		{"\x01\x00", 0, "\xff"}, {"\x01\x01", 8, "\x01"}, {"\x02\x01", 9, "\x01"}, {"\x03\x01", 8, "\x03"}, {"\x01\x81", 7, "\x03"}, {power(7) + "\x01", 64, "\x01"},
		{full(160), 1, "\x7f" + full(159)}, {full(159) + "\xfe", 0, full(159) + "\xfd"}, {"\x80" + noughts(158) + "\x01", 1279, "\x01"}, {power(158) + "\x01", 1272, "\x01"},
		{"\x80" + noughts(159), 0, "\x7f" + full(159)}, {full(159) + "\x01", 8, full(159)},
		{"\x00\x05", 0, ""}, {"\x00", 0, ""}, {full(161), 0, ""}, {power(159) + "\x01", 0, ""}, {"\x00" + full(160), 0, ""},
	} {
		if n, odd := impl.TwosIn(c.p); n != c.n || odd != c.odd {
			t.Errorf("TwosIn(%x) = %d, %x, want %d, %x", c.p, n, odd, c.n, c.odd)
		}
	}
	for _, p := range wrongGreats() {
		if n, odd := impl.TwosIn(p); n != 0 || odd != "" {
			t.Errorf("TwosIn(%x) = %d, %x", p, n, odd)
		}
	}
}

// TestTwosOfPrimes holds how often p less 1 is divided by 2, so that primes with one two, two and many are tried.
func TestTwosOfPrimes(t *testing.T) {
	for i, want := range []int{1, 10, 1, 6, 1, 28, 1, 32} {
		if n, _ := impl.TwosIn(curvePrimes()[i]); n != want {
			t.Errorf("TwosIn(%x) = %d, want %d", curvePrimes()[i], n, want)
		}
	}
	for p, want := range map[int]int{3: 1, 5: 2, 9973: 2, 9967: 1, 257: 8, 7681: 9} {
		if n, _ := impl.TwosIn(impl.GreatOf(p)); n != want {
			t.Errorf("TwosIn of %d = %d, want %d", p, n, want)
		}
	}
}
