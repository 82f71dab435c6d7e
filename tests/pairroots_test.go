package tests

import (
	"math/big"
	"testing"

	"loop.example/g00970/impl"
)

// leavesByFour is told by big numbers.
func leavesByFour(p string) int64 {
	return new(big.Int).Mod(bigOf(p), big.NewInt(4)).Int64()
}

// primesThatLeave are all that PrimeOk takes that leave 1, or 3, when they are divided by 4.
func primesThatLeave(left int64) []string {
	var list []string
	for _, p := range rightPrimes() {
		if leavesByFour(p) == left {
			list = append(list, p)
		}
	}
	return list
}

// noPairPrimes are primes that leave 1, and all that are refused as primes, among them numbers that leave 3.
func noPairPrimes() []string {
	list := append(primesThatLeave(1), refusedPrimes()...)
	for _, n := range []int{15, 27, 35, 39, 51, 55, 63, 75, 243, 343, 2047, 9999, 10003, 10007, 10019, 65535, 1706311 * 3, 1706311*1704961 + 2} {
		list = append(list, impl.GreatOf(n))
	}
	return list
}

func greaterByBigs(a, p string) bool {
	return new(big.Int).Lsh(bigOf(a), 1).Cmp(bigOf(p)) > 0
}

func pairGreaterByBigs(x impl.Pair, p string) bool {
	if x.B == "" {
		return greaterByBigs(x.A, p)
	}
	return greaterByBigs(x.B, p)
}

func negPairByBigs(x impl.Pair, p string) impl.Pair {
	return pairOfBigs(new(big.Int).Neg(bigOf(x.A)), new(big.Int).Neg(bigOf(x.B)), p)
}

// squareByBigs asks whether x, as often as half of all pairs but 0 and 0 times itself, is 1.
func squareByBigs(x impl.Pair, p string) bool {
	half := new(big.Int).Mul(bigOf(p), bigOf(p))
	half.Rsh(half, 1)
	return x == (impl.Pair{}) || powerOfBigs(x, greatOfBig(half), p) == one()
}

// checkPairRoot wants a p that PairPrime takes; it answers whether there is a root.
func checkPairRoot(t *testing.T, x impl.Pair, p string) bool {
	t.Helper()
	square := squareByBigs(x, p)
	if got := impl.PairSquare(x, p); got != square {
		t.Fatalf("PairSquare(%x, %x) = %v", x, p, got)
	}
	root, ok := impl.PairRoot(x, p)
	if !square {
		if ok || root != (impl.Pair{}) {
			t.Fatalf("PairRoot(%x, %x) = %x, %v, want none", x, p, root, ok)
		}
		return false
	}
	if !ok || !impl.PairOk(root, p) || productOfBigs(root, root, p) != x || impl.MulPair(root, root, p) != x {
		t.Fatalf("PairRoot(%x, %x) = %x, %v, which is no root", x, p, root, ok)
	}
	if pairGreaterByBigs(root, p) || impl.PairGreater(root, p) {
		t.Fatalf("PairRoot(%x, %x) = %x, which is greater", x, p, root)
	}
	if other := impl.NegPair(root, p); root != (impl.Pair{}) && !impl.PairGreater(other, p) {
		t.Fatalf("of the roots of %x by %x, neither %x nor %x is greater", x, p, root, other)
	}
	return true
}

// checkRootOfSquare wants that the root of x times x is x, or the one against it.
func checkRootOfSquare(t *testing.T, x impl.Pair, p string) {
	t.Helper()
	square, want := productOfBigs(x, x, p), x
	if pairGreaterByBigs(x, p) {
		want = negPairByBigs(x, p)
	}
	if !impl.PairSquare(square, p) {
		t.Fatalf("PairSquare(%x, %x) = false, but %x times itself is it", square, p, x)
	}
	if got, ok := impl.PairRoot(square, p); !ok || got != want {
		t.Fatalf("PairRoot(%x, %x) = %x, %v, want %x", square, p, got, ok, want)
	}
}

func checkNoPairRoot(t *testing.T, x impl.Pair, p string) {
	t.Helper()
	if impl.PairSquare(x, p) {
		t.Errorf("PairSquare(%x, %x) = true", x, p)
	}
	if got, ok := impl.PairRoot(x, p); ok || got != (impl.Pair{}) {
		t.Errorf("PairRoot(%x, %x) = %x, %v", x, p, got, ok)
	}
}

func TestPairPrimeOfAllThatAreSmall(t *testing.T) {
	want := map[int]bool{}
	for _, n := range smallPrimes(3, smallEnd) {
		want[n] = n%4 == 3
	}
	for n := range 3 * smallEnd {
		if got := impl.PairPrime(impl.GreatOf(n)); got != want[n] {
			t.Errorf("PairPrime of %d = %v", n, got)
		}
	}
}

func TestPairPrimeWrittenOut(t *testing.T) {
	for n, want := range map[int]bool{-7: false, 0: false, 1: false, 2: false, 3: true, 4: false, 5: false, 6: false, 7: true, 9: false, 11: true, 13: false, 15: false, 17: false, 19: true, 27: false, 35: false, 9967: true, 9973: false, 9999: false, 10003: false, 10007: false, 1<<31 - 1: false, 1706311: true, 1704961: false, 10647363907: true, 9831361: false} {
		if got := impl.PairPrime(impl.GreatOf(n)); got != want {
			t.Errorf("PairPrime of %d = %v", n, got)
		}
	}
}

// TestPairPrimeOfCurves tells that P of each curve leaves 3, and R leaves 1.
func TestPairPrimeOfCurves(t *testing.T) {
	for i, p := range curvePrimes() {
		if got := impl.PairPrime(p); got != (i%2 == 0) || got != (leavesByFour(p) == 3) {
			t.Errorf("PairPrime(%x) = %v", p, got)
		}
	}
}

func TestPairPrimesThatAreRefused(t *testing.T) {
	seen := 0
	for _, p := range noPairPrimes() {
		if impl.PairPrime(p) {
			t.Errorf("PairPrime(%x) = true", p)
		}
		if impl.GreatOk(p) && leavesByFour(p) == 3 {
			seen++
		}
	}
	if seen < 30 {
		t.Errorf("only %d of them leave 3", seen)
	}
}

// TestPairGreaterOfEach tries all pairs of a small p, prime or not, and some that are none of it.
func TestPairGreaterOfEach(t *testing.T) {
	for p := range 14 {
		for a := range p + 3 {
			for b := range p + 3 {
				want := p > 1 && a < p && b < p && (2*b > p || b == 0 && 2*a > p)
				if got := impl.PairGreater(pairOfInts(a, b), impl.GreatOf(p)); got != want {
					t.Errorf("PairGreater of %d and %d by %d = %v", a, b, p, got)
				}
			}
		}
	}
}

func TestPairGreaterByBigs(t *testing.T) {
	d := dice{state: 808}
	for _, p := range pairPs() {
		list := somePairs(p, &d)
		for _, a := range someRests(p, &d) {
			list = append(list, impl.Pair{A: a}, impl.Pair{B: a}, impl.Pair{A: a, B: d.restBelow(p)}, impl.Pair{A: d.restBelow(p), B: a})
		}
		for _, x := range list {
			want := pairGreaterByBigs(x, p)
			if got := impl.PairGreater(x, p); got != want {
				t.Fatalf("PairGreater(%x, %x) = %v", x, p, got)
			}
			if want && impl.PairGreater(impl.NegPair(x, p), p) {
				t.Fatalf("both %x and what is against it by %x are greater", x, p)
			}
		}
	}
}

func TestPairGreaterWrittenOut(t *testing.T) {
	last, upper, lower := lessBy(full(160), 1), "\x80"+noughts(159), "\x7f"+full(159)
	for _, c := range []struct {
		a, b, p string
		want    bool
	}{
		{"", "", "\x07", false}, {"\x03", "", "\x07", false}, {"\x04", "", "\x07", true}, {"\x06", "", "\x07", true},
		{"", "\x03", "\x07", false}, {"", "\x04", "\x07", true}, {"\x06", "\x03", "\x07", false}, {"\x01", "\x04", "\x07", true}, {"\x06", "\x01", "\x07", false},
		{"\x04", "", "\x08", false}, {"", "\x04", "\x08", false}, {"\x07", "\x04", "\x08", false}, {"\x05", "", "\x08", true}, {"", "\x05", "\x08", true},
		{"\x01", "", "\x02", false}, {"", "\x01", "\x02", false}, {"\x01", "\x01", "\x02", false}, {"\x02", "", "\x03", true}, {"\x02", "\x01", "\x03", false}, {"\x01", "\x02", "\x03", true},
		{"", "", "", false}, {"", "", "\x01", false}, {"\x01", "\x01", "", false}, {"\x01", "\x01", "\x01", false}, {"", "\x05", "", false}, {"\x05", "", "", false},
		{"\x07", "\x04", "\x07", false}, {"\x07", "", "\x07", false}, {"", "\x07", "\x07", false}, {"\x04", "\x07", "\x07", false}, {"\xff", "\x06", "\x07", false}, {"\x06", "\xff", "\x07", false},
		{"\x00", "\x04", "\x07", false}, {"\x00\x01", "\x04", "\x07", false}, {"\x04", "\x00", "\x07", false}, {"\x04", "\x00\x04", "\x07", false}, {"\x04", "\x04", "\x00\x07", false}, {"\x04", "", "\x00\x07", false},
		{last, "", full(160), true}, {"", last, full(160), true}, {"", upper, full(160), true}, {upper, "", full(160), true}, {"", lower, full(160), false}, {lower, "", full(160), false}, {last, lower, full(160), false},
		{full(160), last, full(160), false}, {last, full(160), full(160), false}, {full(161), last, full(160), false}, {last, full(161), full(160), false}, {last, last, full(161), false}, {full(160), "", full(161), false},
	} {
		if got := impl.PairGreater(impl.Pair{A: c.a, B: c.b}, c.p); got != c.want {
			t.Errorf("PairGreater of %x and %x by %x = %v", c.a, c.b, c.p, got)
		}
	}
}

// TestRootsOfEachPair gathers the squares first, so that it hangs on no other way to look for roots.
func TestRootsOfEachPair(t *testing.T) {
	for _, p := range []int{3, 7, 11, 19, 23, 31, 43, 47, 59, 67} {
		root := map[[2]int][2]int{}
		for a := range p {
			for b := range p {
				if 2*b < p && (b > 0 || 2*a < p) {
					root[[2]int{(a*a + (p-b)*b) % p, 2 * a * b % p}] = [2]int{a, b}
				}
			}
		}
		if len(root) != (p*p+1)/2 {
			t.Fatalf("%d squares of pairs by %d", len(root), p)
		}
		great := impl.GreatOf(p)
		for i := range p * p {
			x := pairOfInts(i/p, i%p)
			want, square := root[[2]int{i / p, i % p}]
			if got := impl.PairSquare(x, great); got != square {
				t.Fatalf("PairSquare of %d and %d by %d = %v", i/p, i%p, p, got)
			}
			if got, ok := impl.PairRoot(x, great); ok != square || got != pairOfInts(want[0], want[1]) {
				t.Fatalf("PairRoot of %d and %d by %d = %x, %v, want %d, %v", i/p, i%p, p, got, ok, want, square)
			}
		}
	}
}

func TestPairRootsWrittenOut(t *testing.T) {
	for _, c := range []struct{ a, b, p, c, d int }{
		{0, 0, 3, 0, 0}, {1, 0, 3, 1, 0}, {2, 0, 3, 0, 1}, {0, 1, 3, 2, 1}, {0, 2, 3, 1, 1},
		{0, 0, 7, 0, 0}, {1, 0, 7, 1, 0}, {2, 0, 7, 3, 0}, {4, 0, 7, 2, 0}, {3, 0, 7, 0, 2}, {5, 0, 7, 0, 3}, {6, 0, 7, 0, 1},
		{0, 1, 7, 2, 2}, {0, 2, 7, 1, 1}, {0, 5, 7, 6, 1}, {2, 5, 7, 2, 3}, {2, 2, 7, 5, 3},
		{1706310, 0, 1706311, 0, 1}, {4, 0, 1706311, 2, 0}, {1706307, 0, 1706311, 0, 2}, {0, 2, 1706311, 1, 1}, {0, 1706309, 1706311, 1706310, 1}, {1706308, 4, 1706311, 1, 2}, {3, 4, 10647363907, 2, 1},
	} {
		x, p := pairOfInts(c.a, c.b), impl.GreatOf(c.p)
		if got, ok := impl.PairRoot(x, p); !ok || got != pairOfInts(c.c, c.d) || !impl.PairSquare(x, p) {
			t.Errorf("PairRoot of %d and %d by %d = %x, %v, want %d and %d", c.a, c.b, c.p, got, ok, c.c, c.d)
		}
	}
	for _, c := range []struct{ a, b, p int }{
		{1, 1, 3}, {1, 2, 3}, {2, 1, 3}, {2, 2, 3}, {1, 2, 7}, {2, 1, 7}, {3, 1, 7}, {1, 3, 7}, {6, 5, 7}, {1, 1, 11}, {1, 1, 19},
	} {
		checkNoPairRoot(t, pairOfInts(c.a, c.b), impl.GreatOf(c.p))
	}
}

func TestRootsOfPairs(t *testing.T) {
	d := dice{state: 818}
	for _, p := range primesThatLeave(3) {
		roots := 0
		for _, x := range somePairs(p, &d) {
			if checkPairRoot(t, x, p) {
				roots++
			}
			checkRootOfSquare(t, x, p)
			checkRootOfSquare(t, impl.Pair{A: x.B, B: x.A}, p)
		}
		if roots == 0 {
			t.Errorf("no pair by %x has a root", p)
		}
	}
}

// TestRootsByP draws many pairs by P of each curve, so that each half of the norm comes to be the square.
func TestRootsByP(t *testing.T) {
	d := dice{state: 880}
	for i, p := range curvePrimes() {
		if i%2 == 1 {
			continue
		}
		seen := map[bool]int{}
		for range 24 {
			x := impl.Pair{A: d.restBelow(p), B: d.restBelow(p)}
			seen[checkPairRoot(t, x, p)]++
			checkRootOfSquare(t, x, p)
		}
		if seen[true] < 4 || seen[false] < 4 {
			t.Errorf("by %x there are %d roots, and %d times none", p, seen[true], seen[false])
		}
	}
}

// TestRootsOfPairsWithoutB holds that a square of a rest has that root, and another rest one without A.
func TestRootsOfPairsWithoutB(t *testing.T) {
	d := dice{state: 888}
	for _, p := range primesThatLeave(3) {
		seen := map[int]bool{}
		for _, a := range someRests(p, &d) {
			for _, x := range []impl.Pair{{A: a}, {A: restOfBig(new(big.Int).Neg(bigOf(a)), p)}} {
				symbol := big.Jacobi(bigOf(x.A), bigOf(p))
				seen[symbol] = true
				var want impl.Pair
				if symbol < 0 {
					want.B = greatOfBig(lesserRoot(restOfBig(new(big.Int).Neg(bigOf(x.A)), p), p))
				} else {
					want.A = greatOfBig(lesserRoot(x.A, p))
				}
				if got, ok := impl.PairRoot(x, p); !ok || got != want || !impl.PairSquare(x, p) {
					t.Fatalf("PairRoot(%x, %x) = %x, %v, want %x", x, p, got, ok, want)
				}
				checkPairRoot(t, x, p)
			}
		}
		if len(seen) != 3 {
			t.Errorf("by %x, only %d kinds of rests were seen", p, len(seen))
		}
	}
}

// TestRootsOfPairsWithoutA holds that B or half of it, as it has a root or not, tells both parts.
func TestRootsOfPairsWithoutA(t *testing.T) {
	d := dice{state: 889}
	for _, p := range primesThatLeave(3) {
		for _, b := range someRests(p, &d) {
			x := impl.Pair{B: b}
			if !checkPairRoot(t, x, p) {
				t.Fatalf("%x has no root by %x", x, p)
			}
			root, _ := impl.PairRoot(x, p)
			if root.A != root.B && impl.NegRest(root.A, p) != root.B {
				t.Fatalf("PairRoot(%x, %x) = %x", x, p, root)
			}
			checkRootOfSquare(t, x, p)
		}
	}
}

// TestRootsOfBasePoints finds Y of the base points over pairs of each curve in X times X times X, and B2.
func TestRootsOfBasePoints(t *testing.T) {
	for _, c := range []struct {
		p, a, b, c, d string
		greater       bool
	}{
		{"1706311", "756415", "773280", "644753", "478480", false},
		{"10647363907", "5696584227", "8585445222", "1086762473", "7297982430", true},
		{
			primeOf32, "14922964998483646676629501313514766888265760859103602404415903627362542533130", "18998749271943822924477361489362255781501469145925655872932224557079413539979",
			"8495653923123431417604973247489272438418190587263600148770280649306958101930", "4082367875863433681332203403145435568316851327593401208105741076214120093531", false,
		},
		{
			primeOf48, "3341065098200961989598748404381324054605449840948293400785922068969583005812936621662354076014412578129291257715488", "2133050398774337206222816300118221327418763981033055222570091459262312519047975404484651902003138703421962555090222",
			"1985150602287291935568054521177171638300868978215655730859378665066344726373823718423869104263333984641494340347905", "927553665492332455747201965776037880757740193453592970025027978793976877002675564980949289727957565575433344219582", false,
		},
	} {
		p, x := greatOfFigures(c.p), impl.Pair{A: greatOfFigures(c.a), B: greatOfFigures(c.b)}
		y := impl.Pair{A: greatOfFigures(c.c), B: greatOfFigures(c.d)}
		if got := impl.PairGreater(y, p); got != c.greater {
			t.Errorf("PairGreater(%x, %x) = %v", y, p, got)
		}
		if c.greater {
			y = impl.NegPair(y, p)
		}
		if got, ok := impl.PairRoot(x, p); !ok || got != y || !impl.PairSquare(x, p) {
			t.Errorf("PairRoot(%x, %x) = %x, %v, want %x", x, p, got, ok, y)
		}
	}
}

// TestSquaresOfPairsAreMultiplied tells that of two pairs but 0 both or none is a square just when their product is one.
func TestSquaresOfPairsAreMultiplied(t *testing.T) {
	d := dice{state: 898}
	for _, p := range append(primesThatLeave(3)[:12], impl.GreatOf(9967)) {
		pairs := somePairs(p, &d)[1:]
		for _, x := range pairs {
			for _, y := range pairs {
				if x == (impl.Pair{}) || y == (impl.Pair{}) {
					continue
				}
				want := impl.PairSquare(x, p) == impl.PairSquare(y, p)
				if got := impl.PairSquare(impl.MulPair(x, y, p), p); got != want {
					t.Fatalf("PairSquare of the product of %x and %x by %x = %v", x, y, p, got)
				}
			}
		}
	}
}

func TestPairRootsByPThatIsRefused(t *testing.T) {
	for _, p := range noPairPrimes() {
		for _, x := range []impl.Pair{{}, one(), {B: "\x01"}, {A: "\x04"}, {A: "\x01", B: "\x01"}, {A: "\x03", B: "\x04"}, {B: "\x02"}, {A: p}, {B: p}, {A: p, B: p}, {A: "\x00"}, {B: "\x00"}, {A: p, B: "\x01"}} {
			checkNoPairRoot(t, x, p)
		}
		if impl.GreatOk(p) && p != "" {
			checkNoPairRoot(t, impl.Pair{A: lessBy(p, 1)}, p)
			checkNoPairRoot(t, impl.Pair{A: lessBy(p, 1), B: lessBy(p, 1)}, p)
		}
	}
}

func TestPairRootsThatAreRefused(t *testing.T) {
	for _, p := range append(primesThatLeave(3)[:16], impl.GreatOf(9967)) {
		for _, wrong := range append(wrongRests(p), "\x00", "\x00\x04", p+"\x00", "\x00"+p, full(len(p)+1)) {
			if impl.RestOk(wrong, p) {
				t.Fatalf("%x is a rest of %x", wrong, p)
			}
			for _, part := range []string{"", "\x01", lessBy(p, 1), wrong} {
				for _, x := range []impl.Pair{{A: wrong, B: part}, {A: part, B: wrong}} {
					checkNoPairRoot(t, x, p)
					if impl.PairGreater(x, p) {
						t.Errorf("PairGreater(%x, %x) = true", x, p)
					}
				}
			}
		}
	}
}

func TestPairGreaterByPThatIsRefused(t *testing.T) {
	for _, p := range append(wrongGreats(), "", "\x01", "\x00\x07", full(impl.MaxGreat+1)) {
		for _, x := range []impl.Pair{{}, one(), {B: "\x01"}, {A: "\x06"}, {B: "\x06"}, {A: "\x06", B: "\x06"}, {A: p}, {B: p}, {A: p, B: p}, {A: full(impl.MaxGreat)}, {B: full(impl.MaxGreat)}} {
			if impl.PairGreater(x, p) {
				t.Errorf("PairGreater(%x, %x) = true", x, p)
			}
		}
	}
}
