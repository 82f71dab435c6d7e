package tests

import (
	"math"
	"math/big"
	"strings"
	"testing"

	"loop.example/g00970/impl"
)

// listedCurve is what chapter 9 lists, with its base points; its numbers are told in figures.
type listedCurve struct {
	name                string
	broad               bool
	p, r, b, x, y       string
	b2, pairX, pairY    impl.Pair
	size, scalar, spare int
}

func pairOfFigures(a, b string) impl.Pair {
	return impl.Pair{A: greatOfFigures(a), B: greatOfFigures(b)}
}

// listedCurves are all curves, in order; the first one has the number 1.
func listedCurves() []listedCurve {
	return []listedCurve{
		{
			name: "narrow-small", broad: false,
			p:     "1706311",
			r:     "1704961",
			b:     "3",
			b2:    pairOfFigures("46117", "276699"),
			x:     "1",
			y:     "2",
			pairX: pairOfFigures("1065856", "131722"),
			pairY: pairOfFigures("644753", "478480"),
			size:  3, scalar: 3, spare: 3,
		},
		{
			name: "broad-small", broad: true,
			p:     "10647363907",
			r:     "9831361",
			b:     "4",
			b2:    pairOfFigures("4", "4"),
			x:     "1128182299",
			y:     "5053441866",
			pairX: pairOfFigures("6020256047", "6598444234"),
			pairY: pairOfFigures("1086762473", "7297982430"),
			size:  5, scalar: 3, spare: 6,
		},
		{
			name: "narrow", broad: false,
			p:     "21888242871839275222246405745257275088696311157297823662689037894645226208583",
			r:     "21888242871839275222246405745257275088548364400416034343698204186575808495617",
			b:     "3",
			b2:    pairOfFigures("19485874751759354771024239261021720505790618469301721065564631296452457478373", "266929791119991161246907387137283842545076965332900288569378510910307636690"),
			x:     "1",
			y:     "2",
			pairX: pairOfFigures("10857046999023057135944570762232829481370756359578518086990519993285655852781", "11559732032986387107991004021392285783925812861821192530917403151452391805634"),
			pairY: pairOfFigures("8495653923123431417604973247489272438418190587263600148770280649306958101930", "4082367875863433681332203403145435568316851327593401208105741076214120093531"),
			size:  32, scalar: 32, spare: 2,
		},
		{
			name: "broad", broad: true,
			p:     "4002409555221667393417789825735904156556882819939007885332058136124031650490837864442687629129015664037894272559787",
			r:     "52435875175126190479447740508185965837690552500527637822603658699938581184513",
			b:     "4",
			b2:    pairOfFigures("4", "4"),
			x:     "3685416753713387016781088315183077757961620795782546409894578378688607592378376318836054947676345821548104185464507",
			y:     "1339506544944476473020471379941921221584933875938349620426543736416511423956333506472724655353366534992391756441569",
			pairX: pairOfFigures("352701069587466618187139116011060144890029952792775240219908644239793785735715026873347600343865175952761926303160", "3059144344244213709971259814753781636986470325476647558659373206291635324768958432433509563104347017837885763365758"),
			pairY: pairOfFigures("1985150602287291935568054521177171638300868978215655730859378665066344726373823718423869104263333984641494340347905", "927553665492332455747201965776037880757740193453592970025027978793976877002675564980949289727957565575433344219582"),
			size:  48, scalar: 32, spare: 3,
		},
	}
}

// noCurves are numbers that no curve has, some of which would have one if fewer of their bits were looked at.
func noCurves() []int {
	return []int{0, 5, -1, 6, -2, -3, -4, -5, 8, 17, 1<<8 + 1, 1<<16 + 2, 1<<32 + 3, 1<<62 + 4, math.MaxInt, math.MaxInt - 1, math.MinInt, math.MinInt + 1, math.MinInt + 4}
}

func TestCurveLimit(t *testing.T) {
	if impl.Curves != 4 || len(listedCurves()) != impl.Curves {
		t.Errorf("Curves is %d, want 4", impl.Curves)
	}
}

func TestCurveOf(t *testing.T) {
	for i, c := range listedCurves() {
		want := impl.Curve{
			Name: c.name, P: greatOfFigures(c.p), R: greatOfFigures(c.r), B: greatOfFigures(c.b), B2: c.b2,
			Size: c.size, Scalar: c.scalar, Broad: c.broad,
		}
		if got, ok := impl.CurveOf(i + 1); !ok || got != want {
			t.Errorf("CurveOf(%d) = %+v, %v, want %+v", i+1, got, ok, want)
		}
	}
}

// TestNumbersOfCurves reads each number of a curve back by its figures.
func TestNumbersOfCurves(t *testing.T) {
	for i, c := range listedCurves() {
		curve, _ := impl.CurveOf(i + 1)
		for _, n := range [][2]string{
			{curve.P, c.p}, {curve.R, c.r}, {curve.B, c.b},
			{curve.B2.A, bigOf(c.b2.A).String()}, {curve.B2.B, bigOf(c.b2.B).String()},
		} {
			back, ok := impl.ReadGreat(n[1])
			if got := impl.GreatText(n[0]); got != n[1] || !ok || back != n[0] {
				t.Errorf("curve %d has %s, want %s", i+1, got, n[1])
			}
		}
	}
}

func TestPrimesOfCurves(t *testing.T) {
	for i, c := range listedCurves() {
		curve, _ := impl.CurveOf(i + 1)
		for _, p := range []string{curve.P, curve.R} {
			if !impl.PrimeOk(p) || !bigOf(p).ProbablyPrime(20) {
				t.Errorf("%s of curve %d is no prime", impl.GreatText(p), i+1)
			}
		}
		if len(curve.P) != curve.Size || curve.Size != c.size || len(curve.R) != curve.Scalar || curve.Scalar != c.scalar {
			t.Errorf("curve %d has Size %d and Scalar %d, for %d and %d bytes", i+1, curve.Size, curve.Scalar, len(curve.P), len(curve.R))
		}
		if !impl.RestOk(curve.B, curve.P) || !impl.PairOk(curve.B2, curve.P) || !impl.PairPrime(curve.P) {
			t.Errorf("B of curve %d is no rest of its P, or that P is not right for pairs", i+1)
		}
	}
}

func TestCurvesThatAreNone(t *testing.T) {
	for _, id := range noCurves() {
		if got, ok := impl.CurveOf(id); ok || got != (impl.Curve{}) {
			t.Errorf("CurveOf(%d) = %+v, %v", id, got, ok)
		}
	}
}

func TestCurveNamed(t *testing.T) {
	for i, c := range listedCurves() {
		id := impl.CurveNamed(c.name)
		if id != i+1 {
			t.Errorf("CurveNamed(%q) = %d, want %d", c.name, id, i+1)
		}
		if curve, ok := impl.CurveOf(id); !ok || curve.Name != c.name || impl.CurveNamed(curve.Name) != id {
			t.Errorf("curve %d is named %q, want %q", id, curve.Name, c.name)
		}
	}
}

func TestNamesOfNoCurve(t *testing.T) {
	long := strings.Repeat("narrow", 100000)
	for _, name := range []string{
		"", "small", "-small", "Narrow", "NARROW", "Broad", "BROAD", "Narrow-Small", "NARROW-SMALL", "BROAD-SMALL", "narrow-Small",
		"n", "narro", "narrow-", "narrow-smal", "b", "broa", "broad-", "broad-smal", "arrow", "road", "row-small",
		"narrow ", " narrow", "narrow-smalls", "broads", "broad-small ", "broad\x00", "\x00broad", "narrow\n", "narrow small", "narrow_small",
		"narrowbroad", "broad-narrow", "narrow-broad", "broad-broad", "small-narrow", "narrow-small-small", "1", "4", "\x01", "\x04", long,
	} {
		if got := impl.CurveNamed(name); got != 0 {
			t.Errorf("CurveNamed(%.40q) = %d", name, got)
		}
	}
}

// TestNamesByEachByte changes each byte of a Name, takes it away, cuts the Name there, and puts each byte at its end.
func TestNamesByEachByte(t *testing.T) {
	ids := map[string]int{}
	for i, c := range listedCurves() {
		ids[c.name] = i + 1
	}
	check := func(name string) {
		if got := impl.CurveNamed(name); got != ids[name] {
			t.Errorf("CurveNamed(%q) = %d, want %d", name, got, ids[name])
		}
	}
	for _, c := range listedCurves() {
		for at := range len(c.name) {
			check(c.name[:at])
			check(c.name[at+1:])
			check(c.name[:at] + c.name[at+1:])
			for b := range 256 {
				check(c.name[:at] + string([]byte{byte(b)}) + c.name[at+1:])
			}
		}
		for b := range 256 {
			check(c.name + string([]byte{byte(b)}))
			check(string([]byte{byte(b)}) + c.name)
		}
	}
}

func cubeByBigs(x, p, b string) string {
	cube := new(big.Int).Exp(bigOf(x), big.NewInt(3), nil)
	return restOfBig(cube.Add(cube, bigOf(b)), p)
}

func pairCubeByBigs(x impl.Pair, p string, b impl.Pair) impl.Pair {
	cube := productOfBigs(productOfBigs(x, x, p), x, p)
	return pairOfBigs(new(big.Int).Add(bigOf(cube.A), bigOf(b.A)), new(big.Int).Add(bigOf(cube.B), bigOf(b.B)), p)
}

func TestBasePointsStandOnTheirCurve(t *testing.T) {
	for i, c := range listedCurves() {
		p, x, y := greatOfFigures(c.p), greatOfFigures(c.x), greatOfFigures(c.y)
		want := restOfBig(new(big.Int).Mul(bigOf(y), bigOf(y)), p)
		if got := impl.CubeAnd(i+1, x); got != want || got == "" || got != impl.MulRest(y, y, p) {
			t.Errorf("CubeAnd(%d, %x) = %x, want %x", i+1, x, got, want)
		}
		pairWant := productOfBigs(c.pairY, c.pairY, p)
		if got := impl.CubeAndPair(i+1, c.pairX); got != pairWant || got == (impl.Pair{}) || got != impl.MulPair(c.pairY, c.pairY, p) {
			t.Errorf("CubeAndPair(%d, %x) = %x, want %x", i+1, c.pairX, got, pairWant)
		}
	}
}

// TestBasePointsStandOnNoOther tells that a base point does not stand on the other curves of which it is a rest.
func TestBasePointsStandOnNoOther(t *testing.T) {
	list := listedCurves()
	for i := range list {
		for j, c := range list {
			p := greatOfFigures(list[i].p)
			if i == j || !impl.PairOk(c.pairX, p) || !impl.PairOk(c.pairY, p) {
				continue
			}
			if got := impl.CubeAndPair(i+1, c.pairX); got == impl.MulPair(c.pairY, c.pairY, p) {
				t.Errorf("the base point over pairs of curve %d stands on curve %d", j+1, i+1)
			}
		}
	}
}

func TestCubesWrittenOut(t *testing.T) {
	for _, c := range []struct {
		id      int
		x, want string
	}{
		{1, "0", "3"}, {1, "1", "4"}, {1, "2", "11"}, {1, "10", "1003"}, {1, "119", "1685162"}, {1, "120", "21692"}, {1, "1706310", "2"}, {1, "1706309", "1706306"},
		{2, "0", "4"}, {2, "1", "5"}, {2, "2", "12"}, {2, "2200", "636097"}, {2, "10647363906", "3"}, {2, "10647363905", "10647363903"},
		{3, "0", "3"}, {3, "1", "4"}, {3, "2", "11"}, {3, "1000000", "1000000000000000003"},
		{4, "0", "4"}, {4, "1", "5"}, {4, "2", "12"}, {4, "1000000", "1000000000000000004"},
	} {
		if got := impl.GreatText(impl.CubeAnd(c.id, greatOfFigures(c.x))); got != c.want {
			t.Errorf("CubeAnd(%d, %s) = %s, want %s", c.id, c.x, got, c.want)
		}
	}
}

// TestCubesAtTheEnds looks at 0, at 1, and at P less 1, whose cube is 0 less 1.
func TestCubesAtTheEnds(t *testing.T) {
	for i, c := range listedCurves() {
		p, b := greatOfFigures(c.p), greatOfFigures(c.b)
		for _, e := range []struct{ x, want string }{{"", b}, {"\x01", impl.AddGreat(b, "\x01")}, {lessBy(p, 1), lessBy(b, 1)}} {
			if got := impl.CubeAnd(i+1, e.x); got != e.want {
				t.Errorf("CubeAnd(%d, %x) = %x, want %x", i+1, e.x, got, e.want)
			}
		}
	}
}

func TestCubesByBigs(t *testing.T) {
	d := dice{state: 909}
	for i, c := range listedCurves() {
		p, b := greatOfFigures(c.p), greatOfFigures(c.b)
		list := someRests(p, &d)
		for range 300 {
			list = append(list, d.restBelow(p))
		}
		for n := range 300 {
			list = append(list, impl.GreatOf(n), lessBy(p, int64(n)+1))
		}
		for _, x := range list {
			if got, want := impl.CubeAnd(i+1, x), cubeByBigs(x, p, b); got != want || !impl.RestOk(got, p) {
				t.Fatalf("CubeAnd(%d, %x) = %x, want %x", i+1, x, got, want)
			}
		}
	}
}

// TestPairCubesAtTheEnds looks at 0, at 1 and at P less 1, in A and in B; B times B times B is 0 less B.
func TestPairCubesAtTheEnds(t *testing.T) {
	for i, c := range listedCurves() {
		p := greatOfFigures(c.p)
		last := lessBy(p, 1)
		for _, e := range []struct{ x, cube impl.Pair }{
			{impl.Pair{}, impl.Pair{}},
			{impl.Pair{A: "\x01"}, impl.Pair{A: "\x01"}},
			{impl.Pair{A: last}, impl.Pair{A: last}},
			{impl.Pair{B: "\x01"}, impl.Pair{B: last}},
			{impl.Pair{B: last}, impl.Pair{B: "\x01"}},
			{impl.Pair{A: "\x01", B: "\x01"}, impl.Pair{A: lessBy(p, 2), B: "\x02"}},
			{impl.Pair{A: last, B: last}, impl.Pair{A: "\x02", B: lessBy(p, 2)}},
		} {
			if got, want := impl.CubeAndPair(i+1, e.x), impl.AddPair(e.cube, c.b2, p); got != want || got != pairCubeByBigs(e.x, p, c.b2) {
				t.Errorf("CubeAndPair(%d, %x) = %x, want %x", i+1, e.x, got, want)
			}
		}
	}
}

func TestPairCubesWrittenOut(t *testing.T) {
	for _, c := range []struct {
		id      int
		x, want impl.Pair
	}{
		{1, impl.Pair{}, pairOfInts(46117, 276699)},
		{1, pairOfInts(1, 0), pairOfInts(46118, 276699)},
		{1, pairOfInts(0, 1), pairOfInts(46117, 276698)},
		{1, pairOfInts(1, 2), pairOfInts(46106, 276697)},
		{2, impl.Pair{}, pairOfInts(4, 4)},
		{2, pairOfInts(2, 1), pairOfInts(6, 15)},
		{2, pairOfInts(1, 3), pairOfInts(10647363907-22, 10647363907-14)},
		{4, impl.Pair{}, pairOfInts(4, 4)},
		{4, pairOfInts(2, 1), pairOfInts(6, 15)},
	} {
		if got := impl.CubeAndPair(c.id, c.x); got != c.want {
			t.Errorf("CubeAndPair(%d, %x) = %x, want %x", c.id, c.x, got, c.want)
		}
	}
}

func TestPairCubesByBigs(t *testing.T) {
	d := dice{state: 910}
	for i, c := range listedCurves() {
		p := greatOfFigures(c.p)
		list := somePairs(p, &d)
		for range 200 {
			list = append(list, impl.Pair{A: d.restBelow(p), B: d.restBelow(p)}, impl.Pair{A: d.restBelow(p)}, impl.Pair{B: d.restBelow(p)})
		}
		for _, x := range list {
			if got, want := impl.CubeAndPair(i+1, x), pairCubeByBigs(x, p, c.b2); got != want || !impl.PairOk(got, p) {
				t.Fatalf("CubeAndPair(%d, %x) = %x, want %x", i+1, x, got, want)
			}
		}
	}
}

func TestCubesOfWhatIsNoRest(t *testing.T) {
	for i, c := range listedCurves() {
		p := greatOfFigures(c.p)
		for _, x := range wrongRests(p) {
			if got := impl.CubeAnd(i+1, x); got != "" {
				t.Errorf("CubeAnd(%d, %x) = %x", i+1, x, got)
			}
			for _, pair := range []impl.Pair{{A: x}, {B: x}, {A: x, B: x}, {A: x, B: "\x01"}, {A: "\x01", B: x}, {A: lessBy(p, 1), B: x}} {
				if got := impl.CubeAndPair(i+1, pair); got != (impl.Pair{}) {
					t.Errorf("CubeAndPair(%d, %x) = %x", i+1, pair, got)
				}
			}
		}
	}
}

func TestScalarOk(t *testing.T) {
	d := dice{state: 911}
	for i, c := range listedCurves() {
		r := greatOfFigures(c.r)
		for _, s := range append(someRests(r, &d), "\x05") {
			if !impl.ScalarOk(i+1, s) {
				t.Errorf("ScalarOk(%d, %x) is false", i+1, s)
			}
		}
		for _, s := range append(wrongRests(r), greatOfFigures(c.p), lessBy(greatOfFigures(c.p), 1), impl.MulGreat(r, "\x02")) {
			if impl.ScalarOk(i+1, s) {
				t.Errorf("ScalarOk(%d, %x) is true", i+1, s)
			}
		}
	}
}

func TestSpareBits(t *testing.T) {
	for i, c := range listedCurves() {
		got := impl.SpareBits(i + 1)
		if p := greatOfFigures(c.p); got != c.spare || got != 8*c.size-bigOf(p).BitLen() || got != 8*len(p)-impl.BitsOf(p) {
			t.Errorf("SpareBits(%d) = %d, want %d", i+1, got, c.spare)
		}
	}
}

func TestWithoutCurve(t *testing.T) {
	for _, id := range noCurves() {
		for _, s := range append(wrongGreats(), "", "\x01", "\x02", "\x05", greatOfFigures(primeOf32)) {
			if got := impl.CubeAnd(id, s); got != "" {
				t.Errorf("CubeAnd(%d, %x) = %x", id, s, got)
			}
			for _, x := range []impl.Pair{{A: s}, {B: s}, {A: s, B: s}} {
				if got := impl.CubeAndPair(id, x); got != (impl.Pair{}) {
					t.Errorf("CubeAndPair(%d, %x) = %x", id, x, got)
				}
			}
			if impl.ScalarOk(id, s) {
				t.Errorf("ScalarOk(%d, %x) is true", id, s)
			}
		}
		if got := impl.SpareBits(id); got != 0 {
			t.Errorf("SpareBits(%d) = %d", id, got)
		}
	}
}
