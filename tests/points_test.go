package tests

import (
	"math/big"
	"slices"
	"strings"
	"testing"

	"loop.example/g00970/impl"
)

var zeroPoint = impl.Point{Zero: true}

func pointOfFigures(x, y string) impl.Point {
	return impl.Point{X: greatOfFigures(x), Y: greatOfFigures(y)}
}

// negByBigs wants a point that is right.
func negByBigs(q impl.Point, p string) impl.Point {
	if q.Zero {
		return q
	}
	return impl.Point{X: q.X, Y: restOfBig(new(big.Int).Neg(bigOf(q.Y)), p)}
}

// addByBigs wants points that are right.
func addByBigs(a, b impl.Point, p string) impl.Point {
	switch {
	case a.Zero:
		return b
	case b.Zero:
		return a
	case b == negByBigs(a, p):
		return zeroPoint
	}
	x, y, m := bigOf(a.X), bigOf(a.Y), bigOf(p)
	over := new(big.Int).Sub(bigOf(b.Y), y)
	under := new(big.Int).Sub(bigOf(b.X), x)
	if a == b {
		over.Mul(x, x).Mul(over, big.NewInt(3))
		under.Add(y, y)
	}
	slope := over.Mul(over, new(big.Int).ModInverse(under.Mod(under, m), m))
	third := new(big.Int).Mul(slope, slope)
	third.Sub(third, x).Sub(third, bigOf(b.X))
	height := new(big.Int).Sub(x, third)
	height.Mul(height, slope).Sub(height, y)
	return impl.Point{X: restOfBig(third, p), Y: restOfBig(height, p)}
}

// standsByBigs tells of any rests whether they are a point of the curve.
func standsByBigs(q impl.Point, c listedCurve) bool {
	p := greatOfFigures(c.p)
	return restOfBig(new(big.Int).Mul(bigOf(q.Y), bigOf(q.Y)), p) == cubeByBigs(q.X, p, greatOfFigures(c.b))
}

// liftedByBigs is Zero when no point of the curve has this X, which must be right; else Y is the lesser one.
func liftedByBigs(x string, c listedCurve) impl.Point {
	p := greatOfFigures(c.p)
	y := lesserRoot(cubeByBigs(x, p, greatOfFigures(c.b)), p)
	if y == nil {
		return zeroPoint
	}
	return impl.Point{X: x, Y: greatOfBig(y)}
}

// withSameY are both other points with the Y of q, which must not be Zero: each X times one that, three times, is 1.
func withSameY(q impl.Point, p string) []impl.Point {
	third := new(big.Int).Div(bigOf(lessBy(p, 1)), big.NewInt(3))
	var list []impl.Point
	for n := int64(2); len(list) < 2; n++ {
		turn := new(big.Int).Exp(big.NewInt(n), third, bigOf(p))
		x := restOfBig(turn.Mul(turn, bigOf(q.X)), p)
		if x != q.X && (len(list) == 0 || list[0].X != x) {
			list = append(list, impl.Point{X: x, Y: q.Y})
		}
	}
	return list
}

func baseByList(c listedCurve) impl.Point { return pointOfFigures(c.x, c.y) }

// somePoints are Zero, some times the base point, others of any order, each one with the one against it.
func somePoints(c listedCurve, d *dice) []impl.Point {
	p := greatOfFigures(c.p)
	base := baseByList(c)
	list := []impl.Point{base}
	for range 3 {
		list = append(list, addByBigs(list[len(list)-1], base, p))
	}
	list = append(list, withSameY(base, p)...)
	for _, x := range []string{"", "\x02", "\x03", "\x04", "\x05", lessBy(p, 1), lessBy(p, 3), d.restBelow(p), d.restBelow(p), d.restBelow(p)} {
		if q := liftedByBigs(x, c); !q.Zero {
			list = append(list, q)
		}
	}
	for _, q := range list {
		list = append(list, negByBigs(q, p))
	}
	return append(list, zeroPoint)
}

// wrongPoints are none of the curve: Zero with something, X or Y that are no rests or have a byte 0 ahead, and what
// does not stand on it.
func wrongPoints(c listedCurve) []impl.Point {
	p := greatOfFigures(c.p)
	q := baseByList(c)
	list := []impl.Point{
		{}, {X: q.X}, {Y: q.Y}, {X: "\x01", Y: "\x01"}, {X: "\x02", Y: "\x02"}, {X: lessBy(p, 1), Y: lessBy(p, 1)},
		{Zero: true, X: q.X, Y: q.Y}, {Zero: true, X: q.X}, {Zero: true, Y: q.Y}, {Zero: true, X: "\x00"}, {Zero: true, Y: "\x00"}, {Zero: true, X: p, Y: p},
		{X: q.Y, Y: q.X}, {X: impl.AddGreat(q.X, "\x01"), Y: q.Y}, {X: q.X, Y: impl.AddGreat(q.Y, "\x01")},
		{X: lessBy(q.X, 1), Y: q.Y}, {X: q.X, Y: lessBy(q.Y, 1)}, {X: impl.NegRest(q.X, p), Y: q.Y},
		{X: impl.AddGreat(q.X, p), Y: q.Y}, {X: q.X, Y: impl.AddGreat(q.Y, p)}, {X: impl.AddGreat(q.X, p), Y: impl.AddGreat(q.Y, p)},
		{X: "\x00" + q.X, Y: q.Y}, {X: q.X, Y: "\x00" + q.Y}, {X: "\x00\x00" + q.X, Y: "\x00" + q.Y},
		{X: q.X + "\x00", Y: q.Y}, {X: q.X, Y: q.Y + "\x00"},
	}
	for _, s := range wrongRests(p) {
		list = append(list, impl.Point{X: s, Y: q.Y}, impl.Point{X: q.X, Y: s}, impl.Point{X: s, Y: s}, impl.Point{X: s}, impl.Point{Y: s})
	}
	if y := lesserRoot(greatOfFigures(c.b), p); y != nil {
		// A point with X 0 stands on the curve; P, and 0 with a byte, are the same as a rest, but no rests.
		list = append(list, impl.Point{X: p, Y: greatOfBig(y)}, impl.Point{X: "\x00", Y: greatOfBig(y)}, impl.Point{Zero: true, Y: greatOfBig(y)})
	}
	return list
}

func TestBaseOf(t *testing.T) {
	for i, c := range listedCurves() {
		want := baseByList(c)
		got := impl.BaseOf(i + 1)
		if got != want || !standsByBigs(got, c) || !impl.PointOk(i+1, got) {
			t.Errorf("BaseOf(%d) = %#v, want %#v", i+1, got, want)
		}
		if impl.GreatText(got.X) != c.x || impl.GreatText(got.Y) != c.y {
			t.Errorf("BaseOf(%d) has X %s and Y %s", i+1, impl.GreatText(got.X), impl.GreatText(got.Y))
		}
	}
}

func TestPointOk(t *testing.T) {
	d := dice{state: 1001}
	for i, c := range listedCurves() {
		for _, q := range somePoints(c, &d) {
			if !impl.PointOk(i+1, q) {
				t.Errorf("PointOk(%d, %#v) is false", i+1, q)
			}
		}
		for _, q := range wrongPoints(c) {
			if impl.PointOk(i+1, q) {
				t.Errorf("PointOk(%d, %#v) is true", i+1, q)
			}
		}
	}
}

// TestPointOkByBigs looks at rests that are mostly no points, and at those about a point.
func TestPointOkByBigs(t *testing.T) {
	d := dice{state: 1002}
	for i, c := range listedCurves() {
		p := greatOfFigures(c.p)
		list := someRests(p, &d)
		q := addByBigs(baseByList(c), baseByList(c), p)
		for n := int64(0); n < 3; n++ {
			list = append(list, impl.GreatOf(int(n)), lessBy(q.X, n-1), lessBy(q.Y, n-1), lessBy(negByBigs(q, p).Y, n-1))
		}
		for _, x := range list {
			for _, y := range list {
				q := impl.Point{X: x, Y: y}
				if got, want := impl.PointOk(i+1, q), standsByBigs(q, c); got != want {
					t.Errorf("PointOk(%d, %#v) = %v", i+1, q, got)
				}
			}
		}
	}
}

// TestPointsOfOtherCurves takes a point of one curve to the others.
func TestPointsOfOtherCurves(t *testing.T) {
	d := dice{state: 1003}
	list := listedCurves()
	for i, c := range list {
		for j, other := range list {
			p := greatOfFigures(other.p)
			for _, q := range somePoints(c, &d) {
				want := q.Zero || impl.RestOk(q.X, p) && impl.RestOk(q.Y, p) && standsByBigs(q, other)
				if got := impl.PointOk(j+1, q); got != want {
					t.Errorf("PointOk(%d, %#v) = %v, of curve %d", j+1, q, got, i+1)
				}
				if got := impl.AddPoint(j+1, q, zeroPoint); !want && got != (impl.Point{}) {
					t.Errorf("AddPoint(%d, %#v, Zero) = %#v, of curve %d", j+1, q, got, i+1)
				}
			}
		}
	}
}

func TestNegPoint(t *testing.T) {
	d := dice{state: 1004}
	for i, c := range listedCurves() {
		p := greatOfFigures(c.p)
		for _, q := range somePoints(c, &d) {
			got := impl.NegPoint(i+1, q)
			if got != negByBigs(q, p) || !impl.PointOk(i+1, got) || impl.NegPoint(i+1, got) != q {
				t.Errorf("NegPoint(%d, %#v) = %#v", i+1, q, got)
			}
			if !q.Zero && (got == q || got.X != q.X || impl.AddRest(got.Y, q.Y, p) != "") {
				t.Errorf("NegPoint(%d, %#v) = %#v is not against it", i+1, q, got)
			}
		}
		if got := impl.NegPoint(i+1, zeroPoint); got != zeroPoint {
			t.Errorf("NegPoint(%d, Zero) = %#v", i+1, got)
		}
		for _, q := range wrongPoints(c) {
			if got := impl.NegPoint(i+1, q); got != (impl.Point{}) {
				t.Errorf("NegPoint(%d, %#v) = %#v", i+1, q, got)
			}
		}
	}
}

// TestMultiplesWrittenOut adds the base point to itself, and again.
func TestMultiplesWrittenOut(t *testing.T) {
	for id, list := range map[int][]impl.Point{
		1: {
			pointOfFigures("106643", "773172"),
			pointOfFigures("69555", "1403701"),
			pointOfFigures("1222112", "1019844"),
			pointOfFigures("1689229", "1444885"),
		},
		2: {
			pointOfFigures("9511279608", "4010851624"),
			pointOfFigures("7622049100", "721708676"),
			pointOfFigures("3664140635", "3824486547"),
			pointOfFigures("5871395968", "8097849869"),
		},
		3: {
			pointOfFigures("1368015179489954701390400359078579693043519447331113978918064868415326638035", "9918110051302171585080402603319702774565515993150576347155970296011118125764"),
			pointOfFigures("3353031288059533942658390886683067124040920775575537747144343083137631628272", "19321533766552368860946552437480515441416830039777911637913418824951667761761"),
			pointOfFigures("3010198690406615200373504922352659861758983907867017329644089018310584441462", "4027184618003122424972590350825261965929648733675738730716654005365300998076"),
			pointOfFigures("10744596414106452074759370245733544594153395043370666422502510773307029471145", "848677436511517736191562425154572367705380862894644942948681172815252343932"),
		},
		4: {
			pointOfFigures("838589206289216005799424730305866328161735431124665289961769162861615689790485775997575391185127590486775437397838", "3450209970729243429733164009999191867485184320918914219895632678707687208996709678363578245114137957452475385814312"),
			pointOfFigures("1527649530533633684281386512094328299672026648504329745640827351945739272160755686119065091946435084697047221031460", "487897572011753812113448064805964756454529228648704488481988876974355015977479905373670519228592356747638779818193"),
			pointOfFigures("1940386630589042756063486004190165295069185078823041184114464346315715796897349637805088429212932248421554491972448", "3114296198575988357603748217414299058449850389627766458803888308926785677746356789015548793127623382888106859156543"),
			pointOfFigures("2601793266141653880357945339922727723793268013331457916525213050197274797722760296318099993752923714935161798464476", "3498096627312022583321348410616510759186251088555060790999813363211667535344132702692445545590448314959259020805858"),
		},
	} {
		base := impl.BaseOf(id)
		sum := base
		for i, want := range list {
			sum = impl.AddPoint(id, sum, base)
			if sum != want {
				t.Errorf("%d times the base point of curve %d is %s, %s", i+2, id, impl.GreatText(sum.X), impl.GreatText(sum.Y))
			}
		}
		if got := impl.AddPoint(id, list[0], list[0]); got != list[2] {
			t.Errorf("2 times 2 times the base point of curve %d is %#v", id, got)
		}
	}
}

// TestPointsWithX0 looks at points of which three are Zero: there the tangent is level.
func TestPointsWithX0(t *testing.T) {
	for _, id := range []int{2, 4} {
		curve, _ := impl.CurveOf(id)
		q := impl.Point{Y: "\x02"}
		neg := impl.Point{Y: lessBy(curve.P, 2)}
		if got := impl.AddPoint(id, q, q); got != neg || impl.NegPoint(id, q) != neg {
			t.Errorf("AddPoint(%d, %#v, itself) = %#v", id, q, got)
		}
		if got := impl.AddPoint(id, neg, neg); got != q {
			t.Errorf("AddPoint(%d, %#v, itself) = %#v", id, neg, got)
		}
		if got := impl.SumPoints(id, []impl.Point{q, q, q}); got != zeroPoint {
			t.Errorf("SumPoints(%d) of three of X 0 = %#v", id, got)
		}
	}
}

// TestAddPoint adds each two of some points, Zero, those against each other and those with one Y among them.
func TestAddPoint(t *testing.T) {
	d := dice{state: 1005}
	for i, c := range listedCurves() {
		p := greatOfFigures(c.p)
		list := somePoints(c, &d)
		for _, a := range list {
			for _, b := range list {
				got := impl.AddPoint(i+1, a, b)
				if want := addByBigs(a, b, p); got != want {
					t.Fatalf("AddPoint(%d, %#v, %#v) = %#v, want %#v", i+1, a, b, got, want)
				}
				if !impl.PointOk(i+1, got) {
					t.Fatalf("AddPoint(%d, %#v, %#v) = %#v is no point", i+1, a, b, got)
				}
				if got != impl.AddPoint(i+1, b, a) {
					t.Fatalf("AddPoint(%d, %#v, %#v) is not that of both the other way", i+1, a, b)
				}
			}
		}
	}
}

func TestThreePointsInAnyOrder(t *testing.T) {
	d := dice{state: 1006}
	for i, c := range listedCurves() {
		list := somePoints(c, &d)
		for range 250 {
			x, y, z := list[d.below(len(list))], list[d.below(len(list))], list[d.below(len(list))]
			left := impl.AddPoint(i+1, impl.AddPoint(i+1, x, y), z)
			right := impl.AddPoint(i+1, x, impl.AddPoint(i+1, y, z))
			middle := impl.AddPoint(i+1, impl.AddPoint(i+1, x, z), y)
			if left != right || left != middle || !impl.PointOk(i+1, left) {
				t.Fatalf("curve %d: %#v, %#v and %#v come to %#v, %#v and %#v", i+1, x, y, z, left, right, middle)
			}
		}
	}
}

func TestAddPointWithZeroAndAgainst(t *testing.T) {
	d := dice{state: 1007}
	for i, c := range listedCurves() {
		for _, q := range somePoints(c, &d) {
			if impl.AddPoint(i+1, q, zeroPoint) != q || impl.AddPoint(i+1, zeroPoint, q) != q {
				t.Errorf("curve %d: Zero does not leave %#v", i+1, q)
			}
			neg := impl.NegPoint(i+1, q)
			if impl.AddPoint(i+1, q, neg) != zeroPoint || impl.AddPoint(i+1, neg, q) != zeroPoint {
				t.Errorf("curve %d: %#v and the one against it are not Zero", i+1, q)
			}
			twice := impl.AddPoint(i+1, q, q)
			if impl.AddPoint(i+1, twice, neg) != q || impl.NegPoint(i+1, twice) != impl.AddPoint(i+1, neg, neg) {
				t.Errorf("curve %d: twice %#v less it is not it", i+1, q)
			}
		}
	}
}

// TestPointsWithSameY adds points that differ in X alone: the line through them is level, and all three are Zero.
func TestPointsWithSameY(t *testing.T) {
	d := dice{state: 1008}
	for i, c := range listedCurves() {
		p := greatOfFigures(c.p)
		for _, q := range somePoints(c, &d) {
			if q.Zero || q.X == "" {
				continue
			}
			others := withSameY(q, p)
			if got := impl.AddPoint(i+1, q, others[0]); got != impl.NegPoint(i+1, others[1]) {
				t.Errorf("AddPoint(%d, %#v, %#v) = %#v", i+1, q, others[0], got)
			}
			if got := impl.SumPoints(i+1, []impl.Point{others[1], q, others[0]}); got != zeroPoint {
				t.Errorf("SumPoints(%d) of three with one Y = %#v", i+1, got)
			}
			// With Y against each other, and another X, they are not against each other.
			neg := negByBigs(others[0], p)
			if got := impl.AddPoint(i+1, q, neg); got == zeroPoint || got != addByBigs(q, neg, p) {
				t.Errorf("AddPoint(%d, %#v, %#v) = %#v", i+1, q, neg, got)
			}
		}
	}
}

// TestAddPointManyTimes goes on for long enough on a small curve to come by lines of all kinds.
func TestAddPointManyTimes(t *testing.T) {
	for i, c := range listedCurves()[:2] {
		p := greatOfFigures(c.p)
		step := addByBigs(baseByList(c), baseByList(c), p)
		sum, want := impl.BaseOf(i+1), baseByList(c)
		for range 5000 {
			sum, want = impl.AddPoint(i+1, sum, step), addByBigs(want, step, p)
			if sum != want {
				t.Fatalf("curve %d: the sum is %#v, want %#v", i+1, sum, want)
			}
			sum, want = impl.AddPoint(i+1, sum, sum), addByBigs(want, want, p)
			if sum != want || !standsByBigs(sum, c) {
				t.Fatalf("curve %d: the sum is %#v, want %#v", i+1, sum, want)
			}
		}
	}
}

func TestAddPointOfWhatIsNotRight(t *testing.T) {
	for i, c := range listedCurves() {
		base := baseByList(c)
		for _, q := range wrongPoints(c) {
			for _, two := range [][2]impl.Point{{q, base}, {base, q}, {q, zeroPoint}, {zeroPoint, q}, {q, q}} {
				if got := impl.AddPoint(i+1, two[0], two[1]); got != (impl.Point{}) {
					t.Errorf("AddPoint(%d, %#v, %#v) = %#v", i+1, two[0], two[1], got)
				}
			}
		}
	}
}

// TestNoPointHasY0 tells why each X of a point has two Y: 0 less B would have to be a cube.
func TestNoPointHasY0(t *testing.T) {
	for i, c := range listedCurves() {
		p := greatOfFigures(c.p)
		third, over, _ := impl.DivGreat(lessBy(p, 1), "\x03")
		if over != "" || impl.PowRest(impl.NegRest(greatOfFigures(c.b), p), third, p) == "\x01" {
			t.Errorf("a point of curve %d may have Y 0", i+1)
		}
	}
}

func checkLift(t *testing.T, id int, x string, c listedCurve) {
	t.Helper()
	lesser := liftedByBigs(x, c)
	for _, greater := range []bool{false, true} {
		got, ok := impl.LiftPoint(id, x, greater)
		if lesser.Zero {
			if ok || got != (impl.Point{}) {
				t.Errorf("LiftPoint(%d, %x, %v) = %#v, %v, want none", id, x, greater, got, ok)
			}
			continue
		}
		want := lesser
		if greater {
			want = negByBigs(lesser, greatOfFigures(c.p))
		}
		if !ok || got != want || !impl.PointOk(id, got) || impl.Greater(got.Y, greatOfFigures(c.p)) != greater {
			t.Errorf("LiftPoint(%d, %x, %v) = %#v, %v, want %#v", id, x, greater, got, ok, want)
		}
	}
}

func TestLiftPoint(t *testing.T) {
	d := dice{state: 1009}
	for i, c := range listedCurves() {
		p := greatOfFigures(c.p)
		list := someRests(p, &d)
		for n := range 60 {
			list = append(list, impl.GreatOf(n), lessBy(p, int64(n)+1), d.restBelow(p))
		}
		for _, x := range list {
			checkLift(t, i+1, x, c)
		}
	}
}

func TestLiftPointOfEachSmallX(t *testing.T) {
	for i, c := range listedCurves()[:2] {
		for n := range 3000 {
			checkLift(t, i+1, impl.GreatOf(n), c)
		}
	}
}

// TestLiftPointWrittenOut looks at X of 0, of 1 and of P less 1, and at some others; without a Y there is no point.
func TestLiftPointWrittenOut(t *testing.T) {
	for _, c := range []struct {
		id   int
		x, y string
	}{
		{1, "0", ""},
		{1, "1", "2"},
		{1, "2", "689332"},
		{1, "5", "259732"},
		{1, "1706310", "820689"},
		{1, "1706308", "762075"},
		{1, "1706307", ""},
		{2, "0", "2"},
		{2, "1", ""},
		{2, "2", ""},
		{2, "5", ""},
		{2, "10647363906", ""},
		{2, "10647363904", "3747204545"},
		{2, "10647363903", ""},
		{3, "0", ""},
		{3, "1", "2"},
		{3, "2", "5828397666174056332650718113281868474949627685489967511130558035894985326388"},
		{3, "5", "9870097649933081941537107788301783179170505852269831988143455944895322661625"},
		{3, "21888242871839275222246405745257275088696311157297823662689037894645226208582", "3969792565221544645472939191694882283483352126195956956354061729942568608776"},
		{3, "21888242871839275222246405745257275088696311157297823662689037894645226208580", "3024298314766691669433153072291716178764425889478070494193068318166440743766"},
		{3, "21888242871839275222246405745257275088696311157297823662689037894645226208579", "3252779098810912318938127774100652527845532905918422314394422677448849035977"},
		{4, "0", "2"},
		{4, "1", ""},
		{4, "2", ""},
		{4, "5", "1965195344648084222953098214076480639287817490253833463802320901871717462331419217454708949425575672569162405041310"},
		{4, "4002409555221667393417789825735904156556882819939007885332058136124031650490837864442687629129015664037894272559786", ""},
		{4, "4002409555221667393417789825735904156556882819939007885332058136124031650490837864442687629129015664037894272559784", "1445238620174730376695666642057771941346970416888668529992287870312058246844524108040535379023323391097837396974497"},
		{4, "4002409555221667393417789825735904156556882819939007885332058136124031650490837864442687629129015664037894272559783", ""},
	} {
		curve, _ := impl.CurveOf(c.id)
		x := greatOfFigures(c.x)
		want, other := impl.Point{}, impl.Point{}
		if c.y != "" {
			want = impl.Point{X: x, Y: greatOfFigures(c.y)}
			other = negByBigs(want, curve.P)
		}
		if got, ok := impl.LiftPoint(c.id, x, false); got != want || ok != (c.y != "") {
			t.Errorf("LiftPoint(%d, %s, false) = %#v, %v", c.id, c.x, got, ok)
		}
		if got, ok := impl.LiftPoint(c.id, x, true); got != other || ok != (c.y != "") {
			t.Errorf("LiftPoint(%d, %s, true) = %#v, %v", c.id, c.x, got, ok)
		}
	}
}

// TestPointsComeBackFromX lifts each point from its X, by whether its Y is Greater.
func TestPointsComeBackFromX(t *testing.T) {
	d := dice{state: 1010}
	for i, c := range listedCurves() {
		p := greatOfFigures(c.p)
		for _, q := range somePoints(c, &d) {
			if q.Zero {
				continue
			}
			greater := impl.Greater(q.Y, p)
			if got, ok := impl.LiftPoint(i+1, q.X, greater); !ok || got != q {
				t.Errorf("LiftPoint(%d, %x, %v) = %#v, %v, want %#v", i+1, q.X, greater, got, ok, q)
			}
			if got, ok := impl.LiftPoint(i+1, q.X, !greater); !ok || got != impl.NegPoint(i+1, q) {
				t.Errorf("LiftPoint(%d, %x, %v) = %#v, %v", i+1, q.X, !greater, got, ok)
			}
		}
	}
}

func TestLiftPointOfWhatIsNoRest(t *testing.T) {
	for i, c := range listedCurves() {
		p := greatOfFigures(c.p)
		for _, x := range append(wrongRests(p), "\x00", "\x00\x01", "\x00"+greatOfFigures(c.x), impl.AddGreat(p, greatOfFigures(c.x))) {
			for _, greater := range []bool{false, true} {
				if got, ok := impl.LiftPoint(i+1, x, greater); ok || got != (impl.Point{}) {
					t.Errorf("LiftPoint(%d, %x, %v) = %#v, %v", i+1, x, greater, got, ok)
				}
			}
		}
	}
}

func TestSumPoints(t *testing.T) {
	d := dice{state: 1011}
	for i, c := range listedCurves() {
		some := somePoints(c, &d)
		for size := range 12 {
			var list []impl.Point
			want, sum := zeroPoint, zeroPoint
			for range size {
				q := some[d.below(len(some))]
				list = append(list, q)
				want, sum = addByBigs(want, q, greatOfFigures(c.p)), impl.AddPoint(i+1, sum, q)
			}
			kept := slices.Clone(list)
			if got := impl.SumPoints(i+1, list); got != want || got != sum {
				t.Errorf("SumPoints(%d, %#v) = %#v, want %#v", i+1, list, got, want)
			}
			if !slices.Equal(list, kept) {
				t.Errorf("SumPoints(%d) wrote into its list", i+1)
			}
			slices.Reverse(list)
			if got := impl.SumPoints(i+1, list); got != want {
				t.Errorf("SumPoints(%d) is %#v the other way, want %#v", i+1, got, want)
			}
		}
	}
}

func TestSumPointsWrittenOut(t *testing.T) {
	for i, c := range listedCurves() {
		base := baseByList(c)
		neg := impl.NegPoint(i+1, base)
		two := impl.AddPoint(i+1, base, base)
		for _, e := range []struct {
			list []impl.Point
			want impl.Point
		}{
			{nil, zeroPoint},
			{[]impl.Point{}, zeroPoint},
			{[]impl.Point{zeroPoint}, zeroPoint},
			{[]impl.Point{zeroPoint, zeroPoint}, zeroPoint},
			{[]impl.Point{base}, base},
			{[]impl.Point{base, base}, two},
			{[]impl.Point{base, neg}, zeroPoint},
			{[]impl.Point{base, neg, base}, base},
			{[]impl.Point{zeroPoint, base, zeroPoint, base, zeroPoint}, two},
			{[]impl.Point{two, neg, neg}, zeroPoint},
			{[]impl.Point{neg, two, neg, two}, two},
		} {
			if got := impl.SumPoints(i+1, e.list); got != e.want {
				t.Errorf("SumPoints(%d, %#v) = %#v, want %#v", i+1, e.list, got, e.want)
			}
		}
	}
}

// TestSumPointsOfWhatIsNotRight puts what is no point at the beginning, in the middle and at the end.
func TestSumPointsOfWhatIsNotRight(t *testing.T) {
	for i, c := range listedCurves() {
		base := baseByList(c)
		neg := impl.NegPoint(i+1, base)
		for _, q := range wrongPoints(c) {
			for _, list := range [][]impl.Point{
				{q}, {q, base}, {base, q}, {q, base, base}, {base, q, base}, {base, base, q},
				{q, zeroPoint}, {zeroPoint, q}, {base, neg, q}, {base, q, neg}, {q, base, neg}, {q, q}, {q, base, q, base, base},
			} {
				if got := impl.SumPoints(i+1, list); got != (impl.Point{}) {
					t.Errorf("SumPoints(%d, %#v) = %#v", i+1, list, got)
				}
			}
		}
	}
}

// TestSamePoint asks of points, and of what is none, part by part.
func TestSamePoint(t *testing.T) {
	long := strings.Repeat("\x01", 100000)
	list := []impl.Point{
		{}, zeroPoint, {X: "\x01", Y: "\x02"}, {X: "\x02", Y: "\x01"}, {Zero: true, X: "\x01", Y: "\x02"}, {X: "\x01"}, {Y: "\x02"}, {X: "\x01", Y: "\x03"}, {X: "\x03", Y: "\x02"},
		{X: "\x00\x01", Y: "\x02"}, {X: "\x01", Y: "\x00\x02"}, {X: "\x01\x02"}, {Y: "\x01\x02"}, {Zero: true, X: "\x01"}, {Zero: true, Y: "\x02"}, {X: long, Y: long}, {X: long, Y: long + "\x00"}, {X: long + "\x01", Y: long},
	}
	for i, a := range list {
		for j, b := range list {
			b.X, b.Y = strings.Clone(b.X), strings.Clone(b.Y)
			if got := impl.SamePoint(a, b); got != (i == j) {
				t.Errorf("SamePoint of %d and %d = %v", i, j, got)
			}
		}
	}
	for i := range listedCurves() {
		base := impl.BaseOf(i + 1)
		neg := impl.NegPoint(i+1, base)
		if !impl.SamePoint(base, impl.NegPoint(i+1, neg)) || impl.SamePoint(base, neg) || !impl.SamePoint(impl.AddPoint(i+1, base, neg), zeroPoint) {
			t.Errorf("curve %d: its base point is not the same as it", i+1)
		}
	}
}

func TestPointsWithoutCurve(t *testing.T) {
	d := dice{state: 1012}
	points := []impl.Point{zeroPoint, {}}
	for _, c := range listedCurves() {
		points = append(points, somePoints(c, &d)[:7]...)
	}
	for _, id := range noCurves() {
		if got := impl.BaseOf(id); got != (impl.Point{}) {
			t.Errorf("BaseOf(%d) = %#v", id, got)
		}
		for _, q := range points {
			if impl.PointOk(id, q) {
				t.Errorf("PointOk(%d, %#v) is true", id, q)
			}
			if got := impl.NegPoint(id, q); got != (impl.Point{}) {
				t.Errorf("NegPoint(%d, %#v) = %#v", id, q, got)
			}
			for _, other := range []impl.Point{q, zeroPoint} {
				if got := impl.AddPoint(id, q, other); got != (impl.Point{}) {
					t.Errorf("AddPoint(%d, %#v, %#v) = %#v", id, q, other, got)
				}
			}
			for _, list := range [][]impl.Point{{q}, {q, q}, {zeroPoint, q}, {q, zeroPoint}} {
				if got := impl.SumPoints(id, list); got != (impl.Point{}) {
					t.Errorf("SumPoints(%d, %#v) = %#v", id, list, got)
				}
			}
			for _, greater := range []bool{false, true} {
				if got, ok := impl.LiftPoint(id, q.X, greater); ok || got != (impl.Point{}) {
					t.Errorf("LiftPoint(%d, %x, %v) = %#v, %v", id, q.X, greater, got, ok)
				}
			}
		}
	}
}

// TestSumOfNoPointsWithoutCurve keeps to the words: from Zero on, and no point of the list is not right.
func TestSumOfNoPointsWithoutCurve(t *testing.T) {
	for _, id := range noCurves() {
		if got := impl.SumPoints(id, nil); got != zeroPoint {
			t.Errorf("SumPoints(%d, nil) = %#v", id, got)
		}
	}
}
