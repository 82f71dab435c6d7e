package tests

import (
	"math/big"
	"strings"
	"testing"

	"loop.example/g00970/impl"
)

var zeroPairPoint = impl.PairPoint{Zero: true}

func pairPointOfFigures(xa, xb, ya, yb string) impl.PairPoint {
	return impl.PairPoint{X: pairOfFigures(xa, xb), Y: pairOfFigures(ya, yb)}
}

func pairBaseByList(c listedCurve) impl.PairPoint { return impl.PairPoint{X: c.pairX, Y: c.pairY} }

func negPairPointByBigs(q impl.PairPoint, p string) impl.PairPoint {
	return impl.PairPoint{Zero: q.Zero, X: q.X, Y: negPairByBigs(q.Y, p)}
}

// pairLess is y less than x.
func pairLess(x, y impl.Pair, p string) impl.Pair {
	return pairOfBigs(new(big.Int).Sub(bigOf(x.A), bigOf(y.A)), new(big.Int).Sub(bigOf(x.B), bigOf(y.B)), p)
}

// pairOver wants a y that is not 0, and a prime that leaves 3 when it is divided by 4.
func pairOver(x, y impl.Pair, p string) impl.Pair {
	part := new(big.Int).ModInverse(normOfBigs(y, p), bigOf(p))
	over := productOfBigs(x, pairOfBigs(bigOf(y.A), new(big.Int).Neg(bigOf(y.B)), p), p)
	return pairOfBigs(new(big.Int).Mul(bigOf(over.A), part), new(big.Int).Mul(bigOf(over.B), part), p)
}

// addPairPointsByBigs wants points that are right.
func addPairPointsByBigs(a, b impl.PairPoint, p string) impl.PairPoint {
	switch {
	case a.Zero:
		return b
	case b.Zero:
		return a
	case b == negPairPointByBigs(a, p):
		return zeroPairPoint
	}
	over, under := pairLess(b.Y, a.Y, p), pairLess(b.X, a.X, p)
	if a == b {
		over = productOfBigs(productOfBigs(a.X, a.X, p), pairOfInts(3, 0), p)
		under = productOfBigs(a.Y, pairOfInts(2, 0), p)
	}
	slope := pairOver(over, under, p)
	x := pairLess(pairLess(productOfBigs(slope, slope, p), a.X, p), b.X, p)
	return impl.PairPoint{X: x, Y: pairLess(productOfBigs(slope, pairLess(a.X, x, p), p), a.Y, p)}
}

// pairStandsByBigs tells of any pairs whether they are a point of the curve.
func pairStandsByBigs(q impl.PairPoint, c listedCurve) bool {
	p := greatOfFigures(c.p)
	return productOfBigs(q.Y, q.Y, p) == pairCubeByBigs(q.X, p, c.b2)
}

// lesserPairRoot looks for a root by powers alone, other than the program; p leaves 3 when it is divided by 4.
func lesserPairRoot(x impl.Pair, p string) (impl.Pair, bool) {
	quarter := greatOfBig(new(big.Int).Rsh(bigOf(p), 2))
	part := powerOfBigs(x, quarter, p)
	root := productOfBigs(part, x, p)
	over := productOfBigs(part, root, p)
	factor := impl.Pair{B: "\x01"}
	if over != (impl.Pair{A: lessBy(p, 1)}) {
		half := greatOfBig(new(big.Int).Rsh(bigOf(p), 1))
		factor = powerOfBigs(pairLess(over, impl.Pair{A: lessBy(p, 1)}, p), half, p)
	}
	root = productOfBigs(factor, root, p)
	if pairGreaterByBigs(root, p) {
		root = negPairByBigs(root, p)
	}
	return root, productOfBigs(root, root, p) == x
}

// liftedPairByBigs is Zero when no point of the curve has this X, which must be right; else Y is not greater.
func liftedPairByBigs(x impl.Pair, c listedCurve) impl.PairPoint {
	p := greatOfFigures(c.p)
	y, found := lesserPairRoot(pairCubeByBigs(x, p, c.b2), p)
	if !found {
		return zeroPairPoint
	}
	return impl.PairPoint{X: x, Y: y}
}

// cubeRoots are all three, or none. It wants an x that is not 0, and P of a curve: P times P less 1 can be divided by
// 9, but not by 27.
func cubeRoots(x impl.Pair, p string) []impl.Pair {
	all := new(big.Int).Mul(bigOf(p), bigOf(p))
	all.Sub(all, big.NewInt(1))
	third, ninth := greatOfBig(new(big.Int).Div(all, big.NewInt(3))), new(big.Int).Div(all, big.NewInt(9))
	if powerOfBigs(x, third, p) != one() {
		return nil
	}
	turn := pairOfInts(1, 1)
	for n := 2; powerOfBigs(turn, third, p) == one(); n++ {
		turn = pairOfInts(n, 1)
	}
	// turn comes to 1 when it is taken 9 times, and not before.
	turn = powerOfBigs(turn, greatOfBig(ninth), p)
	root := powerOfBigs(x, greatOfBig(new(big.Int).ModInverse(big.NewInt(3), ninth)), p)
	var list []impl.Pair
	for range 9 {
		if productOfBigs(productOfBigs(root, root, p), root, p) == x {
			list = append(list, root)
		}
		root = productOfBigs(root, turn, p)
	}
	return list
}

// withPairY are the points with this Y: three that are Zero together, or none.
func withPairY(y impl.Pair, c listedCurve) []impl.PairPoint {
	p := greatOfFigures(c.p)
	var list []impl.PairPoint
	for _, x := range cubeRoots(pairLess(productOfBigs(y, y, p), c.b2, p), p) {
		list = append(list, impl.PairPoint{X: x, Y: y})
	}
	return list
}

// flatPairPoints are points whose Y is 0 in one part: three without B, then three without A.
func flatPairPoints(c listedCurve) []impl.PairPoint {
	var list []impl.PairPoint
	for n := 1; len(list) < 3; n++ {
		list = append(list, withPairY(pairOfInts(n, 0), c)...)
	}
	for n := 1; len(list) < 6; n++ {
		list = append(list, withPairY(pairOfInts(0, n), c)...)
	}
	return list
}

// alikePairPoints are points that have one part in common with a point of flatPairPoints, and are not the same in the
// other one: of Y, then of X.
func alikePairPoints(c listedCurve) []impl.PairPoint {
	flat := flatPairPoints(c)
	var list []impl.PairPoint
	for n := 1; len(list) < 3; n++ {
		list = append(list, withPairY(impl.Pair{A: flat[0].Y.A, B: impl.GreatOf(n)}, c)...)
	}
	for n := 1; len(list) < 6; n++ {
		list = append(list, withPairY(impl.Pair{A: impl.GreatOf(n), B: flat[3].Y.B}, c)...)
	}
	for n := 1; len(list) < 8; n++ {
		for _, x := range []impl.Pair{{A: flat[0].X.A, B: impl.GreatOf(n)}, {A: impl.GreatOf(n), B: flat[3].X.B}} {
			if q := liftedPairByBigs(x, c); !q.Zero {
				list = append(list, q)
			}
		}
	}
	return list
}

// flatXs are 0 in one part or in both, at the ends and about the middle in the other one.
func flatXs(p string, d *dice) []impl.Pair {
	var list []impl.Pair
	for _, x := range someRests(p, d) {
		list = append(list, impl.Pair{A: x}, impl.Pair{B: x})
	}
	return list
}

// somePairPoints are Zero, some times the base point, others of any order, those with a part 0 and those with a part
// in common, each one with the one against it.
func somePairPoints(c listedCurve, d *dice) []impl.PairPoint {
	p := greatOfFigures(c.p)
	base := pairBaseByList(c)
	list := []impl.PairPoint{base}
	for range 3 {
		list = append(list, addPairPointsByBigs(list[len(list)-1], base, p))
	}
	xs := append(flatXs(p, d)[:12], impl.Pair{A: "\x01", B: "\x01"}, impl.Pair{A: lessBy(p, 1), B: lessBy(p, 1)})
	for range 6 {
		xs = append(xs, impl.Pair{A: d.restBelow(p), B: d.restBelow(p)})
	}
	for _, x := range xs {
		if q := liftedPairByBigs(x, c); !q.Zero {
			list = append(list, q)
		}
	}
	list = append(list, withPairY(base.Y, c)...)
	list = append(list, flatPairPoints(c)...)
	list = append(list, alikePairPoints(c)...)
	for _, q := range list {
		list = append(list, negPairPointByBigs(q, p))
	}
	return append(list, zeroPairPoint)
}

// partOf and withPart number the parts: A and B of X are 0 and 1, those of Y are 2 and 3.
func partOf(q impl.PairPoint, i int) string {
	return [4]string{q.X.A, q.X.B, q.Y.A, q.Y.B}[i]
}

func withPart(q impl.PairPoint, i int, s string) impl.PairPoint {
	*[4]*string{&q.X.A, &q.X.B, &q.Y.A, &q.Y.B}[i] = s
	return q
}

// wrongForms are of a point that is right: what is the same as rests, but is none, or is Zero with it.
func wrongForms(q impl.PairPoint, p string) []impl.PairPoint {
	list := []impl.PairPoint{
		{X: q.X}, {Y: q.Y}, {Zero: true, X: q.X, Y: q.Y}, {Zero: true, X: q.X}, {Zero: true, Y: q.Y},
	}
	whole, ahead := q, q
	for i := range 4 {
		part := partOf(q, i)
		list = append(list, withPart(q, i, impl.AddGreat(part, p)), withPart(q, i, "\x00"+part), withPart(q, i, "\x00\x00"+part))
		whole, ahead = withPart(whole, i, impl.AddGreat(part, p)), withPart(ahead, i, "\x00"+part)
		if part != "" {
			list = append(list, withPart(zeroPairPoint, i, part))
		}
	}
	return append(list, whole, ahead)
}

// wrongPairPoints are none of the curve: Zero with something, parts that are no rests or have a byte 0 ahead, and what
// does not stand on it.
func wrongPairPoints(c listedCurve) []impl.PairPoint {
	p := greatOfFigures(c.p)
	q := pairBaseByList(c)
	list := []impl.PairPoint{
		{}, {X: one(), Y: one()}, {X: one()}, {Y: one()}, {X: c.b2, Y: c.b2}, {Y: c.b2}, {Zero: true, X: pairOfInts(0, 1)}, {Zero: true, Y: pairOfInts(0, 1)},
		{X: impl.Pair{A: p, B: p}, Y: impl.Pair{A: p, B: p}}, {Zero: true, X: impl.Pair{A: p, B: p}}, {Zero: true, Y: impl.Pair{A: p, B: p}},
		{X: q.Y, Y: q.X}, {X: impl.Pair{A: q.X.B, B: q.X.A}, Y: q.Y}, {X: q.X, Y: impl.Pair{A: q.Y.B, B: q.Y.A}},
		{X: impl.NegPair(q.X, p), Y: q.Y}, {X: impl.OtherPair(q.X, p), Y: q.Y}, {X: q.X, Y: impl.OtherPair(q.Y, p)}, {X: impl.OtherPair(q.X, p), Y: impl.OtherPair(q.Y, p)},
		{X: q.X, Y: impl.Pair{A: impl.NegRest(q.Y.A, p), B: q.Y.B}},
	}
	for i := range 4 {
		part := partOf(q, i)
		list = append(list, withPart(q, i, ""), withPart(q, i, lessBy(part, 1)), withPart(q, i, impl.AddGreat(part, "\x01")), withPart(q, i, part+"\x00"))
		list = append(list, withPart(zeroPairPoint, i, "\x00"), withPart(zeroPairPoint, i, "\x01"), withPart(zeroPairPoint, i, p))
		for _, s := range wrongRests(p) {
			// CubeAndPair is nothing of what is refused, and so is 0 times 0: an empty Y must not be taken with it.
			list = append(list, withPart(q, i, s), withPart(impl.PairPoint{}, i, s))
		}
	}
	list = append(list, wrongForms(q, p)...)
	flat := flatPairPoints(c)
	// An empty part is 0; P, and 0 with a byte, are the same as a rest, but no rests.
	for _, q := range []impl.PairPoint{flat[0], flat[3], liftedAlone(c)} {
		list = append(list, wrongForms(q, p)...)
	}
	return list
}

// liftedAlone is a point whose X has no B.
func liftedAlone(c listedCurve) impl.PairPoint {
	for n := 1; ; n++ {
		if q := liftedPairByBigs(pairOfInts(n, 0), c); !q.Zero {
			return q
		}
	}
}

func TestPairBase(t *testing.T) {
	for i, c := range listedCurves() {
		want := pairBaseByList(c)
		got := impl.PairBase(i + 1)
		if got != want || !pairStandsByBigs(got, c) || !impl.PairPointOk(i+1, got) {
			t.Errorf("PairBase(%d) = %#v, want %#v", i+1, got, want)
		}
	}
}

func TestPairPointOk(t *testing.T) {
	d := dice{state: 1101}
	for i, c := range listedCurves() {
		for _, q := range somePairPoints(c, &d) {
			if !impl.PairPointOk(i+1, q) {
				t.Errorf("PairPointOk(%d, %#v) is false", i+1, q)
			}
		}
		for _, q := range wrongPairPoints(c) {
			if impl.PairPointOk(i+1, q) {
				t.Errorf("PairPointOk(%d, %#v) is true", i+1, q)
			}
		}
	}
}

// TestPairPointOkByBigs looks at pairs that are mostly no points, and at those about a point.
func TestPairPointOkByBigs(t *testing.T) {
	d := dice{state: 1102}
	for i, c := range listedCurves() {
		p := greatOfFigures(c.p)
		list := somePairs(p, &d)
		for _, q := range []impl.PairPoint{addPairPointsByBigs(pairBaseByList(c), pairBaseByList(c), p), flatPairPoints(c)[0], flatPairPoints(c)[3]} {
			list = append(list, q.X, q.Y, impl.NegPair(q.X, p), impl.NegPair(q.Y, p), impl.OtherPair(q.X, p), impl.OtherPair(q.Y, p), impl.AddPair(q.X, one(), p), impl.AddPair(q.Y, one(), p))
		}
		for _, x := range list {
			for _, y := range list {
				q := impl.PairPoint{X: x, Y: y}
				if got, want := impl.PairPointOk(i+1, q), pairStandsByBigs(q, c); got != want {
					t.Errorf("PairPointOk(%d, %#v) = %v", i+1, q, got)
				}
			}
		}
	}
}

// TestPairPointsOfOtherCurves takes a point of one curve to the others.
func TestPairPointsOfOtherCurves(t *testing.T) {
	d := dice{state: 1103}
	list := listedCurves()
	for i, c := range list {
		for _, q := range somePairPoints(c, &d) {
			for j, other := range list {
				p := greatOfFigures(other.p)
				want := q.Zero || impl.PairOk(q.X, p) && impl.PairOk(q.Y, p) && pairStandsByBigs(q, other)
				if got := impl.PairPointOk(j+1, q); got != want {
					t.Errorf("PairPointOk(%d, %#v) = %v, of curve %d", j+1, q, got, i+1)
				}
				if got := impl.AddPairPoint(j+1, q, zeroPairPoint); !want && got != (impl.PairPoint{}) {
					t.Errorf("AddPairPoint(%d, %#v, Zero) = %#v, of curve %d", j+1, q, got, i+1)
				}
			}
		}
	}
}

// TestPointsAlone takes points of chapter 10, as pairs without B, to the curve over pairs: its B2 has another B.
func TestPointsAlone(t *testing.T) {
	d := dice{state: 1104}
	for i, c := range listedCurves() {
		for _, q := range somePoints(c, &d) {
			alone := impl.PairPoint{Zero: q.Zero, X: impl.Pair{A: q.X}, Y: impl.Pair{A: q.Y}}
			if got := impl.PairPointOk(i+1, alone); got != q.Zero {
				t.Errorf("PairPointOk(%d, %#v) = %v", i+1, alone, got)
			}
		}
	}
}

func TestNegPairPoint(t *testing.T) {
	d := dice{state: 1105}
	for i, c := range listedCurves() {
		p := greatOfFigures(c.p)
		for _, q := range somePairPoints(c, &d) {
			got := impl.NegPairPoint(i+1, q)
			if got != negPairPointByBigs(q, p) || !impl.PairPointOk(i+1, got) || impl.NegPairPoint(i+1, got) != q {
				t.Errorf("NegPairPoint(%d, %#v) = %#v", i+1, q, got)
			}
			if !q.Zero && (got == q || got.X != q.X || impl.AddPair(got.Y, q.Y, p) != (impl.Pair{})) {
				t.Errorf("NegPairPoint(%d, %#v) = %#v is not against it", i+1, q, got)
			}
		}
		if got := impl.NegPairPoint(i+1, zeroPairPoint); got != zeroPairPoint {
			t.Errorf("NegPairPoint(%d, Zero) = %#v", i+1, got)
		}
		for _, q := range wrongPairPoints(c) {
			if got := impl.NegPairPoint(i+1, q); got != (impl.PairPoint{}) {
				t.Errorf("NegPairPoint(%d, %#v) = %#v", i+1, q, got)
			}
		}
	}
}

// TestPairMultiplesWrittenOut adds the base point to itself, and again.
func TestPairMultiplesWrittenOut(t *testing.T) {
	for id, list := range map[int][]impl.PairPoint{
		1: {
			pairPointOfFigures("942387", "1294015", "369420", "1309186"),
			pairPointOfFigures("350232", "1646792", "530275", "1341092"),
			pairPointOfFigures("1397498", "559077", "967505", "1278808"),
			pairPointOfFigures("608548", "1646706", "828934", "1336070"),
		},
		2: {
			pairPointOfFigures("5521274795", "4868031612", "7636797506", "5645695249"),
			pairPointOfFigures("6556382395", "10251465413", "6555714994", "6073549669"),
			pairPointOfFigures("5680938128", "812286004", "172819600", "2422097458"),
			pairPointOfFigures("10456551240", "7048177359", "3587825135", "3448659815"),
		},
		3: {
			pairPointOfFigures("18029695676650738226693292988307914797657423701064905010927197838374790804409", "14583779054894525174450323658765874724019480979794335525732096752006891875705", "2140229616977736810657479771656733941598412651537078903776637920509952744750", "11474861747383700316476719153975578001603231366361248090558603872215261634898"),
			pairPointOfFigures("2725019753478801796453339367788033689375851816420509565303521482350756874229", "7273165102799931111715871471550377909735733521218303035754523677688038059653", "2512659008974376214222774206987427162027254181373325676825515531566330959255", "957874124722006818841961785324909313781880061366718538693995380805373202866"),
			pairPointOfFigures("18936818173480011669507163011118288089468827259971823710084038754632518263340", "18556147586753789634670778212244811446448229326945855846642767021074501673839", "18825831177813899069786213865729385895767511805925522466244528695074736584695", "13775476761357503446238925910346030822904460488609979964814810757616608848118"),
			pairPointOfFigures("20954117799226682825035885491234530437475518021362091509513177301640194298072", "4540444681147253467785307942530223364530218361853237193970751657229138047649", "21508930868448350162258892668132814424284302804699005394342512102884055673846", "11631839690097995216017572651900167465857396346217730511548857041925508482915"),
		},
		4: {
			pairPointOfFigures("3419974069068927546093595533691935972093267703063689549934039433172037728172434967174817854768758291501458544631891", "1586560233067062236092888871453626466803933380746149805590083683748120990227823365075019078675272292060187343402359", "678774053046495337979740195232911687527971909891867263302465188023833943429943242788645503130663197220262587963545", "2374407843478705782611042739236452317510200146460567463070514850492917978226342495167066333366894448569891658583283"),
			pairPointOfFigures("2795155019138475430256695697248607867022196082692926850257941893956680503583886174445899854256891620515274933186478", "1418901263980595683832511076652430035654903023556505873032297534993731256453342997202098832403658787934376638965468", "1713408536894110516522969272885192173669900392782465197506312048399987681703463801235485042423756235640603447122066", "1376945178829045108008380835987620979304438294788415956605678509674588356753313865659068546846109894276784773457993"),
			pairPointOfFigures("2228261016665467246533331009551956115370380172154746298363804663874927447724251086262215215805607611831416839456087", "1078694598252689404244396341813443419551535268687482491181036693120116966808940002268138449409757966646650205799154", "1078130147839725710638550237346893815189184147577339719832678031476197662920373232750257163212369151522627886861080", "1156012089965243131925155359058270233117178570263500297221609542882736610397356630132228324008545337607514631821497"),
			pairPointOfFigures("626266753989782654150694692036924390988881741494970156941802666795495657949695370746846269655547812403809070556808", "151216712330486580381289676720993530468452734725315418939914686037671894984472908062266534423934877412152819881174", "3957221353860521190838035852656308152792962079075169227140436352788803481025497873165648235984294733156170881957140", "1417335358548100222817200951198539764927940191545220572034594310270669391308385540419375417621016275437603665889670"),
		},
	} {
		base := impl.PairBase(id)
		sum := base
		for i, want := range list {
			sum = impl.AddPairPoint(id, sum, base)
			if sum != want {
				t.Errorf("%d times the base point over pairs of curve %d is %#v", i+2, id, sum)
			}
		}
		if got := impl.AddPairPoint(id, list[0], list[0]); got != list[2] {
			t.Errorf("2 times 2 times the base point over pairs of curve %d is %#v", id, got)
		}
	}
}

// TestFlatPairPointsWrittenOut looks at points whose Y is 0 in one part, which are not against themselves.
func TestFlatPairPointsWrittenOut(t *testing.T) {
	for _, c := range []struct {
		id       int
		q, twice impl.PairPoint
	}{
		{1, pairPointOfFigures("911707", "889214", "8", "0"), pairPointOfFigures("157918", "1398095", "1445699", "1142086")},
		{1, pairPointOfFigures("761085", "339319", "0", "2"), pairPointOfFigures("1529460", "1396765", "1090671", "568335")},
		{2, pairPointOfFigures("5680884141", "7418271214", "4", "0"), pairPointOfFigures("3062961508", "475435114", "7985522933", "8650983175")},
		{2, pairPointOfFigures("4129507839", "8467647921", "0", "4"), pairPointOfFigures("10570457559", "1217289165", "7320062690", "2661840975")},
		{3, pairPointOfFigures("11484340921176248798549759703090326547284628698354423805233237857371095940805", "1250485728281847095676810175780087431936811965466464934761964893487899647304", "4", "0"), pairPointOfFigures("13347912872446899000765849241822019860448157759507781400098610384368058438855", "6081990537377814576068241756018133332542708707408938754478044455331923048750", "14455407868880283538241915632467671992948926010202158500761149305970131662078", "4459718803876555832983951007000266821119332532033669393479332101848124297963")},
		{3, pairPointOfFigures("2347429907930942971111655353872146944288676477812883217018820075284184868097", "14411806371211556537412764382325190848789206122849649094465435622260654449378", "0", "2"), pairPointOfFigures("5472312290045167677861474753012833502432564262435407724449606296154701643105", "1202286376542714543251909785389250156604613393978320780191200603650874703028", "15072276105675872868196658923473955994928097777648312216418432572037245041989", "8771247831375807121704779934651357484606218086457314970124273142046633256845")},
		{4, pairPointOfFigures("1530290383759487343947281924221620151593773706770976671217442636519025643990490753390260735804812803309933249634354", "1872924000378186091694029926747521213329642746144152323382210591783220125662207141566618848562258720036243898920173", "3", "0"), pairPointOfFigures("2726410990169404280442463396449258177912753876035423762635157682455966717914758008745267111273156949572741097974301", "2068028559983957329054432912887619134105097758544668942910972089798598824876401220988134664184762736710251666875250", "3502108360818958969240566097518916136987272467446631899665550869108527694179483131387351675487888706033157488489817", "4002409555221667393417789825735904156556882819939007885332058136124031650490837864442687629129015664037894272559786")},
		{4, pairPointOfFigures("521634997748057358351845597427068178369188446499598168309907676036000245284055179265570957841080048415775807928582", "449629856072487112176833296967067731713710937950913478905179404233511483587942962734274183143461744690363913464667", "0", "1"), pairPointOfFigures("2779659802127980251871967016364723142770036098532565689386060433293414741831442675819407526303342577651598138437274", "3850779204375937771030081091619109927978418669618573337997005903328943867631421688128815278235471994080480630205674", "117", "2501505972013542120886118641084940097848051762461879928332536335077519781556773665276679768205634790023683920349858")},
	} {
		curve, _ := impl.CurveOf(c.id)
		neg := impl.PairPoint{X: c.q.X, Y: pairLess(impl.Pair{}, c.q.Y, curve.P)}
		if got := impl.AddPairPoint(c.id, c.q, c.q); got != c.twice || !impl.PairPointOk(c.id, c.q) {
			t.Errorf("AddPairPoint(%d, %#v, itself) = %#v", c.id, c.q, got)
		}
		if got := impl.NegPairPoint(c.id, c.q); got != neg || impl.AddPairPoint(c.id, c.twice, neg) != c.q {
			t.Errorf("NegPairPoint(%d, %#v) = %#v", c.id, c.q, got)
		}
		if got := impl.AddPairPoint(c.id, c.q, neg); got != zeroPairPoint {
			t.Errorf("AddPairPoint(%d, %#v, and the one against it) = %#v", c.id, c.q, got)
		}
		if got, ok := impl.LiftPairPoint(c.id, c.q.X, false); got != c.q || !ok {
			t.Errorf("LiftPairPoint(%d, %#v, false) = %#v, %v", c.id, c.q.X, got, ok)
		}
		if got, ok := impl.LiftPairPoint(c.id, c.q.X, true); got != neg || !ok {
			t.Errorf("LiftPairPoint(%d, %#v, true) = %#v, %v", c.id, c.q.X, got, ok)
		}
	}
}

// TestAddPairPoint adds each two of some points, Zero, those against each other and those alike in a part among them.
func TestAddPairPoint(t *testing.T) {
	d := dice{state: 1106}
	for i, c := range listedCurves() {
		p := greatOfFigures(c.p)
		list := somePairPoints(c, &d)
		for _, a := range list {
			for _, b := range list {
				got := impl.AddPairPoint(i+1, a, b)
				if want := addPairPointsByBigs(a, b, p); got != want {
					t.Fatalf("AddPairPoint(%d, %#v, %#v) = %#v, want %#v", i+1, a, b, got, want)
				}
				if !impl.PairPointOk(i+1, got) || !got.Zero && !pairStandsByBigs(got, c) {
					t.Fatalf("AddPairPoint(%d, %#v, %#v) = %#v is no point", i+1, a, b, got)
				}
				if got != impl.AddPairPoint(i+1, b, a) {
					t.Fatalf("AddPairPoint(%d, %#v, %#v) is not that of both the other way", i+1, a, b)
				}
			}
		}
	}
}

func TestThreePairPointsInAnyOrder(t *testing.T) {
	d := dice{state: 1107}
	for i, c := range listedCurves() {
		list := somePairPoints(c, &d)
		for range 250 {
			x, y, z := list[d.below(len(list))], list[d.below(len(list))], list[d.below(len(list))]
			left := impl.AddPairPoint(i+1, impl.AddPairPoint(i+1, x, y), z)
			right := impl.AddPairPoint(i+1, x, impl.AddPairPoint(i+1, y, z))
			middle := impl.AddPairPoint(i+1, impl.AddPairPoint(i+1, x, z), y)
			if left != right || left != middle || !impl.PairPointOk(i+1, left) {
				t.Fatalf("curve %d: %#v, %#v and %#v come to %#v, %#v and %#v", i+1, x, y, z, left, right, middle)
			}
		}
	}
}

func TestAddPairPointWithZeroAndAgainst(t *testing.T) {
	d := dice{state: 1108}
	for i, c := range listedCurves() {
		for _, q := range somePairPoints(c, &d) {
			if impl.AddPairPoint(i+1, q, zeroPairPoint) != q || impl.AddPairPoint(i+1, zeroPairPoint, q) != q {
				t.Errorf("curve %d: Zero does not leave %#v", i+1, q)
			}
			neg := impl.NegPairPoint(i+1, q)
			if impl.AddPairPoint(i+1, q, neg) != zeroPairPoint || impl.AddPairPoint(i+1, neg, q) != zeroPairPoint {
				t.Errorf("curve %d: %#v and the one against it are not Zero", i+1, q)
			}
			twice := impl.AddPairPoint(i+1, q, q)
			if impl.AddPairPoint(i+1, twice, neg) != q || impl.NegPairPoint(i+1, twice) != impl.AddPairPoint(i+1, neg, neg) {
				t.Errorf("curve %d: twice %#v less it is not it", i+1, q)
			}
		}
		if got := impl.AddPairPoint(i+1, zeroPairPoint, zeroPairPoint); got != zeroPairPoint {
			t.Errorf("AddPairPoint(%d, Zero, Zero) = %#v", i+1, got)
		}
	}
}

// TestPairPointsWithSameY adds points that differ in X alone: the line through them is level, and all three are Zero.
func TestPairPointsWithSameY(t *testing.T) {
	for i, c := range listedCurves() {
		p := greatOfFigures(c.p)
		flat := flatPairPoints(c)
		for _, three := range [][]impl.PairPoint{withPairY(c.pairY, c), flat[:3], flat[3:6]} {
			if got := impl.AddPairPoint(i+1, three[0], three[1]); len(three) != 3 || got != impl.NegPairPoint(i+1, three[2]) {
				t.Errorf("AddPairPoint(%d, %#v, %#v) = %#v", i+1, three[0], three[1], got)
			}
			// With Y against each other, and another X, they are not against each other.
			neg := negPairPointByBigs(three[1], p)
			if got := impl.AddPairPoint(i+1, three[0], neg); got == zeroPairPoint || got != addPairPointsByBigs(three[0], neg, p) {
				t.Errorf("AddPairPoint(%d, %#v, %#v) = %#v", i+1, three[0], neg, got)
			}
		}
	}
}

// TestAddPairPointManyTimes goes on for long enough on a small curve to come by lines of all kinds.
func TestAddPairPointManyTimes(t *testing.T) {
	for i, c := range listedCurves()[:2] {
		p := greatOfFigures(c.p)
		step := addPairPointsByBigs(pairBaseByList(c), pairBaseByList(c), p)
		sum, want := impl.PairBase(i+1), pairBaseByList(c)
		for range 2000 {
			sum, want = impl.AddPairPoint(i+1, sum, step), addPairPointsByBigs(want, step, p)
			if sum != want {
				t.Fatalf("curve %d: the sum is %#v, want %#v", i+1, sum, want)
			}
			sum, want = impl.AddPairPoint(i+1, sum, sum), addPairPointsByBigs(want, want, p)
			if sum != want || !pairStandsByBigs(sum, c) {
				t.Fatalf("curve %d: the sum is %#v, want %#v", i+1, sum, want)
			}
		}
	}
}

func TestAddPairPointOfWhatIsNotRight(t *testing.T) {
	for i, c := range listedCurves() {
		base := pairBaseByList(c)
		for _, q := range wrongPairPoints(c) {
			for _, two := range [][2]impl.PairPoint{{q, base}, {base, q}, {q, zeroPairPoint}, {zeroPairPoint, q}, {q, q}} {
				if got := impl.AddPairPoint(i+1, two[0], two[1]); got != (impl.PairPoint{}) {
					t.Errorf("AddPairPoint(%d, %#v, %#v) = %#v", i+1, two[0], two[1], got)
				}
			}
		}
	}
}

// TestNoPairPointHasY0 tells why each X of a point has two Y: 0 less B2 would have to be a cube. With X 0, B2 would
// have to be a square.
func TestNoPairPointHasY0(t *testing.T) {
	for i, c := range listedCurves() {
		p := greatOfFigures(c.p)
		if list := withPairY(impl.Pair{}, c); list != nil {
			t.Errorf("points over pairs of curve %d have Y 0: %#v", i+1, list)
		}
		if _, found := lesserPairRoot(c.b2, p); found || squareByBigs(c.b2, p) {
			t.Errorf("a point over pairs of curve %d may have X 0", i+1)
		}
		checkPairLift(t, i+1, impl.Pair{}, c)
	}
}

func checkPairLift(t *testing.T, id int, x impl.Pair, c listedCurve) bool {
	t.Helper()
	lesser := liftedPairByBigs(x, c)
	for _, greater := range []bool{false, true} {
		got, ok := impl.LiftPairPoint(id, x, greater)
		if lesser.Zero {
			if ok || got != (impl.PairPoint{}) {
				t.Errorf("LiftPairPoint(%d, %x, %v) = %#v, %v, want none", id, x, greater, got, ok)
			}
			continue
		}
		want := lesser
		if greater {
			want = negPairPointByBigs(lesser, greatOfFigures(c.p))
		}
		if !ok || got != want || !impl.PairPointOk(id, got) || impl.PairGreater(got.Y, greatOfFigures(c.p)) != greater {
			t.Errorf("LiftPairPoint(%d, %x, %v) = %#v, %v, want %#v", id, x, greater, got, ok, want)
		}
	}
	return !lesser.Zero
}

func TestLiftPairPoint(t *testing.T) {
	d := dice{state: 1109}
	for i, c := range listedCurves() {
		p := greatOfFigures(c.p)
		list := append(flatXs(p, &d), somePairs(p, &d)...)
		for n := range 30 {
			list = append(list, pairOfInts(n, 0), pairOfInts(0, n), impl.Pair{A: lessBy(p, int64(n)+1)}, impl.Pair{A: d.restBelow(p), B: d.restBelow(p)})
		}
		for _, y := range []impl.Pair{flatPairPoints(c)[0].Y, flatPairPoints(c)[3].Y, c.pairY} {
			for _, q := range withPairY(y, c) {
				list = append(list, q.X)
			}
		}
		seen := map[bool]int{}
		for _, x := range list {
			seen[checkPairLift(t, i+1, x, c)]++
		}
		if seen[true] < 40 || seen[false] < 40 {
			t.Errorf("curve %d: %d are lifted, %d are not", i+1, seen[true], seen[false])
		}
	}
}

func TestLiftPairPointOfEachSmallX(t *testing.T) {
	for i, c := range listedCurves()[:2] {
		for n := range 2500 {
			checkPairLift(t, i+1, pairOfInts(n/50, n%50), c)
		}
	}
}

// TestLiftPairPointWrittenOut looks at X of 0, of 1 and of P less 1 in one part, and at some others; without a Y there
// is no point.
func TestLiftPairPointWrittenOut(t *testing.T) {
	for _, c := range []struct {
		id   int
		x, y impl.Pair
	}{
		{1, pairOfFigures("0", "0"), impl.Pair{}},
		{1, pairOfFigures("1", "0"), pairOfFigures("1202732", "698483")},
		{1, pairOfFigures("2", "0"), pairOfFigures("278509", "238377")},
		{1, pairOfFigures("0", "1"), impl.Pair{}},
		{1, pairOfFigures("0", "2"), impl.Pair{}},
		{1, pairOfFigures("3", "0"), impl.Pair{}},
		{1, pairOfFigures("0", "3"), impl.Pair{}},
		{1, pairOfFigures("1706309", "0"), pairOfFigures("443630", "439763")},
		{1, pairOfFigures("0", "1706309"), pairOfFigures("689064", "391166")},
		{1, pairOfFigures("4", "0"), pairOfFigures("355362", "527340")},
		{2, pairOfFigures("0", "0"), impl.Pair{}},
		{2, pairOfFigures("1", "0"), pairOfFigures("5588674569", "1527227914")},
		{2, pairOfFigures("2", "0"), pairOfFigures("4843431733", "4852947540")},
		{2, pairOfFigures("0", "1"), pairOfFigures("10040333405", "1821091506")},
		{2, pairOfFigures("0", "2"), impl.Pair{}},
		{2, pairOfFigures("3", "0"), impl.Pair{}},
		{2, pairOfFigures("0", "3"), impl.Pair{}},
		{2, pairOfFigures("1", "1"), pairOfFigures("10171871590", "5318924050")},
		{2, pairOfFigures("10647363906", "0"), pairOfFigures("2", "1")},
		{2, pairOfFigures("10647363905", "0"), impl.Pair{}},
		{3, pairOfFigures("0", "0"), impl.Pair{}},
		{3, pairOfFigures("1", "0"), pairOfFigures("18278151005453108793778860132295291098363647455926340152056652516292830556603", "5912654199736721486680175016176231956195085055698687135131307249486702594212")},
		{3, pairOfFigures("2", "0"), pairOfFigures("10894412225134874879786325788974416805327887441035008073952212076423500941133", "2237046587054574173616397632856518880513033439888792180868262182050662989363")},
		{3, pairOfFigures("0", "1"), pairOfFigures("5857410223677516958241855868975604786906559121396168184066542210254491971240", "3499505209057624827709920819629410982529044040404494099368353913743455207650")},
		{3, pairOfFigures("0", "2"), impl.Pair{}},
		{3, pairOfFigures("3", "0"), impl.Pair{}},
		{3, pairOfFigures("0", "3"), pairOfFigures("1776435168453236407065565440879502240322714744253994742773125453362629477378", "2223621149870973822193516379316559409769408146695144087200533202702418069274")},
		{3, pairOfFigures("1", "1"), impl.Pair{}},
		{3, pairOfFigures("21888242871839275222246405745257275088696311157297823662689037894645226208582", "0"), impl.Pair{}},
		{3, pairOfFigures("0", "21888242871839275222246405745257275088696311157297823662689037894645226208582"), pairOfFigures("19930336399130775751973082290986487585831506091645893657223398238104223264662", "4472664405503270605259040655774228379317615504154125186581023643881586900098")},
		{4, pairOfFigures("0", "0"), impl.Pair{}},
		{4, pairOfFigures("1", "0"), impl.Pair{}},
		{4, pairOfFigures("2", "0"), pairOfFigures("188995492400578496451910581292546059920654572609832469388872107051048741028892423057992033888655218419282460458611", "434381874456081807472298918693162486998243066160460423017297172308631992219110538691921044767658182807847155297615")},
		{4, pairOfFigures("0", "1"), pairOfFigures("1028732146235106349975324479215795277384839936929757896155643118032610843298655225875571310552543014690878354869257", "916213116516348343491816388088518324402363009149734196865128782026199120594872186815973697471386619965259207952016")},
		{4, pairOfFigures("0", "2"), impl.Pair{}},
		{4, pairOfFigures("3", "0"), impl.Pair{}},
		{4, pairOfFigures("0", "3"), pairOfFigures("1261972301436385148308924544468287937662964908644974509755537707282214781895294179779343028422353948775697379817833", "1993519830935566064729118854407246047920465500115695881472958175509344401827020882238415732766442366980004318799257")},
		{4, pairOfFigures("1", "1"), pairOfFigures("3690720871793337241455685075743049883097434000553861439128973496444191283866836383567731089800858963424329464681674", "122693191027751655510194168700308213538794246775313976814212532628791625595109057816964505439501482194282347419502")},
		{4, pairOfFigures("4002409555221667393417789825735904156556882819939007885332058136124031650490837864442687629129015664037894272559786", "0"), pairOfFigures("2", "1")},
		{4, pairOfFigures("0", "4002409555221667393417789825735904156556882819939007885332058136124031650490837864442687629129015664037894272559786"), impl.Pair{}},
	} {
		curve, _ := impl.CurveOf(c.id)
		want, other := impl.PairPoint{}, impl.PairPoint{}
		found := c.y != impl.Pair{}
		if found {
			want = impl.PairPoint{X: c.x, Y: c.y}
			other = negPairPointByBigs(want, curve.P)
		}
		if got, ok := impl.LiftPairPoint(c.id, c.x, false); got != want || ok != found {
			t.Errorf("LiftPairPoint(%d, %x, false) = %#v, %v", c.id, c.x, got, ok)
		}
		if got, ok := impl.LiftPairPoint(c.id, c.x, true); got != other || ok != found {
			t.Errorf("LiftPairPoint(%d, %x, true) = %#v, %v", c.id, c.x, got, ok)
		}
	}
}

// TestPairPointsComeBackFromX lifts each point from its X, by whether its Y is PairGreater.
func TestPairPointsComeBackFromX(t *testing.T) {
	d := dice{state: 1110}
	for i, c := range listedCurves() {
		p := greatOfFigures(c.p)
		for _, q := range somePairPoints(c, &d) {
			if q.Zero {
				continue
			}
			greater := impl.PairGreater(q.Y, p)
			if got, ok := impl.LiftPairPoint(i+1, q.X, greater); !ok || got != q {
				t.Errorf("LiftPairPoint(%d, %x, %v) = %#v, %v, want %#v", i+1, q.X, greater, got, ok, q)
			}
			if got, ok := impl.LiftPairPoint(i+1, q.X, !greater); !ok || got != impl.NegPairPoint(i+1, q) {
				t.Errorf("LiftPairPoint(%d, %x, %v) = %#v, %v", i+1, q.X, !greater, got, ok)
			}
		}
	}
}

func TestLiftPairPointOfWhatIsNoPair(t *testing.T) {
	for i, c := range listedCurves() {
		p := greatOfFigures(c.p)
		q := pairBaseByList(c)
		list := []impl.PairPoint{{X: impl.Pair{A: p, B: p}}}
		for _, s := range append(wrongRests(p), "\x00", "\x00\x01") {
			list = append(list, withPart(q, 0, s), withPart(q, 1, s), impl.PairPoint{X: impl.Pair{A: s, B: s}}, impl.PairPoint{X: impl.Pair{A: s}}, impl.PairPoint{X: impl.Pair{B: s}})
		}
		for _, q := range []impl.PairPoint{q, liftedAlone(c)} {
			for part := range 2 {
				s := partOf(q, part)
				list = append(list, withPart(q, part, "\x00"+s), withPart(q, part, impl.AddGreat(s, p)))
			}
		}
		for _, q := range list {
			for _, greater := range []bool{false, true} {
				if got, ok := impl.LiftPairPoint(i+1, q.X, greater); ok || got != (impl.PairPoint{}) {
					t.Errorf("LiftPairPoint(%d, %x, %v) = %#v, %v", i+1, q.X, greater, got, ok)
				}
			}
		}
	}
}

// TestSamePairPoint asks of points, and of what is none, part by part.
func TestSamePairPoint(t *testing.T) {
	long := strings.Repeat("\x01", 100000)
	list := []impl.PairPoint{{}, zeroPairPoint}
	for _, q := range []impl.PairPoint{
		pairPointOfFigures("1", "2", "3", "4"), pairPointOfFigures("2", "1", "4", "3"), pairPointOfFigures("3", "4", "1", "2"),
		{X: impl.Pair{A: long, B: long}, Y: impl.Pair{A: long, B: long}},
	} {
		zero := q
		zero.Zero = true
		list = append(list, q, zero)
		for i := range 4 {
			part := partOf(q, i)
			list = append(list, withPart(q, i, ""), withPart(q, i, "\x09"), withPart(q, i, "\x00"+part), withPart(q, i, part+"\x00"))
			list = append(list, withPart(impl.PairPoint{}, i, part), withPart(zeroPairPoint, i, part))
		}
	}
	seen := map[impl.PairPoint]int{}
	for i, a := range list {
		if other, found := seen[a]; found {
			t.Fatalf("%d and %d are the same", i, other)
		}
		seen[a] = i
		for j, b := range list {
			for part := range 4 {
				b = withPart(b, part, strings.Clone(partOf(b, part)))
			}
			if got := impl.SamePairPoint(a, b); got != (i == j) {
				t.Errorf("SamePairPoint of %d and %d = %v", i, j, got)
			}
		}
	}
	for i := range listedCurves() {
		base := impl.PairBase(i + 1)
		neg := impl.NegPairPoint(i+1, base)
		if !impl.SamePairPoint(base, impl.NegPairPoint(i+1, neg)) || impl.SamePairPoint(base, neg) || !impl.SamePairPoint(impl.AddPairPoint(i+1, base, neg), zeroPairPoint) {
			t.Errorf("curve %d: its base point over pairs is not the same as it", i+1)
		}
	}
}

func TestPairPointsWithoutCurve(t *testing.T) {
	d := dice{state: 1111}
	points := []impl.PairPoint{zeroPairPoint, {}}
	for _, c := range listedCurves() {
		points = append(points, somePairPoints(c, &d)[:7]...)
	}
	for _, id := range noCurves() {
		if got := impl.PairBase(id); got != (impl.PairPoint{}) {
			t.Errorf("PairBase(%d) = %#v", id, got)
		}
		for _, q := range points {
			if impl.PairPointOk(id, q) {
				t.Errorf("PairPointOk(%d, %#v) is true", id, q)
			}
			if got := impl.NegPairPoint(id, q); got != (impl.PairPoint{}) {
				t.Errorf("NegPairPoint(%d, %#v) = %#v", id, q, got)
			}
			for _, other := range []impl.PairPoint{q, zeroPairPoint} {
				if got := impl.AddPairPoint(id, q, other); got != (impl.PairPoint{}) {
					t.Errorf("AddPairPoint(%d, %#v, %#v) = %#v", id, q, other, got)
				}
			}
			for _, greater := range []bool{false, true} {
				if got, ok := impl.LiftPairPoint(id, q.X, greater); ok || got != (impl.PairPoint{}) {
					t.Errorf("LiftPairPoint(%d, %x, %v) = %#v, %v", id, q.X, greater, got, ok)
				}
			}
		}
	}
}
