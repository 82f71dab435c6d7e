package tests

import (
	"math"
	"math/big"
	"slices"
	"testing"

	"loop.example/g00970/impl"
)

// pointKind is what is asked alike of points and of points over pairs.
type pointKind[Q comparable] struct {
	name      string
	zero      Q
	base      func(c listedCurve) Q
	some      func(c listedCurve, d *dice) []Q
	wrong     func(c listedCurve) []Q
	small     func() []ofOrder[Q]
	add       func(id int, a, b Q) Q
	neg       func(id int, q Q) Q
	times     func(id int, n string, q Q) (Q, bool)
	inGroup   func(id int, q Q) bool
	addByBigs func(a, b Q, p string) Q
	// parts are in figures, by curves in order: how often R goes into the number of all points.
	parts [impl.Curves]string
}

// ofOrder is a point that is Zero so many times, and not before.
type ofOrder[Q comparable] struct {
	id, order int
	q         Q
}

func pointsAlone() pointKind[impl.Point] {
	return pointKind[impl.Point]{
		name: "alone", zero: zeroPoint, base: baseByList, some: somePoints, wrong: wrongPoints, small: smallOrders,
		add: impl.AddPoint, neg: impl.NegPoint, times: impl.TimesPoint, inGroup: impl.InGroup, addByBigs: addByBigs,
		parts: [impl.Curves]string{"1", "1083", "1", "76329603384216526031706109802092473003"},
	}
}

func pointsOverPairs() pointKind[impl.PairPoint] {
	return pointKind[impl.PairPoint]{
		name: "over pairs", zero: zeroPairPoint, base: pairBaseByList, some: somePairPoints, wrong: wrongPairPoints, small: smallPairOrders,
		add: impl.AddPairPoint, neg: impl.NegPairPoint, times: impl.TimesPairPoint, inGroup: impl.InPairGroup, addByBigs: addPairPointsByBigs,
		parts: [impl.Curves]string{
			"1707661", "11531095051717",
			"21888242871839275222246405745257275088844257914179612981679871602714643921549",
			"305502333931268344200999753193121504214466019254188142667664032982267604182971884026507427359259977847832272839041616661285803823378372096355777062779109",
		},
	}
}

// smallOrders and smallPairOrders come from a reckoning apart.
func smallOrders() []ofOrder[impl.Point] {
	return []ofOrder[impl.Point]{
		{2, 3, pointOfFigures("0", "2")},
		{2, 3, pointOfFigures("0", "10647363905")},
		{2, 19, pointOfFigures("1613931066", "628918676")},
		{2, 57, pointOfFigures("2600818544", "9917802419")},
		{4, 3, pointOfFigures("0", "2")},
		{4, 3, pointOfFigures("0", "4002409555221667393417789825735904156556882819939007885332058136124031650490837864442687629129015664037894272559785")},
		{4, 11, pointOfFigures("3956004395474098837628254559081278399437790480919110441782872614468170835925146347811552361848663176266579672936943", "644394479309305077123003308264671517061331360878780088181972299629940278726570696759107451607114398582946900217000")},
		{4, 33, pointOfFigures("754709631639265494240040888824958255209131238810095685421526182867647475016567636493962192684052345794380570879792", "1799692568352961060688932313193655250727513733546006437086641030799486879856808211378654618177784596322150245357595")},
	}
}

// order10177 is Zero so many times, which is more than OrderOf ever goes.
func order10177() impl.Point {
	return pointOfFigures("3750678886133958428672544614496187467621617956517278295105858313298192982272684601743130076622322488749196512167558", "57472450890556030332431410519089112477455139573762445017412132548981868815598434256530455245532278883953617611169")
}

func smallPairOrders() []ofOrder[impl.PairPoint] {
	return []ofOrder[impl.PairPoint]{
		{1, 37, pairPointOfFigures("366912", "265586", "1665860", "1499719")},
		{2, 3229, pairPointOfFigures("5442495521", "4955039337", "8310807214", "1314747769")},
		{4, 13, pairPointOfFigures("2572974078163095140159019913702166311780474148665578416922000860582288856877568429523651367670035847304981280093687", "2465500448828404723840079242780883647687524074120644005403159010009923526160560355803534988100623000786893576854385", "3485020849252832679337806139510557182028380297679373791166296072133856625341906528515295585292051120770827085126259", "2145420343451204691027806674946231650983706263900393084397561047074993475760782975368937449276071527861944647831938")},
		{4, 23, pairPointOfFigures("1514767491876279135639699551608553074067139139288110168886864785203267363131224383220308566395286693850829017519357", "2206048107714004699428583524102992846671290024060134876372565931759099636070193791521002834557464655694555140001621", "53172807376201672338511875544531987072569538954380707952140589907278766527534027902337690046494483745717287024846", "515904491704925285201744500561182275222389635845496812500076311928382035601425536824158328759359036093589698452360")},
	}
}

// timesByBigs wants a point that is right, and goes from the lowest bit on, other than the program.
func (k pointKind[Q]) timesByBigs(n string, q Q, p string) Q {
	sum, number := k.zero, bigOf(n)
	for i := range number.BitLen() {
		if number.Bit(i) == 1 {
			sum = k.addByBigs(sum, q, p)
		}
		q = k.addByBigs(q, q, p)
	}
	return sum
}

// checkTimes wants a right number, a curve and a point of it.
func (k pointKind[Q]) checkTimes(t *testing.T, id int, n string, q, want Q) {
	t.Helper()
	if got, ok := k.times(id, n, q); !ok || got != want {
		t.Fatalf("%s: %x times %#v of curve %d is %#v, %v, want %#v", k.name, n, q, id, got, ok, want)
	}
}

// checkRefused wants a number, a curve or a point that is not right.
func (k pointKind[Q]) checkRefused(t *testing.T, id int, n string, q Q) {
	t.Helper()
	var nothing Q
	if got, ok := k.times(id, n, q); ok || got != nothing {
		t.Errorf("%s: %.20x times %#v of curve %d is %#v, %v", k.name, n, q, id, got, ok)
	}
}

// outsiders stand on the curve, and R times them is not Zero; on narrow curves, all points alone are in the group.
func (k pointKind[Q]) outsiders(i int, c listedCurve, d *dice) []Q {
	var list []Q
	p := greatOfFigures(c.p)
	for _, q := range k.some(c, d) {
		if len(list) < 3 && k.parts[i] != "1" && k.timesByBigs(greatOfFigures(c.r), q, p) != k.zero {
			list = append(list, q)
		}
	}
	return list
}

// fewOf are so many of a list, from all over it, the last one among them.
func fewOf[Q any](list []Q, many int) []Q {
	var few []Q
	for i := range many {
		few = append(few, list[(i+1)*len(list)/many-1])
	}
	return few
}

func plus(n string, more int64) string { return lessBy(n, -more) }

func product(a, b string) string {
	return greatOfBig(new(big.Int).Mul(bigOf(a), bigOf(b)))
}

// timesNumbers stand at the edges of bytes, of MaxGreat, and about multiples of r.
func timesNumbers(r string, d *dice) []string {
	greatest := full(impl.MaxGreat)
	list := []string{"", "\x01", "\x02", "\x03", "\x07", "\x80", "\xff", power(1), full(8), power(8), power(32), power(impl.MaxGreat - 1), greatest}
	for _, multiple := range []string{r, product(r, "\x02"), product(r, power(3)), greatestMultiple(r)} {
		for _, more := range []int64{-1, 0, 1, 2} {
			if n := plus(multiple, more); impl.GreatOk(n) {
				list = append(list, n)
			}
		}
	}
	for _, size := range []int{1, 2, 5, 31, 32, 33, 64, impl.MaxGreat} {
		list = append(list, d.great(size))
	}
	return list
}

// greatestMultiple is that of all multiples that are right.
func greatestMultiple(r string) string {
	return product(r, greatOfBig(new(big.Int).Div(bigOf(full(impl.MaxGreat)), bigOf(r))))
}

type timesWritten[Q comparable] struct {
	id      int
	q       Q
	figures string
	want    Q
}

// greatestFigures are those of the greatest great number that is right.
func greatestFigures() string { return bigOf(full(impl.MaxGreat)).String() }

func checkTimesWritten[Q comparable](t *testing.T, k pointKind[Q], list []timesWritten[Q]) {
	t.Helper()
	for _, e := range list {
		k.checkTimes(t, e.id, greatOfFigures(e.figures), e.q, e.want)
	}
}

// TestTimesPointWrittenOut takes the base points, and points outside of the group, R times and more often.
func TestTimesPointWrittenOut(t *testing.T) {
	list := listedCurves()
	bases := []impl.Point{impl.BaseOf(1), impl.BaseOf(2), impl.BaseOf(3), impl.BaseOf(4)}
	outs := []impl.Point{
		{}, pointOfFigures("3", "4826538308"),
		{}, pointOfFigures("4", "1630892974828014537729259858097113969650871260980656934049590190201941782487224876496582135785777461178964897591404"),
	}
	const mersenne = "170141183460469231731687303715884105727"
	checkTimesWritten(t, pointsAlone(), []timesWritten[impl.Point]{
		{1, bases[0], "1000", pointOfFigures("17380", "574328")},
		{1, bases[0], mersenne, pointOfFigures("849120", "379458")},
		{1, bases[0], greatestFigures(), pointOfFigures("230419", "1647738")},
		{2, bases[1], "1000", pointOfFigures("9613578056", "992235134")},
		{2, bases[1], mersenne, pointOfFigures("1023633389", "4163081696")},
		{2, bases[1], greatestFigures(), pointOfFigures("4129833085", "3028747627")},
		{2, outs[1], greatestFigures(), pointOfFigures("5291315797", "244059272")},
		{2, outs[1], list[1].r, pointOfFigures("2600818544", "9917802419")},
		{2, outs[1], "1083", bases[1]},
		{3, bases[2], "1000", pointOfFigures("1877430218621023249938287835150142829605985124239973405386905603937246406682", "5158670745399576371417749445914270010222487318683077220882364692777539249273")},
		{3, bases[2], mersenne, pointOfFigures("20141615975687499423278208099226030254870633561088992645076543075906477564828", "16505278706561530957324024755242926446838799709766559149758501276021880016908")},
		{3, bases[2], greatestFigures(), pointOfFigures("15714517220474458400034237063805960185423309107485212471591586534956695860988", "10986831372527673170690558853529729243600519405155196291379833091414015774920")},
		{4, bases[3], "1000", pointOfFigures("932176706192224294005384091566749023235121972684594034450364737282400874720465602376920692242695568426047336366155", "3682328182628733883030122752215534488003458128119544380419909883870244931638524926238385081550056059628870956148640")},
		{4, bases[3], mersenne, pointOfFigures("3922058300282829265842077754464651116294506931809295323259326129687106632054328430372986532204955292039881318824658", "324139450165204329292546392428025107721886336436891726424073999052317089614133876724362316888013635648878110672186")},
		{4, bases[3], greatestFigures(), pointOfFigures("3136412006562731902679358600811312946684740709066470868317196517901569254221164219594537889285363504372839513361388", "3523621818143434039167984627795022516529514605129926156148320566857983041864093858953083782724312520860182322787754")},
		{4, outs[3], greatestFigures(), pointOfFigures("2097299292365221061991225171150179622274198244888562560795758986607025758585632006055992543533814684273257651701147", "2636177256056267071336848893132208598359229717342047572513596619915251575875382261775557520756054165263022482053482")},
		{4, outs[3], list[3].r, pointOfFigures("1970372112336885166433607949963048934508609520935373756867831812153172608257879999576076026759575878642865347265306", "3300178667921317404704701025837691038869512256313772241270747517791413006239732807268325427907282928813972502563732")},
		{4, outs[3], "76329603384216526031706109802092473003", bases[3]},
	})
}

// TestTimesPairPointWrittenOut does likewise over pairs.
func TestTimesPairPointWrittenOut(t *testing.T) {
	list := listedCurves()
	bases := []impl.PairPoint{impl.PairBase(1), impl.PairBase(2), impl.PairBase(3), impl.PairBase(4)}
	outs := []impl.PairPoint{
		pairPointOfFigures("1", "0", "1202732", "698483"),
		pairPointOfFigures("1", "0", "5588674569", "1527227914"),
		pairPointOfFigures("1", "0", "18278151005453108793778860132295291098363647455926340152056652516292830556603", "5912654199736721486680175016176231956195085055698687135131307249486702594212"),
		pairPointOfFigures("2", "0", "188995492400578496451910581292546059920654572609832469388872107051048741028892423057992033888655218419282460458611", "434381874456081807472298918693162486998243066160460423017297172308631992219110538691921044767658182807847155297615"),
	}
	const mersenne = "170141183460469231731687303715884105727"
	checkTimesWritten(t, pointsOverPairs(), []timesWritten[impl.PairPoint]{
		{1, bases[0], "1000", pairPointOfFigures("1486787", "26654", "650094", "756992")},
		{1, bases[0], mersenne, pairPointOfFigures("1631819", "1412575", "393670", "1240520")},
		{1, bases[0], greatestFigures(), pairPointOfFigures("1002191", "220873", "1411909", "1169067")},
		{1, outs[0], greatestFigures(), pairPointOfFigures("926108", "492183", "1071313", "1146119")},
		{1, outs[0], list[0].r, pairPointOfFigures("887559", "137009", "19465", "1661420")},
		{1, outs[0], "1707661", pairPointOfFigures("654014", "1680798", "866573", "1390607")},
		{2, bases[1], "1000", pairPointOfFigures("7326231302", "6661747854", "8981831120", "652407158")},
		{2, bases[1], mersenne, pairPointOfFigures("176414480", "4998084611", "1076333703", "7591723339")},
		{2, bases[1], greatestFigures(), pairPointOfFigures("5608958767", "9596568333", "1802619713", "8783959364")},
		{2, outs[1], greatestFigures(), pairPointOfFigures("5246893197", "2732552728", "1619281582", "8636968445")},
		{2, outs[1], list[1].r, pairPointOfFigures("10010626269", "2161540898", "3945192169", "9120361101")},
		{3, bases[2], "1000", pairPointOfFigures("4485154768640210353753383941068163635254046522647638806103197994962178983712", "455731043736410553651410701337125802362460660007109215058916208999712634584", "10281137970373222699991618127360424852779340771150208952231371614031567012981", "17252501750570930990585204197070225258063210490099623186403255090002935362247")},
		{3, bases[2], mersenne, pairPointOfFigures("12317792975110431897578097821395970686863935750802572157887732581610420571980", "14178936494832920452913932135517943403080156164511829921538048125898108670943", "6734133821990189726504586297009119808332005331815009199940766662544760325848", "10966415063353898010709264789849893969430510900938224394340852715978080318490")},
		{3, bases[2], greatestFigures(), pairPointOfFigures("3919202553832248666309789071064672008192917918218774933714573425037168584161", "19294994436710489192112952805949396872831077401364676601874790705562280145604", "17674803381045923735159127801772918227529443688184608500978679336421747114795", "5406765497161783998430291534188044973162291809087885011282260233532300904537")},
		{3, outs[2], greatestFigures(), pairPointOfFigures("14060637462104669819847448301108799997222183784528488136972374504490487679963", "19075085503149717341081492916364469144147368150365169496490958828043227449793", "5794451412666582841151165374678535288647425199391925680956933651410076346346", "11655467778333987631569645055281199469872220685426436211270210334335448545098")},
		{3, outs[2], list[2].r, pairPointOfFigures("12449809347824824073929964793537538272792066846557360436674515403760722048593", "6833220850417336253699040162630430029311385334883328197502640595056151302508", "12676962405547438761413333211314096723026960849353574309063316773424184031811", "12628908397913110544468529427854163908017316685594631546736530946916541228307")},
		{4, bases[3], "1000", pairPointOfFigures("331179441073467671098494540434427771397221010022258774528156792052335178945101972179805575420158718424829531125381", "2510860356137456306240874828931294175232191043552288636707976727413114533662543092863334640700415647221430287672185", "2111123396488051147408219823857056082768858417544168487108987794315613859641672376428858757334198218193211839931481", "3210136247106774370732575418644114450114394691983174152409384333284765054497625498900063027512221090752831324615345")},
		{4, bases[3], mersenne, pairPointOfFigures("3819858358200956968803744725803247098099651158261868098393892152763414141546268651790075070695443696855169997664049", "2837371560536771377494099074862880023537506834600467198981687240185156669811658458423419971467614946496668881300316", "2511905687752091583161221183648479355822801818876609196014641840889192363127417635516883842687634728603413388806838", "2746331888708377263940305684738380035245955345769052464397030103516526838004785517803119807707842946410195473293300")},
		{4, bases[3], greatestFigures(), pairPointOfFigures("1833860656407005325525975836394179834063138105883552907951480442589279775867825286767793537839555476131557799550218", "633036169465617769756199331334274320375929378331314594119678656758015491365692494333340602677985333851660206061552", "414404070856009393751517848601930643268640702505020049555097395879792070979210968779463089301723660349243977662106", "3026590427068825197208654456700300695519398354487762158414569915908250950371642457095108440904808016062149728484236")},
		{4, outs[3], greatestFigures(), pairPointOfFigures("946622092924838856636417225827370682638700554252651735502383752198764821029685901371941450214951694035812554646376", "1279030259363214442023699322285302272095892052496083717897526828294539676240937491009820173634845677640876502833963", "3431178878669557616946856522466302456617036930133444756791764801674710411660699485986074806338234798987062322929814", "1854593498598740806191720502521702090017021107882843230676305668662816187893666941249787901078084893999292313618313")},
		{4, outs[3], list[3].r, pairPointOfFigures("2035240462764447835400685972724271559814847315696276350110519948502820523056309993276555653355824754963009840756226", "2187245814131327138684154451949749033896213595106499010876609084592305575319405037349534428999609490801297379800766", "2838816124995437454740196629890597722267851080317304414562750272237950191814992020029268584465032981385920028085447", "981922888706421431355571687098819401699457454269862960948423583134665346348796125440789618126473286599155087847444")},
		{4, outs[3], pointsOverPairs().parts[3], bases[3]},
	})
}

func checkTimesByBigs[Q comparable](t *testing.T, k pointKind[Q]) {
	t.Helper()
	d := dice{state: 1201}
	for i, c := range listedCurves() {
		p := greatOfFigures(c.p)
		for _, n := range timesNumbers(greatOfFigures(c.r), &d) {
			k.checkTimes(t, i+1, n, k.base(c), k.timesByBigs(n, k.base(c), p))
		}
		for _, q := range k.outsiders(i, c, &d) {
			n := d.great(33 + d.below(40))
			k.checkTimes(t, i+1, n, q, k.timesByBigs(n, q, p))
		}
		for _, q := range k.some(c, &d) {
			n := d.great(1 + d.below(12))
			k.checkTimes(t, i+1, n, q, k.timesByBigs(n, q, p))
		}
	}
}

func TestTimesByBigs(t *testing.T) {
	t.Parallel()
	checkTimesByBigs(t, pointsAlone())
	checkTimesByBigs(t, pointsOverPairs())
}

// checkOneMore goes from 0 times on, and then about 2 to the power of some number, and about R.
func checkOneMore[Q comparable](t *testing.T, k pointKind[Q]) {
	t.Helper()
	d := dice{state: 1202}
	for i, c := range listedCurves() {
		for _, q := range k.some(c, &d) {
			want := k.zero
			for n := range 10 {
				k.checkTimes(t, i+1, impl.GreatOf(n), q, want)
				want = k.add(i+1, want, q)
			}
		}
		base := k.base(c)
		for _, start := range []string{"\xfd", plus(power(3), -3), lessBy(greatOfFigures(c.r), 3), lessBy(full(impl.MaxGreat), 4)} {
			want := timesRight(t, k, i+1, start, base)
			for more := range int64(5) {
				k.checkTimes(t, i+1, plus(start, more), base, want)
				want = k.add(i+1, want, base)
			}
		}
	}
}

func TestOneTimeMoreIsOnePointMore(t *testing.T) {
	t.Parallel()
	checkOneMore(t, pointsAlone())
	checkOneMore(t, pointsOverPairs())
}

func checkNoneAndOne[Q comparable](t *testing.T, k pointKind[Q]) {
	t.Helper()
	d := dice{state: 1203}
	for i, c := range listedCurves() {
		for _, q := range k.some(c, &d) {
			k.checkTimes(t, i+1, "", q, k.zero)
			k.checkTimes(t, i+1, "\x01", q, q)
			k.checkTimes(t, i+1, "\x02", q, k.add(i+1, q, q))
		}
		for _, n := range timesNumbers(greatOfFigures(c.r), &d) {
			k.checkTimes(t, i+1, n, k.zero, k.zero)
		}
	}
}

func TestTimes0And1AndOfZero(t *testing.T) {
	t.Parallel()
	checkNoneAndOne(t, pointsAlone())
	checkNoneAndOne(t, pointsOverPairs())
}

func checkAddedUp[Q comparable](t *testing.T, k pointKind[Q]) {
	t.Helper()
	d := dice{state: 1204}
	for i, c := range listedCurves() {
		for _, q := range append(fewOf(k.some(c, &d), 8), k.base(c)) {
			n, m := d.great(d.below(24)), d.great(d.below(24))
			first, _ := k.times(i+1, n, q)
			second, _ := k.times(i+1, m, q)
			k.checkTimes(t, i+1, impl.AddGreat(n, m), q, k.add(i+1, first, second))
			k.checkTimes(t, i+1, impl.MulGreat(n, m), q, timesRight(t, k, i+1, m, first))
			k.checkTimes(t, i+1, n, k.neg(i+1, q), k.neg(i+1, first))
			k.checkTimes(t, i+1, n, k.add(i+1, q, second), k.add(i+1, first, timesRight(t, k, i+1, n, second)))
		}
	}
}

// timesRight wants a right number, a curve and a point of it.
func timesRight[Q comparable](t *testing.T, k pointKind[Q], id int, n string, q Q) Q {
	t.Helper()
	got, ok := k.times(id, n, q)
	if !ok {
		t.Fatalf("%s: %x times %#v of curve %d is refused", k.name, n, q, id)
	}
	return got
}

func TestTimesAreAddedUp(t *testing.T) {
	t.Parallel()
	checkAddedUp(t, pointsAlone())
	checkAddedUp(t, pointsOverPairs())
}

// checkRTimes brings numbers of more bits than R below it, which may be done in the group alone.
func checkRTimes[Q comparable](t *testing.T, k pointKind[Q]) {
	t.Helper()
	d := dice{state: 1205}
	for i, c := range listedCurves() {
		r, base := greatOfFigures(c.r), k.base(c)
		for _, n := range []string{r, product(r, "\x02"), product(r, r), product(r, d.great(50)), greatestMultiple(r)} {
			k.checkTimes(t, i+1, n, base, k.zero)
			k.checkTimes(t, i+1, plus(n, 1), base, base)
			k.checkTimes(t, i+1, plus(n, -1), base, k.neg(i+1, base))
			k.checkTimes(t, i+1, plus(n, 2), base, k.add(i+1, base, base))
		}
		for _, n := range []string{power(32), d.great(48), d.great(64), full(impl.MaxGreat)} {
			k.checkTimes(t, i+1, n, base, timesRight(t, k, i+1, impl.RestOf(n, r), base))
		}
	}
}

func TestRTimesIsZero(t *testing.T) {
	t.Parallel()
	checkRTimes(t, pointsAlone())
	checkRTimes(t, pointsOverPairs())
}

// checkAllPoints takes points outside of the group as often as the curve has points.
func checkAllPoints[Q comparable](t *testing.T, k pointKind[Q]) {
	t.Helper()
	d := dice{state: 1206}
	for i, c := range listedCurves() {
		r, part := greatOfFigures(c.r), greatOfFigures(k.parts[i])
		out := k.outsiders(i, c, &d)
		if (len(out) == 0) != (k.parts[i] == "1") {
			t.Fatalf("%s: there are %d points outside of the group of curve %d", k.name, len(out), i+1)
		}
		for _, q := range out {
			k.checkTimes(t, i+1, product(r, part), q, k.zero)
			k.checkTimes(t, i+1, plus(product(r, part), 1), q, q)
			if got := timesRight(t, k, i+1, plus(r, 1), q); got == q || got == k.zero {
				t.Errorf("%s: R and 1 times %#v of curve %d is %#v", k.name, q, i+1, got)
			}
			if !k.inGroup(i+1, timesRight(t, k, i+1, part, q)) || k.inGroup(i+1, timesRight(t, k, i+1, r, q)) {
				t.Errorf("%s: of %#v of curve %d, what is in the group is not told", k.name, q, i+1)
			}
		}
	}
}

func TestTimesOutsideOfTheGroup(t *testing.T) {
	t.Parallel()
	checkAllPoints(t, pointsAlone())
	checkAllPoints(t, pointsOverPairs())
}

// checkSmallOrders comes by Zero, by the point itself and by the one against it again and again on the way.
func checkSmallOrders[Q comparable](t *testing.T, k pointKind[Q]) {
	t.Helper()
	d := dice{state: 1207}
	for _, e := range k.small() {
		curve, _ := impl.CurveOf(e.id)
		turns := []Q{k.zero}
		for range e.order - 1 {
			turns = append(turns, k.addByBigs(turns[len(turns)-1], e.q, curve.P))
		}
		if k.addByBigs(turns[len(turns)-1], e.q, curve.P) != k.zero || slices.Contains(turns[1:], k.zero) {
			t.Fatalf("%s: %#v is not of order %d", k.name, e.q, e.order)
		}
		for n := range min(3*e.order, 200) {
			k.checkTimes(t, e.id, impl.GreatOf(n), e.q, turns[n%e.order])
		}
		for _, n := range timesNumbers(impl.GreatOf(e.order), &d) {
			_, rest, _ := impl.DivGreat(n, impl.GreatOf(e.order))
			left, _ := impl.GreatInt(rest)
			k.checkTimes(t, e.id, n, e.q, turns[left])
		}
	}
}

func TestTimesOfSmallOrders(t *testing.T) {
	t.Parallel()
	checkSmallOrders(t, pointsAlone())
	checkSmallOrders(t, pointsOverPairs())
}

func checkTimesRefused[Q comparable](t *testing.T, k pointKind[Q]) {
	t.Helper()
	for i, c := range listedCurves() {
		for _, q := range k.wrong(c) {
			for _, n := range []string{"", "\x01", "\x02", greatOfFigures(c.r), "\x00"} {
				k.checkRefused(t, i+1, n, q)
			}
		}
		r := greatOfFigures(c.r)
		for _, n := range append(wrongGreats(), "\x00"+r, "\x00\x00"+r, "\x01"+full(impl.MaxGreat)) {
			for _, q := range []Q{k.base(c), k.neg(i+1, k.base(c)), k.zero} {
				k.checkRefused(t, i+1, n, q)
			}
		}
		for _, id := range noCurves() {
			for _, q := range []Q{k.base(c), k.zero} {
				k.checkRefused(t, id, "", q)
				k.checkRefused(t, id, "\x01", q)
				k.checkRefused(t, id, r, q)
			}
		}
	}
}

func TestTimesOfWhatIsNotRight(t *testing.T) {
	t.Parallel()
	checkTimesRefused(t, pointsAlone())
	checkTimesRefused(t, pointsOverPairs())
}

func checkInGroup[Q comparable](t *testing.T, k pointKind[Q]) {
	t.Helper()
	d := dice{state: 1208}
	for i, c := range listedCurves() {
		p, r, base := greatOfFigures(c.p), greatOfFigures(c.r), k.base(c)
		list := append(fewOf(k.some(c, &d), 12), k.outsiders(i, c, &d)...)
		for range 3 {
			in := k.timesByBigs(d.great(1+d.below(30)), base, p)
			list = append(list, in, k.addByBigs(in, list[d.below(len(list))], p))
		}
		for _, q := range list {
			want := k.timesByBigs(r, q, p) == k.zero
			if got := k.inGroup(i+1, q); got != want {
				t.Errorf("%s: of curve %d, %#v is in the group: %v", k.name, i+1, q, got)
			}
			if times := timesRight(t, k, i+1, r, q); (times == k.zero) != want {
				t.Errorf("%s: of curve %d, R times %#v is %#v", k.name, i+1, q, times)
			}
		}
	}
}

func TestInGroupByBigs(t *testing.T) {
	t.Parallel()
	checkInGroup(t, pointsAlone())
	checkInGroup(t, pointsOverPairs())
}

func checkGroupMembers[Q comparable](t *testing.T, k pointKind[Q]) {
	t.Helper()
	for i, c := range listedCurves() {
		base := k.base(c)
		for _, q := range []Q{k.zero, base, k.neg(i+1, base), k.add(i+1, base, base)} {
			if !k.inGroup(i+1, q) {
				t.Errorf("%s: of curve %d, %#v is not in the group", k.name, i+1, q)
			}
		}
		for _, q := range k.wrong(c) {
			if k.inGroup(i+1, q) {
				t.Errorf("%s: of curve %d, %#v is in the group", k.name, i+1, q)
			}
		}
		for _, id := range noCurves() {
			for _, q := range []Q{k.zero, base} {
				if k.inGroup(id, q) {
					t.Errorf("%s: %#v is in the group of curve %d", k.name, q, id)
				}
			}
		}
	}
	for _, e := range k.small() {
		curve, _ := impl.CurveOf(e.id)
		base := k.base(listedCurves()[e.id-1])
		both := k.addByBigs(base, e.q, curve.P)
		if k.inGroup(e.id, e.q) || k.inGroup(e.id, both) || !k.inGroup(e.id, k.add(e.id, both, k.neg(e.id, e.q))) {
			t.Errorf("%s: of curve %d, of %#v with the base point, what is in the group is not told", k.name, e.id, e.q)
		}
	}
}

func TestWhoIsInTheGroup(t *testing.T) {
	t.Parallel()
	checkGroupMembers(t, pointsAlone())
	checkGroupMembers(t, pointsOverPairs())
}

// TestInGroupWrittenOut looks at points of broad-small by their X; just a few of those with a small one are in the group.
func TestInGroupWrittenOut(t *testing.T) {
	for _, c := range []struct {
		q    impl.Point
		want bool
	}{
		{pointOfFigures("0", "2"), false},
		{pointOfFigures("3", "4826538308"), false},
		{pointOfFigures("14", "3865729658"), true},
		{impl.NegPoint(2, pointOfFigures("14", "3865729658")), true},
		{pointOfFigures("1613931066", "628918676"), false},
		{pointOfFigures("2600818544", "9917802419"), false},
	} {
		if got := impl.InGroup(2, c.q); got != c.want || !impl.PointOk(2, c.q) {
			t.Errorf("InGroup(2, %#v) = %v", c.q, got)
		}
	}
}

// TestGroupsOfOtherCurves takes a point of one curve to the others; both narrow curves have the same base point.
func TestGroupsOfOtherCurves(t *testing.T) {
	for i := range listedCurves() {
		for j := range listedCurves() {
			q, paired := impl.BaseOf(i+1), impl.PairBase(i+1)
			if got := impl.InGroup(j+1, q); got != (i == j || q == impl.BaseOf(j+1)) {
				t.Errorf("InGroup(%d) of the base point of curve %d = %v", j+1, i+1, got)
			}
			if got := impl.InPairGroup(j+1, paired); got != (i == j) {
				t.Errorf("InPairGroup(%d) of the base point of curve %d = %v", j+1, i+1, got)
			}
		}
	}
}

func TestCombinedByBigs(t *testing.T) {
	d := dice{state: 1209}
	k := pointsAlone()
	for i, c := range listedCurves() {
		p := greatOfFigures(c.p)
		some := somePoints(c, &d)
		for size := range 9 {
			var ns []string
			var list, parts []impl.Point
			want := zeroPoint
			for range size {
				n, q := d.great(d.below(20)), some[d.below(len(some))]
				ns, list = append(ns, n), append(list, q)
				parts = append(parts, timesRight(t, k, i+1, n, q))
				want = addByBigs(want, k.timesByBigs(n, q, p), p)
			}
			keptNs, kept := slices.Clone(ns), slices.Clone(list)
			if got, ok := impl.Combined(i+1, ns, list); !ok || got != want || got != impl.SumPoints(i+1, parts) {
				t.Errorf("Combined(%d, %x, %#v) = %#v, %v, want %#v", i+1, ns, list, got, ok, want)
			}
			if !slices.Equal(ns, keptNs) || !slices.Equal(list, kept) {
				t.Errorf("Combined(%d) wrote into its lists", i+1)
			}
		}
	}
}

func TestCombinedWrittenOut(t *testing.T) {
	for i, c := range listedCurves() {
		r, base := greatOfFigures(c.r), baseByList(c)
		neg := impl.NegPoint(i+1, base)
		three := impl.SumPoints(i+1, []impl.Point{base, base, base})
		for _, e := range []struct {
			ns   []string
			list []impl.Point
			want impl.Point
		}{
			{nil, nil, zeroPoint},
			{[]string{}, []impl.Point{}, zeroPoint},
			{nil, []impl.Point{}, zeroPoint},
			{[]string{""}, []impl.Point{base}, zeroPoint},
			{[]string{"\x01"}, []impl.Point{base}, base},
			{[]string{"\x01"}, []impl.Point{zeroPoint}, zeroPoint},
			{[]string{r}, []impl.Point{base}, zeroPoint},
			{[]string{plus(r, 1)}, []impl.Point{base}, base},
			{[]string{"\x03"}, []impl.Point{base}, three},
			{[]string{"\x01", "\x02"}, []impl.Point{base, base}, three},
			{[]string{"\x02", "\x01"}, []impl.Point{base, base}, three},
			{[]string{"\x05", "\x02"}, []impl.Point{base, neg}, three},
			{[]string{"\x02", "\x02"}, []impl.Point{base, neg}, zeroPoint},
			{[]string{"", "\x03", ""}, []impl.Point{neg, base, three}, three},
			{[]string{"\x07", "\x03", "\x01"}, []impl.Point{zeroPoint, base, zeroPoint}, three},
			{[]string{"\x02", "\x01", "\x01"}, []impl.Point{three, neg, impl.AddPoint(i+1, neg, neg)}, three},
		} {
			if got, ok := impl.Combined(i+1, e.ns, e.list); !ok || got != e.want {
				t.Errorf("Combined(%d, %x, %#v) = %#v, %v, want %#v", i+1, e.ns, e.list, got, ok, e.want)
			}
		}
	}
}

func checkNotCombined(t *testing.T, id int, ns []string, list []impl.Point) {
	t.Helper()
	if got, ok := impl.Combined(id, ns, list); ok || got != (impl.Point{}) {
		t.Errorf("Combined(%d, %.20x, %#v) = %#v, %v", id, ns, list, got, ok)
	}
}

func TestCombinedOfDifferentLengths(t *testing.T) {
	for i, c := range listedCurves() {
		base := baseByList(c)
		ns := []string{"\x01", "\x02", "", "\x03", "\x01"}
		list := []impl.Point{base, base, zeroPoint, base, base}
		for many := range len(ns) + 1 {
			for points := range len(list) + 1 {
				if many != points {
					checkNotCombined(t, i+1, ns[:many], list[:points])
				}
			}
		}
	}
}

// TestCombinedOfWhatIsNotRight puts it at the beginning, in the middle and at the end, also where it would add nothing.
func TestCombinedOfWhatIsNotRight(t *testing.T) {
	for i, c := range listedCurves() {
		base := baseByList(c)
		for place := range 3 {
			for _, q := range wrongPoints(c) {
				list := []impl.Point{base, base, base}
				list[place] = q
				checkNotCombined(t, i+1, []string{"\x01", "\x01", "\x01"}, list)
				checkNotCombined(t, i+1, []string{"", "", ""}, list)
			}
			for _, n := range wrongGreats() {
				ns := []string{"\x01", "\x01", "\x01"}
				ns[place] = n
				checkNotCombined(t, i+1, ns, []impl.Point{base, base, base})
				checkNotCombined(t, i+1, ns, []impl.Point{zeroPoint, zeroPoint, zeroPoint})
			}
		}
		for _, id := range noCurves() {
			checkNotCombined(t, id, []string{"\x01"}, []impl.Point{base})
			checkNotCombined(t, id, []string{"\x01"}, []impl.Point{zeroPoint})
			checkNotCombined(t, id, []string{""}, []impl.Point{zeroPoint})
		}
	}
}

// TestNothingCombinedWithoutCurve has no point that is not right, and yet nothing comes of it.
func TestNothingCombinedWithoutCurve(t *testing.T) {
	for _, id := range noCurves() {
		checkNotCombined(t, id, nil, nil)
		checkNotCombined(t, id, []string{}, []impl.Point{})
	}
}

func checkOrder(t *testing.T, id int, q impl.Point, most, want int) {
	t.Helper()
	if got := impl.OrderOf(id, q, most); got != want {
		t.Errorf("OrderOf(%d, %#v, %d) = %d, want %d", id, q, most, got, want)
	}
}

// checkOrders wants a point that is Zero so many times, at most 1000, and not before.
func checkOrders(t *testing.T, id int, q impl.Point, order int) {
	t.Helper()
	for _, most := range []int{order, order + 1, 2 * order, 999, 1000, 1001, 2000, 1 << 32, math.MaxInt - 1, math.MaxInt} {
		checkOrder(t, id, q, most, order)
	}
	for _, most := range []int{order - 1, 0, -1, -order, -1000, -math.MaxInt, math.MinInt} {
		checkOrder(t, id, q, most, 0)
	}
	if order > 1 {
		checkOrder(t, id, q, 1, 0)
	}
}

func TestOrderOf(t *testing.T) {
	for i := range listedCurves() {
		checkOrders(t, i+1, zeroPoint, 1)
	}
	for _, e := range smallOrders() {
		checkOrders(t, e.id, e.q, e.order)
		checkOrders(t, e.id, impl.NegPoint(e.id, e.q), e.order)
	}
}

// TestOrderOfEachMost looks for the first multiple that is Zero.
func TestOrderOfEachMost(t *testing.T) {
	d := dice{state: 1210}
	list := listedCurves()
	for i, c := range list {
		some := somePoints(c, &d)
		for _, e := range smallOrders() {
			if e.id == i+1 {
				some = append(some, e.q, addByBigs(e.q, e.q, greatOfFigures(c.p)))
			}
		}
		for _, q := range some {
			first, sum := 0, zeroPoint
			for n := 1; n <= 60; n++ {
				sum = addByBigs(sum, q, greatOfFigures(c.p))
				if first == 0 && sum.Zero {
					first = n
				}
				if n%7 == 4 || n == first || n == first-1 || n == first+1 {
					checkOrder(t, i+1, q, n, first)
				}
			}
		}
	}
}

// TestOrderAbove1000 wants none, however far OrderOf is let go.
func TestOrderAbove1000(t *testing.T) {
	q := order10177()
	p := greatOfFigures(listedCurves()[3].p)
	if !impl.PointOk(4, q) || pointsAlone().timesByBigs(impl.GreatOf(10177), q, p) != zeroPoint {
		t.Fatalf("%#v is not Zero 10177 times", q)
	}
	for _, most := range []int{1000, 1001, 10176, 10177, 10178, 100000, math.MaxInt} {
		checkOrder(t, 4, q, most, 0)
	}
	for i, c := range listedCurves() {
		for _, most := range []int{-1, 0, 1, 1000, 1001, 1 << 24, math.MaxInt} {
			checkOrder(t, i+1, baseByList(c), most, 0)
		}
	}
}

func TestOrderOfWhatIsNotRight(t *testing.T) {
	for i, c := range listedCurves() {
		for _, q := range wrongPoints(c) {
			for _, most := range []int{-1, 0, 1, 5, 1000, math.MaxInt} {
				checkOrder(t, i+1, q, most, 0)
			}
		}
		for _, id := range noCurves() {
			for _, q := range []impl.Point{zeroPoint, {}, baseByList(c), {Y: "\x02"}} {
				for _, most := range []int{-1, 0, 1, 5, 1000, math.MaxInt} {
					checkOrder(t, id, q, most, 0)
				}
			}
		}
	}
}
