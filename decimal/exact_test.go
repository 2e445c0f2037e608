package decimal_test

import (
	"math"
	"strconv"
	"strings"
	"testing"

	"crucible/api"
	"crucible/decimal"
	"crucible/ieee"
)

// wantExact asks with each sign.
func wantExact[T ieee.Bits](t *testing.T, x uint64, want api.Digits) {
	t.Helper()
	sign := kindOf[T]().sign()
	for _, y := range []T{T(x), T(x + sign)} {
		want.Neg = uint64(y) >= sign
		if got, ok := decimal.Exact(y); got != want || !ok {
			t.Errorf("Exact(%#x) = %s, %v, want %s", y, show(got), ok, show(want))
		}
	}
}

func wantKnownExact[T ieee.Bits](t *testing.T, rows []known) {
	t.Helper()
	for _, c := range rows {
		wantExact[T](t, c.want, api.Digits{Text: c.text, Point: c.point})
	}
}

// P7.2 at what the document names, and at the edges of each width.
func TestKnownExact16(t *testing.T) {
	rows := []known{
		{"65504", 5, 0x7bff}, {"59604644775390625", -7, 1}, {"1", 2, 0x4900}, {"", 0, 0}, {"1", 1, 0x3c00}, {"15", 1, 0x3e00}, {"999755859375", -1, 0x2e66},
		{"60975551605224609375", -4, 0x03ff}, {"6103515625", -4, 0x0400}, {"1", 4, 0x63d0}, {"1", 5, 0x70e2}, {"6", 5, 0x7b53},
	}
	wantKnownExact[uint16](t, rows)
	wantKnownExact[own16](t, rows)
}

func TestKnownExact32(t *testing.T) {
	rows := []known{
		{"140129846432481707092372958328991613128026194187651577175706828388979108268586060148663818836212158203125", -44, 1},
		{"1175494210692441075487029444849287348827052428745893333857174530571588870475618904265502351336181163787841796875", -37, 0x007fffff},
		{"11754943508222875079687365372222456778186655567720875215087517062784172594547271728515625", -37, 0x00800000},
		{"34028234663852885981170418348451692544", 39, 0x7f7fffff}, {"100000001490116119384765625", 0, 0x3dcccccd}, {"16777216", 8, 0x4b800000}, {"1", 11, 0x501502f9}, {"", 0, 0},
	}
	wantKnownExact[uint32](t, rows)
	wantKnownExact[own32](t, rows)
}

func TestKnownExact64(t *testing.T) {
	rows := []known{
		{"1000000000000000055511151231257827021181583404541015625", 0, 0x3fb999999999999a}, {"5", 1, 0x4014000000000000}, {"", 0, 0}, {"1", 23, 0x4480f0cf064dd592}, {"1", 22, 0x444b1ae4d6e2ef50},
		{"179769313486231570814527423731704356798070567525844996598917476803157260780028538760589558632766878171540458953514382464234321326889464182768467546703537516986049910576551282076245490090389328944075868508455133942304583236903222948165808559332123348274797826204144723168738177180919299881250404026184124858368", 309, 0x7fefffffffffffff},
		{"4940656458412465441765687928682213723650598026143247644255856825006755072702087518652998363616359923797965646954457177309266567103559397963987747960107818781263007131903114045278458171678489821036887186360569987307230500063874091535649843873124733972731696151400317153853980741262385655911710266585566867681870395603106249319452715914924553293054565444011274801297099995419319894090804165633245247571478690147267801593552386115501348035264934720193790268107107491703332226844753335720832431936092382893458368060106011506169809753078342277318329247904982524730776375927247874656084778203734469699533647017972677717585125660551199131504891101451037862738167250955837389733598993664809941164205702637090279242767544565229087538682506419718265533447265625", -323, 1},
		{"2225073858507201383090232717332404064219215980462331830553327416887204434813918195854283159012511020564067339731035811005152434161553460108856012385377718821130777993532002330479610147442583636071921565046942503734208375250806650616658158948720491179968591639648500635908770118304874799780887753749949451580451605050915399856582470818645113537935804992115981085766051992433352114352390148795699609591288891602992641511063466313393663477586513029371762047325631781485664350872122828637642044846811407613911477062801689853244110024161447421618567166150540154285084716752901903161322778896729707373123334086988983175067838846926092773977972858659654941091369095406136467568702398678315290680984617210924625396728515625", -307, 0x0010000000000000},
	}
	wantKnownExact[uint64](t, rows)
	wantKnownExact[own64](t, rows)
}

func notFinite[T ieee.Bits](t *testing.T) {
	k := kindOf[T]()
	normal := uint64(1) << k.fraction
	r := rule{7}
	fractions := []uint64{0, 1, 2, normal/2 - 1, normal / 2, normal/2 + 1, normal - 2, normal - 1}
	for range 200 {
		fractions = append(fractions, r.next()%normal)
	}
	for _, f := range fractions {
		for _, x := range []T{T(k.infinite() + f), T(k.infinite() + f + k.sign())} {
			if got, ok := decimal.Exact(x); got != (api.Digits{}) || ok {
				t.Errorf("Exact(%#x) = %s, %v, want none", x, show(got), ok)
			}
		}
	}
}

// P7.2, R2: what is infinite, what is no number.
func TestExactNotFinite(t *testing.T) {
	widths(t, notFinite[uint16], notFinite[uint32], notFinite[uint64], notFinite[own16], notFinite[own32], notFinite[own64])
}

// isExact: are these the digits of that number, without noughts ahead and behind?
func isExact(d api.Digits, a amount) bool {
	if len(a.m) == 0 {
		return d.Text == "" && d.Point == 0
	}
	return d.Text != "" && strings.Trim(d.Text, "0") == d.Text && size(d).cmp(a) == 0
}

func exactByTheWords[T ieee.Bits](t *testing.T) {
	k := kindOf[T]()
	sizes := some[T]()
	if k.exponent == 5 {
		sizes = sizes[:0]
		for x := range k.infinite() {
			sizes = append(sizes, x)
		}
	}
	for _, x := range sizes {
		d, ok := decimal.Exact(T(x))
		if !ok || !isExact(d, k.amountOf(x)) {
			t.Errorf("Exact(%#x) = %s, %v", x, show(d), ok)
		}
		wantExact[T](t, x, d)
	}
}

// P7.2, held against the document's words; of 16 bits all finite patterns.
func TestExactByTheWords(t *testing.T) {
	widths(t, exactByTheWords[uint16], exactByTheWords[uint32], exactByTheWords[uint64], exactByTheWords[own16], exactByTheWords[own32], exactByTheWords[own64])
}

// shown is what the language's own library tells of a float above 0, with more digits than any has.
func shown(f float64) api.Digits {
	text, exponent, _ := strings.Cut(strconv.FormatFloat(f, 'e', 800, 64), "e")
	n, _ := strconv.Atoi(exponent)
	return api.Digits{Text: strings.TrimRight(strings.Replace(text, ".", "", 1), "0"), Point: n + 1}
}

// P7.2, held against what the language's own library tells.
func TestExactAsTheLanguage(t *testing.T) {
	r := rule{11}
	for range 3000 {
		x := r.next() % (0x7ff << 52)
		if y := x >> 32 % (0xff << 23); y > 0 {
			wantExact[uint32](t, y, shown(float64(math.Float32frombits(uint32(y)))))
		}
		if x > 0 {
			wantExact[uint64](t, x, shown(math.Float64frombits(x)))
		}
	}
}
