package shortest_test

import (
	"math"
	"strconv"
	"strings"
	"testing"

	"crucible/api"
	"crucible/ieee"
	"crucible/nat"
	"crucible/quot"
	"crucible/shortest"
)

// wantDigits asks with each sign.
func wantDigits[T ieee.Bits](t *testing.T, size uint64, want api.Digits) {
	t.Helper()
	sign := kindOf[T]().sign()
	for _, x := range []T{T(size), T(size + sign)} {
		want.Neg = uint64(x) >= sign
		if got, ok := shortest.Digits(x); got != want || !ok {
			t.Errorf("Digits(%#x) = %v, %v, want %v", x, got, ok, want)
		}
	}
}

type known struct {
	size  uint64
	text  string
	point int
}

func wantKnown[T ieee.Bits](t *testing.T, rows []known) {
	t.Helper()
	for _, c := range rows {
		wantDigits[T](t, c.size, api.Digits{Text: c.text, Point: c.point})
	}
}

// P6.1 at what the document names, and at what follows by hand.
func TestKnown16(t *testing.T) {
	rows := []known{
		{0x3c00, "1", 1}, {0x4000, "2", 1}, {0x3e00, "15", 1}, {0x7bff, "655", 5}, {0x0001, "6", -7},
		// 1.19e-7: both 9e-8 and 1e-7 are read as it, and the closer one begins one place higher.
		{0x0002, "1", -6},
		// The greatest subnormal one, the least normal one.
		{0x03ff, "61", -4}, {0x0400, "6104", -4},
		// Two are as close: 256.25, 256.75.
		{0x5c01, "2562", 3}, {0x5c03, "2568", 3},
		// 50000 lies halfway between 49984, whose fraction is even, and 50016; 38000 between 37984 and 38016, whose fraction is even.
		{0x7a1a, "5", 5}, {0x7a1b, "5002", 5}, {0x78a3, "3798", 5}, {0x78a4, "38", 5},
		// About powers of 2.
		{0x67ff, "2047", 4}, {0x6800, "2048", 4}, {0x6801, "205", 4}, {0x7800, "3277", 5}, {0x7801, "328", 5},
	}
	wantKnown[uint16](t, rows)
	wantKnown[own16](t, rows)
}

func TestKnown32(t *testing.T) {
	rows := []known{
		{0x3dcccccd, "1", 0}, {0x7f7fffff, "34028235", 39}, {0x00000001, "1", -44}, {0x4b800000, "16777216", 8}, {0x00000002, "3", -44}, {0x3f800000, "1", 1}, {0x3eaaaaab, "33333334", 0},
		{0x007fffff, "11754942", -37}, {0x00800000, "11754944", -37}, {0x7f7ffffe, "34028233", 39},
		// Two are as close: 2097152.25, 2097152.75.
		{0x4a000001, "20971522", 7}, {0x4a000003, "20971528", 7},
		// 9e9 and 3e10 lie halfway between two: they are read as the even ones.
		{0x50061c46, "9", 10}, {0x50061c47, "9000001", 10}, {0x50df8476, "3", 11}, {0x50df8475, "29999999", 11},
	}
	wantKnown[uint32](t, rows)
	wantKnown[own32](t, rows)
}

func TestKnown64(t *testing.T) {
	rows := []known{
		{0x3fb999999999999a, "1", 0}, {0x3fd5555555555555, "3333333333333333", 0}, {0x3ff0000000000000, "1", 1}, {0x400921fb54442d18, "3141592653589793", 1},
		{1, "5", -323}, {2, "1", -322}, {3, "15", -322}, {0x7fefffffffffffff, "17976931348623157", 309}, {0x000fffffffffffff, "2225073858507201", -307}, {0x0010000000000000, "22250738585072014", -307},
		// 1e23 and 7e22 lie halfway between two: they are read as the even ones.
		{0x44b52d02c7e14af6, "1", 24}, {0x44b52d02c7e14af7, "10000000000000001", 24}, {0x44ada56a4b0835c0, "7", 23}, {0x44ada56a4b0835bf, "69999999999999996", 23},
		{0x4340000000000000, "9007199254740992", 16}, {0x4340000000000001, "9007199254740994", 16},
		// Two are as close: a quarter, three quarters, 2 to the power of -44, 3 times that.
		{0x4310000000000001, "11258999068426242", 16}, {0x4310000000000003, "11258999068426248", 16}, {0x3d30000000000000, "5684341886080802", -13}, {0x3d48000000000000, "17053025658242404", -12},
	}
	wantKnown[uint64](t, rows)
	wantKnown[own64](t, rows)
}

func withoutDigits[T ieee.Bits](t *testing.T) {
	k := kindOf[T]()
	if got, ok := shortest.Digits(T(0)); got != (api.Digits{}) || !ok {
		t.Errorf("Digits of 0 = %v, %v", got, ok)
	}
	if got, ok := shortest.Digits(T(k.sign())); got != (api.Digits{Neg: true}) || !ok {
		t.Errorf("Digits of -0 = %v, %v", got, ok)
	}
	r := rule{7}
	normal := uint64(1) << k.fraction
	fractions := []uint64{0, 1, 2, normal/2 - 1, normal / 2, normal/2 + 1, normal - 2, normal - 1}
	for range 200 {
		fractions = append(fractions, r.next()%normal)
	}
	for _, f := range fractions {
		for _, x := range []T{T(k.infinite() + f), T(k.infinite() + f + k.sign())} {
			if got, ok := shortest.Digits(x); got != (api.Digits{}) || ok {
				t.Errorf("Digits(%#x) = %v, %v, want none", x, got, ok)
			}
		}
	}
}

// P6.1: the noughts, what is infinite, what is no number.
func TestWithoutDigits(t *testing.T) {
	widths(t, withoutDigits[uint16], withoutDigits[uint32], withoutDigits[uint64], withoutDigits[own16], withoutDigits[own32], withoutDigits[own64])
}

func byTheWords[T ieee.Bits](t *testing.T) {
	k := kindOf[T]()
	for _, x := range some[T]() {
		wantDigits[T](t, x, k.want(x))
	}
}

// P6.1, held against the document's words.
func TestByTheWords(t *testing.T) {
	widths(t, byTheWords[uint16], byTheWords[uint32], byTheWords[uint64], byTheWords[own16], byTheWords[own32], byTheWords[own64])
}

// readAll reads every decimal number with n digits and that Point, as they rise, and keeps of each pattern of 16 bits the best one, if none with fewer digits stands there yet.
func readAll(best []api.Digits, middles []list, unit amount, n, point int) {
	k := kindOf[uint16]()
	step := inUnits(amount{list{1}, 0, point - n}, unit)[0]
	first, _ := quot.Pow(10, n-1)
	value := nat.Mul(first, step)
	count, _ := nat.Uint(first)
	size := 0
	for d := count; d < 10*count; d++ {
		for size < len(middles) && (nat.Cmp(value, middles[size]) > 0 || size%2 == 1 && nat.Cmp(value, middles[size]) == 0) {
			size++
		}
		if size == len(middles) {
			return
		}
		it := api.Digits{Text: strconv.FormatUint(d, 10), Point: point}
		if old := best[size].Text; old == "" || len(old) == n && better(it, best[size], k.amountOf(uint64(size))) {
			best[size] = it
		}
		value = nat.Add(value, step)
	}
}

// P6.1: every pattern of 16 bits, against all decimal numbers with up to 5 digits.
func TestEvery16(t *testing.T) {
	const least, greatest, most = -8, 5, 5
	k := kindOf[uint16]()
	// So fine that all of them are whole numbers of it.
	unit := amount{list{1}, -k.taken, least - most}
	var middles []list
	for x := range k.infinite() {
		middles = append(middles, inUnits(k.middle(x), unit)[0])
	}
	best := make([]api.Digits, len(middles))
	for n := 1; n <= most; n++ {
		for point := least; point <= greatest; point++ {
			readAll(best, middles, unit, n, point)
		}
	}
	for x := range best {
		if x > 0 {
			wantDigits[uint16](t, uint64(x), best[x])
			wantDigits[own16](t, uint64(x), best[x])
		}
	}
}

// shown is what the language's own library tells of a float above 0.
func shown(f float64, width int) api.Digits {
	text, exponent, _ := strings.Cut(strconv.FormatFloat(f, 'e', -1, width), "e")
	n, _ := strconv.Atoi(exponent)
	return api.Digits{Text: strings.Replace(text, ".", "", 1), Point: n + 1}
}

func TestAsTheLanguage(t *testing.T) {
	r := rule{11}
	for i := range 20000 {
		x := r.next() % (0x7ff << 52)
		if i%2 == 0 {
			x &^= 1<<(r.next()%53) - 1
		}
		if y := x >> 32 % (0xff << 23); y > 0 {
			wantDigits[uint32](t, y, shown(float64(math.Float32frombits(uint32(y))), 32))
		}
		if x > 0 {
			wantDigits[uint64](t, x, shown(math.Float64frombits(x), 64))
		}
	}
}
