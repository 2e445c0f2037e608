package decimal_test

import (
	"math"
	"strconv"
	"strings"
	"testing"

	"crucible/api"
	"crucible/decimal"
	"crucible/ieee"
)

type known struct {
	text  string
	point int
	want  uint64
}

func wantKnown[T ieee.Bits](t *testing.T, rows []known) {
	t.Helper()
	for _, c := range rows {
		wantRead[T](t, api.Digits{Text: c.text, Point: c.point}, c.want)
	}
}

// P7.1 at what the document names, and at numbers that are known to be hard.
func TestKnownRead16(t *testing.T) {
	rows := []known{
		{"65519", 5, 0x7bff}, {"65520", 5, 0x7c00}, {"2049", 4, 0x6800}, {"20490000000000000000000000000000000000000001", 4, 0x6801},
		{"65504", 5, 0x7bff}, {"6551999999999999999999999", 5, 0x7bff}, {"6552000000000000000000001", 5, 0x7c00}, {"99999", 5, 0x7c00},
		{"2048", 4, 0x6800}, {"20489999999999999999", 4, 0x6800}, {"2051", 4, 0x6802}, {"20509999999999999999", 4, 0x6801},
		// Halfway to the least one, and to that behind it.
		{"298023223876953125", -7, 0}, {"2980232238769531249", -7, 0}, {"2980232238769531251", -7, 1}, {"894069671630859375", -7, 2}, {"8940696716308593749", -7, 1},
		// The greatest subnormal one, the least normal one.
		{"609755516052246094", -4, 0x03ff}, {"61035", -4, 0x0400}, {"6103515625", -4, 0x0400},
		{"1", 0, 0x2e66}, {"1", 1, 0x3c00}, {"", 0, 0}, {"", 7, 0}, {"0", 9, 0}, {"000", -9, 0},
	}
	wantKnown[uint16](t, rows)
	wantKnown[own16](t, rows)
}

func TestKnownRead32(t *testing.T) {
	rows := []known{
		{"1", 0, 0x3dcccccd}, {"16777217", 8, 0x4b800000}, {"16777219", 8, 0x4b800002}, {"167772170000000000000001", 8, 0x4b800001},
		{"34028235", 39, 0x7f7fffff}, {"340282356779733661637539395458142568447", 39, 0x7f7fffff}, {"340282356779733661637539395458142568448", 39, 0x7f800000}, {"1", 40, 0x7f800000},
		{"1", -44, 1}, {"70064923216240853546186479164495806564013097093825788587853414194489554134293030074331909418106079101562", -45, 0},
		{"700649232162408535461864791644958065640130970938257885878534141944895541342930300743319094181060791015625", -45, 0},
		{"700649232162408535461864791644958065640130970938257885878534141944895541342930300743319094181060791015626", -45, 1},
		{"11754942", -37, 0x007fffff}, {"11754944", -37, 0x00800000}, {"", 7, 0}, {"00", 7, 0},
	}
	wantKnown[uint32](t, rows)
	wantKnown[own32](t, rows)
}

func TestKnownRead64(t *testing.T) {
	rows := []known{
		{"1", 0, 0x3fb999999999999a}, {"1", 1, 0x3ff0000000000000}, {"5", 1, 0x4014000000000000}, {"", 7, 0}, {"000", 7, 0},
		{"01", 1, 0x3fb999999999999a}, {"10", 0, 0x3fb999999999999a}, {"0010", 2, 0x3fb999999999999a},
		{"17976931348623157", 309, 0x7fefffffffffffff}, {"17976931348623158", 309, 0x7fefffffffffffff}, {"17976931348623159", 309, 0x7ff0000000000000}, {"1", most, 0x7ff0000000000000},
		{"1", 309, 0x7fe1ccf385ebc8a0}, {"1", 310, 0x7ff0000000000000},
		{"5", -323, 1}, {"2", -323, 0}, {"3", -323, 1}, {"1", least, 0}, {"24703282292062327", -323, 0}, {"24703282292062328", -323, 1},
		{"22250738585072011", -307, 0x000fffffffffffff}, {"22250738585072012", -307, 0x0010000000000000}, {"22250738585072014", -307, 0x0010000000000000},
		{"1", 24, 0x44b52d02c7e14af6}, {"7", 23, 0x44ada56a4b0835c0}, {"9007199254740993", 16, 0x4340000000000000}, {"90071992547409930000000001", 16, 0x4340000000000001}, {"9007199254740995", 16, 0x4340000000000002},
	}
	wantKnown[uint64](t, rows)
	wantKnown[own64](t, rows)
}

func noDecimal[T ieee.Bits](t *testing.T) {
	long := strings.Repeat("123456789", 200)
	for c := range 256 {
		if '0' <= c && c <= '9' {
			continue
		}
		wrong := string([]byte{byte(c)})
		for _, text := range []string{wrong, wrong + "1", "1" + wrong, "1" + wrong + "2", "0" + wrong, wrong + "0", long + wrong, wrong + long, long + wrong + long, strings.Repeat("0", 900) + wrong} {
			for _, point := range []int{0, 3, least, most} {
				for _, neg := range []bool{false, true} {
					if got, ok := decimal.Read[T](api.Digits{Neg: neg, Text: text, Point: point}); got != 0 || ok {
						t.Errorf("Read(%v %q %d) = %#x, %v", neg, text[:min(len(text), 10)], point, got, ok)
					}
				}
			}
		}
	}
	for _, text := range []string{"1a", " 1", "-1", "+1", "1.5", "1e5", "Inf", "NaN", "0x1", "1_0", "é", "١", "１", "\xed\xa0\x80", "\xff\xfe", "1\x00"} {
		if got, ok := decimal.Read[T](api.Digits{Text: text}); got != 0 || ok {
			t.Errorf("Read(%q) = %#x, %v", text, got, ok)
		}
	}
}

// P7.1, R2: a byte that is no digit, at the beginning, in the middle, at the end.
func TestReadNoDecimal(t *testing.T) {
	widths(t, noDecimal[uint16], noDecimal[uint32], noDecimal[uint64], noDecimal[own16], noDecimal[own32], noDecimal[own64])
}

func farPoints[T ieee.Bits](t *testing.T) {
	inf := kindOf[T]().infinite()
	noughts := strings.Repeat("0", 2000)
	long := strings.Repeat("9", 2000)
	for _, text := range []string{"1", "9", "01", "0009", long, noughts + "1", noughts + long, "1" + noughts, noughts + "1" + noughts} {
		for _, far := range []int{most, most - 1, most - 2000, most / 2, 1 << 40} {
			wantRead[T](t, api.Digits{Text: text, Point: far}, inf)
		}
		for _, far := range []int{least, least + 1, least + 2000, least + 2001, least / 2, -1 << 40} {
			wantRead[T](t, api.Digits{Text: text, Point: far}, 0)
		}
	}
	for _, text := range []string{"", "0", noughts} {
		for _, point := range []int{most, least, 0, 309, -323} {
			wantRead[T](t, api.Digits{Text: text, Point: point}, 0)
		}
	}
}

// P7.1: the greatest and the least Point, with noughts ahead and behind too.
func TestReadFarPoints(t *testing.T) {
	widths(t, farPoints[uint16], farPoints[uint32], farPoints[uint64], farPoints[own16], farPoints[own32], farPoints[own64])
}

func eachPower[T ieee.Bits](t *testing.T) {
	k := kindOf[T]()
	for point := -420; point <= 420; point++ {
		for _, text := range []string{"1", "10000000000000000000000000000001", "9", "99999999999999999999999999999999999"} {
			d := api.Digits{Text: text, Point: point}
			got, ok := decimal.Read[T](d)
			if !ok || !k.isNearest(size(d), uint64(got)) {
				t.Errorf("Read(%s) = %#x, %v: not the nearest", show(d), got, ok)
			}
		}
	}
}

// P7.1: every power of 10, from those that are nearest to 0 up to the infinite ones, and what stands about it.
func TestReadEachPower(t *testing.T) {
	widths(t, eachPower[uint16], eachPower[uint32], eachPower[uint64], eachPower[own16], eachPower[own32], eachPower[own64])
}

// wantHalfway asks at the number halfway behind x, and a little below and above it.
func wantHalfway[T ieee.Bits](t *testing.T, x uint64, apart ...int) {
	t.Helper()
	d := kindOf[T]().middle(x).inDigits()
	wantRead[T](t, d, x+x%2)
	for _, n := range apart {
		wantRead[T](t, below(d, n), x)
		wantRead[T](t, above(d, n), x+1)
	}
}

func halfway[T ieee.Bits](t *testing.T) {
	for _, x := range some[T]() {
		wantHalfway[T](t, x, 1, 40, 900)
	}
	for _, x := range edges[T]() {
		wantHalfway[T](t, x, 2, 800, 801, 802, 5000)
	}
	for _, x := range []uint64{0, kindOf[T]().infinite() - 1} {
		wantHalfway[T](t, x, 100000)
	}
}

// P7.1: halfway between two patterns, a little below and above; halfway to the least one, and behind the greatest.
func TestReadHalfway(t *testing.T) {
	widths(t, halfway[uint16], halfway[uint32], halfway[uint64], halfway[own16], halfway[own32], halfway[own64])
}

// P7.1: behind every pattern of 16 bits.
func TestReadHalfwayEvery16(t *testing.T) {
	for x := range kindOf[uint16]().infinite() {
		wantHalfway[uint16](t, x, 1, 30)
		wantHalfway[own16](t, x, 3)
	}
}

func byTheWords[T ieee.Bits](t *testing.T) {
	k := kindOf[T]()
	r := rule{uint64(k.fraction) + 3}
	for i := range 1500 {
		n := 1 + int(r.next()%40)
		if i%10 == 0 {
			n = 1 + int(r.next()%2000)
		}
		low, high := -k.taken*3/10-4, 1<<k.exponent*3/20+4
		d := api.Digits{Text: r.text(n), Point: low + int(r.next()%uint64(high-low))}
		got, ok := decimal.Read[T](d)
		if !ok || !k.isNearest(size(d), uint64(got)) {
			t.Errorf("Read(%s) = %#x, %v: not the nearest", show(d), got, ok)
		}
		wantRead[T](t, d, uint64(got))
	}
}

// P7.1, held against the document's words.
func TestReadByTheWords(t *testing.T) {
	widths(t, byTheWords[uint16], byTheWords[uint32], byTheWords[uint64], byTheWords[own16], byTheWords[own32], byTheWords[own64])
}

// P7.1, held against what the language's own library reads.
func TestReadAsTheLanguage(t *testing.T) {
	r := rule{21}
	for i := range 20000 {
		d := api.Digits{Text: r.text(1 + int(r.next()%25)), Point: int(r.next()%660) - 340}
		if i%2 == 0 {
			d.Point = int(r.next()%90) - 50
		}
		shown := "0." + d.Text + "e" + strconv.Itoa(d.Point)
		f, _ := strconv.ParseFloat(shown, 64)
		wantRead[uint64](t, d, math.Float64bits(f))
		f, _ = strconv.ParseFloat(shown, 32)
		wantRead[uint32](t, d, uint64(math.Float32bits(float32(f))))
	}
}
