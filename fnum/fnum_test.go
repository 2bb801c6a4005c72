package fnum

import (
	"bytes"
	"encoding/binary"
	"fmt"
	"math"
	"math/big"
	"math/rand"
	"slices"
	"strconv"
	"testing"
)

const theNaN = 0x7ff8000000000001

var negZero = math.Copysign(0, -1)

// nans are some of the many: quiet, signalling, with the sign set, with all bits set.
func nans() []float64 {
	var l []float64
	for _, b := range []uint64{theNaN, 0x7ff8000000000000, 0x7ff0000000000001, 0x7fffffffffffffff, 0xfff8000000000001, 0xfff0000000000001, 0xffffffffffffffff} {
		l = append(l, math.Float64frombits(b))
	}
	return l
}

// rising are numbers from one end of the order to the other, without the NaN.
func rising() []float64 {
	return []float64{
		math.Inf(-1), -math.MaxFloat64, -1e300, -0x1p53 - 2, -0x1p53, -2, -1.5, -1, -0.5, -0x1p-1021, -0x1p-1022,
		-(0x1p-1022 - 0x1p-1074), -0x1p-1073, -0x1p-1074, negZero,
		0, 0x1p-1074, 0x1p-1073, 0x1p-1022 - 0x1p-1074,
		0x1p-1022, 0x1p-1021, 0.5, 1, 1.5, 2, 0x1p53, 0x1p53 + 2, 1e300, math.MaxFloat64, math.Inf(1),
	}
}

// drawn are numbers with bits of all kinds, the same ones in each run.
func drawn(n int) []float64 {
	r := rand.New(rand.NewSource(7))
	var l []float64
	for range n {
		l = append(l, math.Float64frombits(r.Uint64()), float64(r.Intn(2000)-1000), math.Float64frombits(r.Uint64()&(1<<63|1<<52-1)))
	}
	return l
}

func same(a, b float64) bool {
	return Bits(a) == Bits(b)
}

func sameList(a, b []float64) bool {
	return slices.EqualFunc(a, b, same)
}

func TestP1_1Bits(t *testing.T) {
	for _, x := range nans() {
		if b := Bits(x); b != theNaN {
			t.Errorf("Bits of a NaN: %x", b)
		}
	}
	for _, x := range append(rising(), drawn(100)...) {
		if b := Bits(x); !math.IsNaN(x) && b != math.Float64bits(x) {
			t.Errorf("Bits(%v) = %x", x, b)
		}
	}
	if Bits(0) != 0 || Bits(negZero) != 1<<63 || Bits(1) != 0x3ff0000000000000 || Bits(math.Inf(-1)) != 0xfff0000000000000 {
		t.Error("Bits of plain numbers")
	}
}

func TestP1_1Class(t *testing.T) {
	for _, c := range []struct {
		x    float64
		want int
	}{
		{0, 0}, {0x1p-1074, 1}, {0x1p-1023, 1}, {0x1p-1022 - 0x1p-1074, 1}, {0x1p-1022, 2}, {0.5, 2}, {1, 2}, {1e300, 2}, {math.MaxFloat64, 2}, {math.Inf(1), 3},
	} {
		if neg, k := Class(c.x); neg || k != c.want {
			t.Errorf("Class(%v) = %v, %d", c.x, neg, k)
		}
		if neg, k := Class(-c.x); c.x != 0 && (!neg || k != c.want) {
			t.Errorf("Class(%v) = %v, %d", -c.x, neg, k)
		}
	}
	if neg, k := Class(negZero); !neg || k != Zero {
		t.Errorf("Class(-0) = %v, %d", neg, k)
	}
	for _, x := range nans() {
		if neg, k := Class(x); neg || k != NaN {
			t.Errorf("Class of NaN %x = %v, %d", math.Float64bits(x), neg, k)
		}
	}
	if Zero != 0 || Subnormal != 1 || Normal != 2 || Infinite != 3 || NaN != 4 {
		t.Error("the classes' numbers")
	}
}

func TestP1_2Cmp(t *testing.T) {
	l := append(rising(), math.NaN())
	for i, a := range l {
		for j, b := range l {
			want := 0
			if i < j {
				want = -1
			} else if i > j {
				want = 1
			}
			if c := Cmp(a, b); c != want {
				t.Errorf("Cmp(%v, %v) = %d", a, b, c)
			}
		}
	}
	for _, a := range nans() {
		for _, b := range nans() {
			if c := Cmp(a, b); c != 0 {
				t.Errorf("Cmp of two NaNs = %d", c)
			}
		}
		if Cmp(a, math.Inf(1)) != 1 || Cmp(a, math.Inf(-1)) != 1 || Cmp(0, a) != -1 {
			t.Errorf("NaN %x isn't last", math.Float64bits(a))
		}
	}
}

func TestP1_2Sort(t *testing.T) {
	want := append(rising(), nans()...)
	mixed := slices.Clone(want)
	r := rand.New(rand.NewSource(3))
	for range 50 {
		r.Shuffle(len(mixed), func(i, j int) { mixed[i], mixed[j] = mixed[j], mixed[i] })
		if got := Sort(mixed); !sameList(got, want) {
			t.Fatalf("Sort(%v) = %v", mixed, got)
		}
	}
	if got := Sort([]float64{2, negZero, 0, 2, 0, negZero, -2, 2}); !sameList(got, []float64{-2, negZero, negZero, 0, 0, 2, 2, 2}) {
		t.Errorf("with some twice: %v", got)
	}
	if len(Sort(nil)) != 0 || len(Sort([]float64{})) != 0 || !sameList(Sort([]float64{5}), []float64{5}) {
		t.Error("of none, of one")
	}
	many := drawn(1000)
	got := Sort(many)
	if len(got) != len(many) || !slices.IsSortedFunc(got, Cmp) {
		t.Error("of many")
	}
}

func TestP1_2Ends(t *testing.T) {
	for _, l := range [][]float64{{7}, {0, negZero}, {negZero, 0}, {3, -1, 2}, {1, 2, 3}, {3, 2, 1}, {math.NaN()}, {math.NaN(), 1}, {1, math.NaN(), -1, math.Inf(1)}, {math.Inf(-1), math.NaN()}, drawn(50)} {
		first, last, ok := Ends(l)
		s := Sort(l)
		if !ok || !same(first, s[0]) || !same(last, s[len(s)-1]) {
			t.Errorf("Ends(%v) = %v, %v, %v", l, first, last, ok)
		}
	}
	for _, l := range [][]float64{nil, {}} {
		if first, last, ok := Ends(l); ok || Bits(first) != 0 || Bits(last) != 0 {
			t.Errorf("Ends of none = %v, %v, %v", first, last, ok)
		}
	}
}

func TestP1_2Clamp(t *testing.T) {
	nan := math.NaN()
	for _, c := range []struct{ x, lo, hi, want float64 }{
		{5, 1, 9, 5}, {0, 1, 9, 1}, {10, 1, 9, 9}, {1, 1, 9, 1}, {9, 1, 9, 9},
		{5, 9, 1, 1}, {0, 9, 1, 1}, {10, 9, 1, 1}, {0, 9, 10, 9},
		{negZero, 0, 1, 0}, {0, -1, negZero, negZero}, {negZero, negZero, 0, negZero},
		{nan, 1, 9, 9}, {5, nan, 9, 9}, {5, 1, nan, 5}, {5, nan, nan, nan}, {nan, 1, nan, nan},
		{math.Inf(-1), -3, 3, -3}, {math.Inf(1), -3, 3, 3}, {math.Inf(1), math.Inf(-1), math.Inf(1), math.Inf(1)},
	} {
		if got := Clamp(c.x, c.lo, c.hi); !same(got, c.want) {
			t.Errorf("Clamp(%v, %v, %v) = %v", c.x, c.lo, c.hi, got)
		}
	}
}

func TestP1_3Key(t *testing.T) {
	for _, c := range []struct {
		x    float64
		want uint64
	}{
		{0, 0x8000000000000000}, {negZero, 0x7fffffffffffffff}, {1, 0xbff0000000000000}, {-1, 0x400fffffffffffff}, {math.Inf(1), 0xfff0000000000000}, {math.Inf(-1), 0x000fffffffffffff},
	} {
		if k := Key(c.x); !bytes.Equal(k, binary.BigEndian.AppendUint64(nil, c.want)) {
			t.Errorf("Key(%v) = %x", c.x, k)
		}
	}
	for _, x := range nans() {
		if k := Key(x); !bytes.Equal(k, []byte{0xff, 0xf8, 0, 0, 0, 0, 0, 1}) {
			t.Errorf("Key of NaN %x = %x", math.Float64bits(x), k)
		}
	}
	l := append(append(rising(), math.NaN()), drawn(40)...)
	for _, a := range l {
		for _, b := range l {
			if bytes.Compare(Key(a), Key(b)) != Cmp(a, b) {
				t.Errorf("the keys of %v and %v are not in their order", a, b)
			}
		}
	}
}

func TestP1_3Unkey(t *testing.T) {
	for _, x := range append(append(rising(), nans()...), drawn(100)...) {
		if y, ok := Unkey(Key(x)); !ok || !same(x, y) {
			t.Errorf("Unkey(Key(%v)) = %v, %v", x, y, ok)
		}
	}
	wrong := [][]byte{nil, {}, {0x80}, make([]byte, 7), make([]byte, 9), append(Key(1), 0), Key(1)[:7]}
	for _, k := range []uint64{0xfff8000000000000, 0xfff8000000000002, 0xfff0000000000001, 0xffffffffffffffff, 0x000ffffffffffffe, 0x0007ffffffffffff, 0x0007fffffffffffe, 0} {
		wrong = append(wrong, binary.BigEndian.AppendUint64(nil, k))
	}
	for _, k := range wrong {
		if x, ok := Unkey(k); ok || Bits(x) != 0 {
			t.Errorf("Unkey(%x) = %v, %v", k, x, ok)
		}
	}
}

func TestP1_4Total(t *testing.T) {
	inf, nan := math.Inf(1), math.NaN()
	for _, c := range []struct {
		l    []float64
		want float64
	}{
		{nil, 0}, {[]float64{}, 0}, {[]float64{negZero}, 0}, {[]float64{negZero, negZero}, 0}, {[]float64{1, 2, 3.5}, 6.5},
		{[]float64{1e308, 1e308, -inf}, -inf}, {[]float64{inf, -inf}, nan}, {[]float64{1, nan, 2}, nan}, {[]float64{1e308, 1e308}, inf},
		{[]float64{-1e308, -1e308, inf}, nan},            // the least first: -Inf before +Inf comes
		{[]float64{0x1p53, 1, 1}, 0x1p53 + 2},            // the least first
		{[]float64{1, 0x1p53, 1}, 0x1p53 + 2},            // so it doesn't hang on the list's order
		{[]float64{0x1p53, 1, -0x1p53}, 1},               // nothing is lost below
		{[]float64{0.5, -0x1p53, 0x1p53, 0.5}, 0},        // but here it is
		{[]float64{-0x1p-1074, 0x1p-1074}, 0},            // +0
		{[]float64{0x1p-1074, 0x1p-1074}, 2 * 0x1p-1074}, // subnormals aren't flushed
		{[]float64{0.1, 0.2, 0.3}, sum(0.1, 0.2, 0.3)},
		{[]float64{0.3, 0.2, 0.1}, sum(0.1, 0.2, 0.3)},
		{[]float64{0.7, 0.1, 0.2}, sum(0.1, 0.2, 0.7)},
		{[]float64{0.7, 0.1, -0.2}, sum(-0.2, 0.1, 0.7)},
		{[]float64{-0.3, -0.1, 9}, sum(-0.3, -0.1, 9)},
		{[]float64{9, -0.1, -0.3}, sum(-0.3, -0.1, 9)},
		{[]float64{math.MaxFloat64, 1}, math.MaxFloat64},
		{[]float64{-math.MaxFloat64, -1}, -math.MaxFloat64},
	} {
		if got := Total(c.l); !same(got, c.want) {
			t.Errorf("Total(%v) = %v, not %v", c.l, got, c.want)
		}
	}
	l := []float64{1e16, 1, -1e16, 0.3, -7e-3, 2e5, 1 / 3.0, -1e9, 1e16}
	want := sum(Sort(l)...)
	r := rand.New(rand.NewSource(5))
	for range 50 {
		r.Shuffle(len(l), func(i, j int) { l[i], l[j] = l[j], l[i] })
		if got := Total(l); !same(got, want) {
			t.Fatalf("Total(%v) = %v, not %v", l, got, want)
		}
	}
}

func sum(l ...float64) float64 {
	s := 0.0
	for _, x := range l {
		s = float64(s + x)
	}
	return s
}

func TestP1_4Ratio(t *testing.T) {
	inf := math.Inf(1)
	for _, c := range []struct {
		n, d int
		want float64
	}{
		{1, 2, 0.5}, {-1, 2, -0.5}, {1, -2, -0.5}, {-6, -2, 3}, {7, 1, 7}, {0, 5, 0}, {0, -5, negZero},
		{0, 0, math.NaN()}, {1, 0, inf}, {-1, 0, -inf}, {math.MaxInt, 0, inf}, {math.MinInt, 0, -inf},
		{1<<53 + 1, 1, 0x1p53}, {1<<53 + 3, 1, 0x1p53 + 4}, {math.MaxInt, 1, 0x1p63}, {math.MinInt, 1, -0x1p63}, {math.MinInt, -1, 0x1p63}, {math.MaxInt, math.MaxInt, 1}, {1, 1<<53 + 1, 0x1p-53},
	} {
		if got := Ratio(c.n, c.d); !same(got, c.want) {
			t.Errorf("Ratio(%d, %d) = %v", c.n, c.d, got)
		}
	}
	for n := -20; n <= 20; n++ {
		for d := 1; d <= 20; d++ {
			if want, _ := big.NewRat(int64(n), int64(d)).Float64(); !same(Ratio(n, d), want) {
				t.Errorf("Ratio(%d, %d) = %v, not %v", n, d, Ratio(n, d), want)
			}
		}
	}
}

func TestP1_5Whole(t *testing.T) {
	for _, n := range []int{0, 1, -1, 2, 77, -77, 1 << 31, -1 << 31, 1 << 32, 1<<53 - 1, 1 << 53, -1<<53 + 1, -1 << 53} {
		if got, ok := Whole(float64(n)); !ok || got != n {
			t.Errorf("Whole(%d) = %d, %v", n, got, ok)
		}
	}
	if got, ok := Whole(negZero); !ok || got != 0 {
		t.Errorf("Whole(-0) = %d, %v", got, ok)
	}
	for _, x := range append(nans(), 0.5, -0.5, 1.5, 0.9999999999999999, 0x1p52-0.5, 0x1p-1074, -0x1p-1074, 0x1p53+2, -0x1p53-2, 0x1p63, -0x1p63, 0x1p64, 1e300, -1e300, math.MaxFloat64, math.Inf(1), math.Inf(-1)) {
		if got, ok := Whole(x); ok || got != 0 {
			t.Errorf("Whole(%v) = %d, %v", x, got, ok)
		}
	}
}

func TestP1_5Show(t *testing.T) {
	for _, c := range []struct {
		x    float64
		want string
	}{
		{math.Inf(1), "inf"}, {math.Inf(-1), "-inf"}, {0, "0"}, {negZero, "-0"}, {1, "1"}, {-1, "-1"}, {10, "10"}, {-250, "-250"},
		{0x1p53, "9007199254740992"}, {-0x1p53, "-9007199254740992"}, {0x1p53 - 1, "9007199254740991"},
		{0x1p53 + 2, "~4340000000000001"}, {-0x1p53 - 2, "~c340000000000001"},
		{0.5, "~3fe0000000000000"}, {-0.5, "~bfe0000000000000"}, {0x1p-1074, "~0000000000000001"}, {-0x1p-1074, "~8000000000000001"}, {math.MaxFloat64, "~7fefffffffffffff"},
		{math.Float64frombits(0x00a1b2c3d4e5f678), "~00a1b2c3d4e5f678"},
	} {
		if s := Show(c.x); s != c.want {
			t.Errorf("Show(%v) = %q, not %q", c.x, s, c.want)
		}
	}
	for _, x := range nans() {
		if s := Show(x); s != "nan" {
			t.Errorf("Show of NaN %x = %q", math.Float64bits(x), s)
		}
	}
	for _, x := range drawn(100) {
		want := fmt.Sprintf("~%016x", Bits(x))
		if n, ok := Whole(x); ok && Bits(x) != 1<<63 {
			want = strconv.Itoa(n)
		} else if Bits(x) == 1<<63 {
			want = "-0"
		} else if math.IsNaN(x) {
			want = "nan"
		}
		if s := Show(x); s != want {
			t.Errorf("Show(%v) = %q, not %q", x, s, want)
		}
	}
}

func TestP1_5Read(t *testing.T) {
	for _, x := range append(append(rising(), nans()...), drawn(200)...) {
		if y, ok := Read(Show(x)); !ok || !same(x, y) {
			t.Errorf("Read(%q) = %v, %v", Show(x), y, ok)
		}
	}
	for _, s := range []string{
		"", " ", "NaN", "NAN", "+nan", "-nan", "nan ", " nan", "Inf", "+inf", "-Inf", "infinity", "+0", "--0", "-00", "00", "01", "-01", "+1", "1 ", " 1", "1.0", "1.", "1e3", "0x10", "1_000", "0b1", "--1", "-", "a", "\x00", "1\x00", "٣",
		"9007199254740993", "-9007199254740993", "9007199254740994", "9223372036854775807", "-9223372036854775808", "9223372036854775808", "100000000000000000000000000000", "0.5", "-0.5",
		"~", "~~", "~3fe000000000000", "~3fe00000000000000", "~3FE0000000000000", "~3fE0000000000000", "~ 3fe000000000000", "~+fe0000000000000", "~0x3fe0000000000", "~3fe_000000000000", "~3fe0000000000000 ", "~3fe000000000000g", "3fe0000000000000", "~-3fe000000000000",
		"~3ff0000000000000", "~0000000000000000", "~8000000000000000", "~4340000000000000", "~c340000000000000", "~7ff0000000000000", "~fff0000000000000", "~7ff8000000000001", "~7ff8000000000000", "~7ff0000000000001", "~fff8000000000001", "~ffffffffffffffff",
	} {
		if x, ok := Read(s); ok || Bits(x) != 0 {
			t.Errorf("Read(%q) = %v, %v", s, x, ok)
		}
	}
}

func TestP1_6Unchanged(t *testing.T) {
	calls := map[string]func(l []float64){
		"Sort":  func(l []float64) { Sort(l) },
		"Ends":  func(l []float64) { Ends(l) },
		"Total": func(l []float64) { Total(l) },
	}
	for name, call := range calls {
		all := []float64{3, math.Float64frombits(0xfff8000000000007), negZero, 1, 0, -2, 9, -9}
		want := make([]uint64, len(all))
		for i, x := range all {
			want[i] = math.Float64bits(x)
		}
		call(all[:5]) // the rest is spare room
		for i, x := range all {
			if math.Float64bits(x) != want[i] {
				t.Errorf("%s changed place %d", name, i)
			}
		}
	}
	all := append(Key(-2), 1, 2)
	want := bytes.Clone(all)
	Unkey(all[:8])
	if !bytes.Equal(all, want) {
		t.Error("Unkey changed its bytes")
	}
}

func TestP1_6NewMemory(t *testing.T) {
	for _, l := range [][]float64{{1}, {1, 2, 3}, {3, 2, 1}} { // in order, too
		want := Sort(l)
		got := Sort(l)
		got[0] = 77
		got = append(got[:1], 88, 99)
		if l[0] == 77 || !sameList(Sort(l), want) || want[0] == 77 {
			t.Errorf("Sort shares memory: %v, %v", l, got)
		}
	}
	spare := []float64{1, 2, 3}
	if got := append(Sort(spare[:0]), 77); spare[0] == 77 {
		t.Errorf("Sort of none shares memory: %v", got)
	}
	a, b := Key(1), Key(1)
	a[0] = 0
	if b[0] != 0xbf || Key(1)[0] != 0xbf {
		t.Error("Key shares memory")
	}
}
