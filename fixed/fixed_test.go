package fixed

import (
	"math"
	"math/big"
	"slices"
	"testing"

	"squelch/api"
)

// P5.1

func TestSat(t *testing.T) {
	for _, x := range []struct{ v, bits, want int }{
		{40000, 16, 32767},
		{-40000, 16, -32768},
		{-7, 16, -7},
		{0, 16, 0},
		{32767, 16, 32767},
		{32768, 16, 32767},
		{-32768, 16, -32768},
		{-32769, 16, -32768},
		{127, 8, 127},
		{128, 8, 127},
		{-129, 8, -128},
		{0, 1, 0},
		{1, 1, 0},
		{-1, 1, -1},
		{-2, 1, -1},
		{1, 2, 1},
		{2, 2, 1},
		{-2, 2, -2},
		{-3, 2, -2},
		{1<<61 - 1, 62, 1<<61 - 1},
		{1 << 61, 62, 1<<61 - 1},
		{-1 << 61, 62, -1 << 61},
		{-1<<61 - 1, 62, -1 << 61},
		{math.MaxInt, 62, 1<<61 - 1},
		{math.MinInt, 62, -1 << 61},
		{math.MaxInt, 16, 32767},
		{math.MinInt, 16, -32768},
	} {
		if got := Sat(x.v, x.bits); got != x.want {
			t.Errorf("%d in %d bits: got %d; want %d", x.v, x.bits, got, x.want)
		}
	}
}

func TestSatAtBothEndsOfEachWidth(t *testing.T) {
	for bits := 1; bits <= 62; bits++ {
		least, most := -1<<(bits-1), 1<<(bits-1)-1
		for _, x := range []struct{ v, want int }{
			{least, least},
			{least - 1, least},
			{most, most},
			{most + 1, most},
			{math.MinInt, least},
			{math.MaxInt, most},
			{0, 0},
			{-1, -1},
		} {
			if got := Sat(x.v, bits); got != x.want {
				t.Errorf("%d in %d bits: got %d; want %d", x.v, bits, got, x.want)
			}
		}
	}
}

func TestSatOfFewerBitsThanOneAndOfMoreThan62(t *testing.T) {
	for _, bits := range []int{0, -1, -2, -62, -63, -64, -1 << 40, math.MinInt + 1, math.MinInt} {
		for _, v := range []int{0, 1, -1, 5, -5, math.MaxInt, math.MinInt} {
			want := 0
			if v < 0 {
				want = -1
			}
			if got := Sat(v, bits); got != want {
				t.Errorf("%d in %d bits: got %d; want %d", v, bits, got, want)
			}
		}
	}
	for _, bits := range []int{63, 64, 65, 99, 128, 1 << 40, math.MaxInt} {
		for _, x := range []struct{ v, want int }{
			{1<<61 - 1, 1<<61 - 1},
			{1 << 61, 1<<61 - 1},
			{1 << 62, 1<<61 - 1},
			{math.MaxInt, 1<<61 - 1},
			{-1 << 61, -1 << 61},
			{-1<<61 - 1, -1 << 61},
			{math.MinInt, -1 << 61},
			{7, 7},
			{-7, -7},
		} {
			if got := Sat(x.v, bits); got != x.want {
				t.Errorf("%d in %d bits: got %d; want %d", x.v, bits, got, x.want)
			}
		}
	}
}

func TestSatOfManyNumbers(t *testing.T) {
	for _, bits := range widths() {
		for _, v := range numbers() {
			if got, want := Sat(v, bits), narrow(satOf(wide(v), bits)); got != want {
				t.Errorf("%d in %d bits: got %d; want %d", v, bits, got, want)
			}
		}
	}
}

func TestAdd(t *testing.T) {
	for _, x := range []struct {
		what string
		bits int
		l    []int
		want int
	}{
		{"none", 8, nil, 0},
		{"none at all", 8, []int{}, 0},
		{"one", 8, []int{5}, 5},
		{"three", 16, []int{100, 100, -50}, 150},
		{"held on the way", 8, []int{100, 100, -50}, 77},
		{"the same in another order", 8, []int{100, -50, 100}, 127},
		{"held below on the way", 8, []int{-100, -100, 50}, -78},
		{"held twice", 8, []int{200, -300, 1}, -127},
		{"just not held", 8, []int{100, 27, -127, -128}, -128},
		{"one beyond", 8, []int{100, 28, -127, -129, 1}, -127},
		{"of one bit", 1, []int{1, 1, -1, 1}, 0},
		{"of one bit, below", 1, []int{-1, -1}, -1},
		{"of fewer bits", 0, []int{5, -1}, -1},
		{"of far fewer bits", math.MinInt, []int{5, -9}, -1},
		{"of 62 bits", 62, []int{1<<61 - 2, 1}, 1<<61 - 1},
		{"of 62 bits, beyond", 62, []int{1<<61 - 1, 1, -1}, 1<<61 - 2},
		{"of 62 bits, below", 62, []int{-1 << 61, -1, 1}, -1<<61 + 1},
		{"of more bits", 63, []int{1<<61 - 1, 1<<61 - 1}, 1<<61 - 1},
		{"of far more bits", math.MaxInt, []int{-1 << 61, -1 << 61}, -1 << 61},
		{"2^61", 62, []int{1 << 61}, 1<<61 - 1},
		{"2^61, and back", 62, []int{1 << 61, -1 << 61}, -1},
		{"below -2^61, and back", 62, []int{-1<<61 - 1, 1 << 61}, -1},
		{"-2^61, and twice as much back", 62, []int{-1 << 61, 1 << 62}, -1},
		{"2^61 less 1, and more than that back", 62, []int{1<<61 - 1, -1 << 62}, -1},
		{"2^62", 8, []int{1 << 62}, 127},
		{"the greatest", 62, []int{math.MaxInt}, 1<<61 - 1},
		{"the least", 62, []int{math.MinInt}, -1 << 61},
		{"the greatest ones", 62, []int{math.MaxInt, math.MaxInt, math.MaxInt, math.MaxInt}, 1<<61 - 1},
		{"the least ones", 62, []int{math.MinInt, math.MinInt, math.MinInt, math.MinInt}, -1 << 61},
		{"the least and the greatest", 62, []int{math.MinInt, math.MaxInt}, -1},
		{"the greatest and the least", 16, []int{math.MaxInt, math.MinInt, 3}, -32765},
	} {
		if got := Add(x.bits, x.l...); got != x.want {
			t.Errorf("%s: got %d; want %d", x.what, got, x.want)
		}
	}
}

func TestAddOfManyNumbers(t *testing.T) {
	d := dice(3)
	for _, bits := range widths() {
		for n := range 40 {
			l := make([]int, n)
			for i := range l {
				l[i] = d.number()
			}
			was := slices.Clone(l)
			if got, want := Add(bits, l...), addOf(bits, l); got != want {
				t.Errorf("%v in %d bits: got %d; want %d", l, bits, got, want)
			}
			if !slices.Equal(l, was) {
				t.Errorf("%v in %d bits: changed to %v", was, bits, l)
			}
		}
	}
}

func TestClip(t *testing.T) {
	l := []int{0, 1, -1, 32767, 32768, -32768, -32769, 1 << 40, -1 << 40, math.MaxInt, math.MinInt, 65536, -65536, 9, 100, -2000}
	want := api.Pcm{0, 1, -1, 32767, 32767, -32768, -32768, 32767, -32768, 32767, -32768, 32767, -32768, 9, 100, -2000}
	was := slices.Clone(l)
	got, e := Clip(l)
	if got != want || e != api.OK {
		t.Errorf("got %v, %d; want %v", got, e, want)
	}
	if !slices.Equal(l, was) {
		t.Errorf("changed to %v", l)
	}
	clear(l)
	if got != want {
		t.Errorf("what was answered hangs on what was handed in: %v", got)
	}
}

func TestClipHoldsEachPlace(t *testing.T) {
	for at := range api.Hop {
		for _, v := range numbers() {
			l := slices.Repeat([]int{3}, api.Hop)
			l[at] = v
			want := api.Pcm(slices.Repeat([]int{3}, api.Hop))
			want[at] = narrow(satOf(wide(v), 16))
			if got, e := Clip(l); got != want || e != api.OK {
				t.Errorf("%d at %d: got %v, %d", v, at, got, e)
			}
		}
	}
}

func TestClipWrong(t *testing.T) {
	for n := range 200 {
		if n == 16 {
			continue
		}
		if got, e := Clip(slices.Repeat([]int{5}, n)); got != (api.Pcm{}) || e != api.ErrArg {
			t.Errorf("%d numbers: got %v, %d", n, got, e)
		}
	}
	if got, e := Clip(nil); got != (api.Pcm{}) || e != api.ErrArg {
		t.Errorf("nil: got %v, %d", got, e)
	}
	if got, e := Clip(slices.Repeat([]int{5}, 16)[:15]); got != (api.Pcm{}) || e != api.ErrArg {
		t.Errorf("15 of 16: got %v, %d", got, e)
	}
}

// P5.2

func TestRound(t *testing.T) {
	for _, x := range []struct{ v, by, want int }{
		{3, 1, 2},
		{-3, 1, -1},
		{5, 1, 3},
		{-5, 1, -2},
		{1, 1, 1},
		{-1, 1, 0},
		{0, 1, 0},
		{4, 1, 2},
		{-4, 1, -2},
		{5, 2, 1},
		{6, 2, 2},
		{7, 2, 2},
		{-5, 2, -1},
		{-6, 2, -1},
		{-7, 2, -2},
		{128, 8, 1},
		{127, 8, 0},
		{-128, 8, 0},
		{-129, 8, -1},
		{1 << 61, 62, 1},
		{1<<61 - 1, 62, 0},
		{-1 << 61, 62, 0},
		{-1<<61 - 1, 62, -1},
		{1 << 62, 62, 1},
		{1<<62 + 1<<61, 62, 2},
		{1<<62 + 1<<61 - 1, 62, 1},
		{-1<<62 - 1<<61, 62, -1},
		{-1<<62 - 1<<61 - 1, 62, -2},
		{math.MaxInt, 62, 2},
		{math.MinInt, 62, -2},
		{math.MaxInt, 61, 4},
		{math.MinInt, 61, -4},
		{math.MaxInt, 1, 1 << 62},
		{math.MaxInt - 1, 1, 1<<62 - 1},
		{math.MinInt, 1, -1 << 62},
		{math.MinInt + 1, 1, -1<<62 + 1},
		{math.MaxInt, 2, 1 << 61},
		{math.MinInt, 2, -1 << 61},
	} {
		if got := Round(x.v, x.by); got != x.want {
			t.Errorf("%d by %d: got %d; want %d", x.v, x.by, got, x.want)
		}
	}
}

func TestRoundByLessThanOneAndByMoreThan62(t *testing.T) {
	for _, v := range numbers() {
		for _, by := range []int{0, -1, -2, -62, -63, -64, -1 << 40, math.MinInt + 1, math.MinInt} {
			if got := Round(v, by); got != v {
				t.Errorf("%d by %d: got %d", v, by, got)
			}
		}
		for _, by := range []int{63, 64, 65, 66, 127, 128, 1 << 32, 1<<40 + 1, math.MaxInt} {
			if got := Round(v, by); got != 0 {
				t.Errorf("%d by %d: got %d", v, by, got)
			}
		}
	}
}

func TestRoundOfManyNumbers(t *testing.T) {
	for _, by := range widths() {
		for _, v := range numbers() {
			if got, want := Round(v, by), roundOf(wide(v), by); got != want {
				t.Errorf("%d by %d: got %d; want %d", v, by, got, want)
			}
		}
	}
}

func TestMul(t *testing.T) {
	const edge = 1 << 31
	for _, x := range []struct{ a, b, by, want int }{
		{3, -5, 1, -7},
		{3, 5, 1, 8},
		{3, 5, 0, 15},
		{-3, -5, 0, 15},
		{3, 5, -9, 15},
		{3, 5, 63, 0},
		{0, 99, 3, 0},
		{edge, edge, 0, 1 << 62},
		{edge, edge, 62, 1},
		{edge, edge, 61, 2},
		{-edge, edge, 0, -1 << 62},
		{-edge, -edge, 0, 1 << 62},
		{edge - 1, 1, 0, edge - 1},
		{edge, 1, 0, edge},
		{edge + 1, 1, 0, edge},
		{1, edge + 1, 0, edge},
		{1 - edge, 1, 0, 1 - edge},
		{-edge, 1, 0, -edge},
		{-edge - 1, 1, 0, -edge},
		{1, -edge - 1, 0, -edge},
		{1 << 40, 1 << 40, 62, 1},
		{-1 << 40, 1, 0, -edge},
		{1 << 40, -1 << 40, 0, -1 << 62},
		{math.MaxInt, math.MaxInt, 0, 1 << 62},
		{math.MinInt, math.MinInt, 0, 1 << 62},
		{math.MinInt, math.MaxInt, 31, -edge},
		{math.MaxInt, math.MaxInt, math.MaxInt, 0},
		{math.MinInt, math.MinInt, math.MinInt, 1 << 62},
	} {
		if got := Mul(x.a, x.b, x.by); got != x.want {
			t.Errorf("%d times %d by %d: got %d; want %d", x.a, x.b, x.by, got, x.want)
		}
	}
}

func TestMulOfManyNumbers(t *testing.T) {
	d := dice(4)
	some := widths()
	for _, a := range numbers() {
		for _, b := range numbers() {
			by := some[int(d.next()>>20%uint64(len(some)))]
			if got, want := Mul(a, b, by), mulOf(a, b, by); got != want {
				t.Errorf("%d times %d by %d: got %d; want %d", a, b, by, got, want)
			}
		}
	}
}

// P5.3

func TestSqrt(t *testing.T) {
	for _, x := range []struct{ n, want uint64 }{
		{0, 0},
		{1, 1},
		{2, 1},
		{3, 1},
		{4, 2},
		{8, 2},
		{9, 3},
		{15, 3},
		{16, 4},
		{1<<62 - 1, 1<<31 - 1},
		{1 << 62, 1 << 31},
		{1 << 63, 3037000499},
		{math.MaxInt64, 3037000499},
		{(1<<32 - 1) * (1<<32 - 1), 1<<32 - 1},
		{(1<<32-1)*(1<<32-1) - 1, 1<<32 - 2},
		{math.MaxUint64, 1<<32 - 1},
	} {
		if got := Sqrt(x.n); got != x.want {
			t.Errorf("%d: got %d; want %d", x.n, got, x.want)
		}
	}
}

func TestSqrtAtSquaresAndOneBelowThem(t *testing.T) {
	roots := []uint64{1<<32 - 1, 1<<32 - 2, 3037000499, 3037000500}
	for _, n := range naturals() {
		if n > 0 && n < 1<<32 {
			roots = append(roots, n)
		}
	}
	for _, r := range roots {
		for _, x := range []struct{ n, want uint64 }{{r * r, r}, {r*r - 1, r - 1}, {r*r + 2*r, r}} {
			if got := Sqrt(x.n); got != x.want {
				t.Errorf("%d: got %d; want %d", x.n, got, x.want)
			}
		}
	}
}

func TestSqrtOfManyNumbers(t *testing.T) {
	for _, n := range naturals() {
		if got, want := wideOf(Sqrt(n)), new(big.Int).Sqrt(wideOf(n)); got.Cmp(want) != 0 {
			t.Errorf("%d: got %d; want %d", n, got, want)
		}
	}
}

func TestLog(t *testing.T) {
	for _, x := range []struct {
		n    uint64
		want int
	}{
		{0, 0},
		{1, 0},
		{2, 8},
		{3, 12},
		{4, 16},
		{5, 18},
		{6, 20},
		{7, 22},
		{8, 24},
		{9, 25},
		{1000, 79},
		{1 << 63, 504},
		{math.MaxUint64, 511},
	} {
		if got := Log(x.n); got != x.want {
			t.Errorf("%d: got %d; want %d", x.n, got, x.want)
		}
	}
}

func TestLogOfPowersOfTwoAndOneBesideThem(t *testing.T) {
	for i := range 64 {
		n := uint64(1) << i
		if got := Log(n); got != 8*i {
			t.Errorf("2^%d: got %d", i, got)
		}
		if got, want := Log(n-1), logOf(n-1); got != want || i > 0 && got >= 8*i {
			t.Errorf("2^%d less 1: got %d; want %d", i, got, want)
		}
		if got, want := Log(n+1), logOf(n+1); got != want {
			t.Errorf("2^%d and 1: got %d; want %d", i, got, want)
		}
	}
}

// Where the answer becomes k, what is lost in rounding would be seen first.
func TestLogWhereTheAnswerChanges(t *testing.T) {
	for k := range 512 {
		root := powerOfTwo(k)
		for range 3 {
			root.Sqrt(root)
		}
		for beside := int64(-2); beside <= 2; beside++ {
			n := new(big.Int).Add(root, big.NewInt(beside))
			if !n.IsUint64() {
				continue
			}
			if got, want := Log(n.Uint64()), logOf(n.Uint64()); got != want {
				t.Errorf("%d: got %d; want %d", n, got, want)
			}
		}
	}
}

func TestLogOfManyNumbers(t *testing.T) {
	for _, n := range naturals() {
		if got, want := Log(n), logOf(n); got != want {
			t.Errorf("%d: got %d; want %d", n, got, want)
		}
	}
}

func TestDiv(t *testing.T) {
	for _, x := range []struct{ a, b, want int }{
		{-5, 2, -3},
		{5, 2, 3},
		{1, 2, 1},
		{-1, 2, -1},
		{3, 2, 2},
		{-3, 2, -2},
		{2, 4, 1},
		{-2, 4, -1},
		{6, 4, 2},
		{-6, 4, -2},
		{1, 4, 0},
		{-1, 4, 0},
		{4, 3, 1},
		{-4, 3, -1},
		{5, 3, 2},
		{-5, 3, -2},
		{1, 3, 0},
		{2, 3, 1},
		{-1, 3, 0},
		{-2, 3, -1},
		{0, 9, 0},
		{7, 1, 7},
		{-7, 1, -7},
		{math.MaxInt, 1, math.MaxInt},
		{math.MinInt, 1, math.MinInt},
		{math.MaxInt, 2, 1 << 62},
		{math.MinInt, 2, -1 << 62},
		{math.MinInt + 1, 2, -1 << 62},
		{math.MaxInt, math.MaxInt, 1},
		{math.MinInt, math.MaxInt, -1},
		{math.MinInt + 1, math.MaxInt, -1},
		{math.MaxInt - 1, math.MaxInt, 1},
		{1 << 62, math.MaxInt, 1},
		{1<<62 - 1, math.MaxInt, 0},
		{-1 << 62, math.MaxInt, -1},
		{1 - 1<<62, math.MaxInt, 0},
		{1<<62 - 1, math.MaxInt - 1, 1},
		{1<<62 - 2, math.MaxInt - 1, 0},
		{1 - 1<<62, math.MaxInt - 1, -1},
		{2 - 1<<62, math.MaxInt - 1, 0},
		{1, math.MaxInt, 0},
		{-1, math.MaxInt, 0},
		{0, math.MaxInt, 0},
		{0, 1, 0},
	} {
		if got, e := Div(x.a, x.b); got != x.want || e != api.OK {
			t.Errorf("%d by %d: got %d, %d; want %d", x.a, x.b, got, e, x.want)
		}
	}
}

func TestDivOfManyNumbers(t *testing.T) {
	for _, b := range numbers() {
		if b < 1 {
			continue
		}
		for _, a := range numbers() {
			if got, e := Div(a, b); got != divOf(a, b) || e != api.OK {
				t.Errorf("%d by %d: got %d, %d; want %d", a, b, got, e, divOf(a, b))
			}
		}
	}
}

func TestDivByZeroAndByLess(t *testing.T) {
	for _, a := range []int{0, 1, -1, 5, -5, 100, math.MaxInt, math.MinInt} {
		for _, b := range []int{0, -1, -2, -5, -1 << 31, -1 << 62, math.MinInt + 1, math.MinInt} {
			if got, e := Div(a, b); got != 0 || e != api.ErrArg {
				t.Errorf("%d by %d: got %d, %d", a, b, got, e)
			}
		}
	}
}

// P5.4

func TestNothingGoesOver(t *testing.T) {
	ends := []int{math.MinInt, math.MinInt + 1, -1 << 62, -1 << 61, -1 << 31, -1, 0, 1, 1 << 31, 1 << 61, 1 << 62, math.MaxInt - 1, math.MaxInt}
	for _, a := range ends {
		for _, b := range ends {
			for _, bits := range widths() {
				sum := Add(bits, a, b, b, a)
				if within := max(1, min(bits, 62)); sum < -1<<(within-1) || sum >= 1<<(within-1) {
					t.Errorf("%d and %d in %d bits: got %d", a, b, bits, sum)
				}
				product := Mul(a, b, bits)
				if product != 0 && product > 0 != (a > 0 == (b > 0)) {
					t.Errorf("%d times %d by %d: got %d, of the other sign", a, b, bits, product)
				}
			}
			quotient, _ := Div(a, b)
			if quotient != 0 && quotient > 0 != (a > 0) {
				t.Errorf("%d by %d: got %d, of the other sign", a, b, quotient)
			}
		}
	}
}

// offByAHalf tells whether a by b is not further than a half from got.
func offByAHalf(a, b *big.Int, got int) bool {
	off := new(big.Int).Mul(wide(got), b)
	off.Sub(a, off)
	off.Abs(off)
	return off.Lsh(off, 1).Cmp(b) <= 0
}

func TestWhatIsRoundedIsOffByAHalfAtTheMost(t *testing.T) {
	for by := 1; by <= 62; by++ {
		for _, v := range numbers() {
			if got := Round(v, by); !offByAHalf(wide(v), powerOfTwo(by), got) {
				t.Errorf("%d by %d: got %d", v, by, got)
			}
			if v < -1<<31 || v > 1<<31 {
				continue
			}
			product := new(big.Int).Mul(wide(v), wide(-77777))
			if got := Mul(v, -77777, by); !offByAHalf(product, powerOfTwo(by), got) {
				t.Errorf("%d times -77777 by %d: got %d", v, by, got)
			}
		}
	}
	for _, a := range numbers() {
		for _, b := range []int{1, 2, 3, 4, 7, 10, 255, 256, 8257, 1 << 30, 1<<62 - 1, 1 << 62, 1<<62 + 1, math.MaxInt - 1, math.MaxInt} {
			if got, _ := Div(a, b); !offByAHalf(wide(a), wide(b), got) {
				t.Errorf("%d by %d: got %d", a, b, got)
			}
		}
	}
}

func TestGreaterNumbersHaveNoLess(t *testing.T) {
	l := naturals()
	for i := range len(l) - 1 {
		less, more := l[i], l[i+1]
		if Sqrt(less) > Sqrt(more) {
			t.Errorf("%d has a greater root than %d", less, more)
		}
		if Log(less) > Log(more) {
			t.Errorf("%d has a greater logarithm than %d", less, more)
		}
	}
	v := rising()
	for i := range len(v) - 1 {
		for _, bits := range widths() {
			if Sat(v[i], bits) > Sat(v[i+1], bits) {
				t.Errorf("in %d bits %d is held to more than %d", bits, v[i], v[i+1])
			}
		}
	}
}

func TestWhatIsHeldStays(t *testing.T) {
	for _, bits := range widths() {
		for _, v := range numbers() {
			held := Sat(v, bits)
			if Sat(held, bits) != held || Add(bits, held) != held {
				t.Errorf("%d in %d bits: %d, and held again another one", v, bits, held)
			}
		}
	}
}

// What was asked ahead is not seen in an answer.
func TestAskedAgainTheSame(t *testing.T) {
	for range 3 {
		quotient, _ := Div(-5, 2)
		got := []int{Sat(40000, 16), Add(8, 100, 100, -50), Round(3, 1), Round(-3, 1), Mul(3, -5, 1), int(Sqrt(15)), Log(3), quotient}
		if want := []int{32767, 77, 2, -1, -7, 3, 12, -3}; !slices.Equal(got, want) {
			t.Errorf("got %v; want %v", got, want)
		}
		Add(62, math.MaxInt)
		Clip(slices.Repeat([]int{math.MinInt}, 16))
		Div(math.MinInt, 0)
	}
}
