package table

import (
	"math"
	"slices"
	"testing"

	"squelch/api"
)

const (
	big30 = 1 << 30
	big24 = 1 << 24
)

// P6.1

func TestHalf(t *testing.T) {
	for _, x := range []struct{ i, c, s int }{
		{1, -big30, 0},
		{2, 0, big30},
		{3, 759250124, 759250124},
		{4, 992008094, 410903207},
		{5, 1053110175, 209476638},
		{6, 1068571463, 105245105},
		{7, 1072448454, 52686017},
	} {
		if c, s, e := Half(x.i); c != x.c || s != x.s || e != api.OK {
			t.Errorf("%d: got %d, %d, %d; want %d, %d", x.i, c, s, e, x.c, x.s)
		}
	}
}

func TestHalfByTheWords(t *testing.T) {
	for i := 1; i <= 7; i++ {
		want := halfOf(i)
		if c, s, e := Half(i); wide(c).Cmp(want.x) != 0 || wide(s).Cmp(want.y) != 0 || e != api.OK {
			t.Errorf("%d: got %d, %d, %d; want %d, %d", i, c, s, e, want.x, want.y)
		}
	}
}

func TestHalfIsTheAngleItSays(t *testing.T) {
	for i := 1; i <= 7; i++ {
		c, s, _ := Half(i)
		sin, cos := math.Sincos(2 * math.Pi / float64(int(1)<<i))
		if far(c, cos*big30) > 64 || far(s, sin*big30) > 64 {
			t.Errorf("%d: got %d, %d", i, c, s)
		}
	}
}

func TestHalfWrong(t *testing.T) {
	for _, i := range []int{0, 8, 9, -1, -2, -7, 64, 1 << 32, 1<<32 + 1, math.MinInt, math.MinInt + 1, math.MaxInt} {
		if c, s, e := Half(i); c != 0 || s != 0 || e != api.ErrArg {
			t.Errorf("%d: got %d, %d, %d", i, c, s, e)
		}
	}
}

func TestTurn(t *testing.T) {
	for _, x := range []struct{ m, x, y int }{
		{0, big30, 0},
		{16, 759250124, 759250124},
		{32, 0, big30},
		{64, -big30, 0},
		{96, 0, -big30},
		{1, 1072448454, 52686017},
		{127, 1072448451, -52686009},
		{128, big30, 0},
		{129, 1072448454, 52686017},
		{-128, big30, 0},
		{-127, 1072448454, 52686017},
		{-112, 759250124, 759250124},
		{-32, 0, -big30},
		{-64, -big30, 0},
		{math.MinInt, big30, 0},
		{math.MinInt + 1, 1072448454, 52686017},
	} {
		if gotX, gotY := Turn(x.m); gotX != x.x || gotY != x.y {
			t.Errorf("%d: got %d, %d; want %d, %d", x.m, gotX, gotY, x.x, x.y)
		}
	}
}

func TestTurnByTheWords(t *testing.T) {
	for _, m := range places() {
		want := turnOf(m)
		if x, y := Turn(m); wide(x).Cmp(want.x) != 0 || wide(y).Cmp(want.y) != 0 {
			t.Errorf("%d: got %d, %d; want %d, %d", m, x, y, want.x, want.y)
		}
	}
}

// One behind the circle's last point, and the greatest number, are where going round by taking 128 away would be seen to fail.
func TestTurnGoesRound(t *testing.T) {
	for _, x := range []struct{ m, same int }{
		{128, 0},
		{-1, 127},
		{-129, 127},
		{255, 127},
		{256, 0},
		{1<<62 + 5, 5},
		{-1<<62 - 5, 123},
		{math.MaxInt, 127},
		{math.MaxInt - 127, 0},
		{math.MinInt, 0},
		{math.MinInt + 127, 127},
	} {
		x1, y1 := Turn(x.m)
		if x2, y2 := Turn(x.same); x1 != x2 || y1 != y2 {
			t.Errorf("%d: got %d, %d; at %d it is %d, %d", x.m, x1, y1, x.same, x2, y2)
		}
	}
}

// P6.2

func TestCosAndSin(t *testing.T) {
	for _, x := range []struct{ m, c, s int }{
		{0, big24, 0},
		{32, 0, big24},
		{64, -big24, 0},
		{96, 0, -big24},
		{1, 16757007, 823219},
		{63, -16757007, 823219},
		{127, 16757007, -823219},
		{128, big24, 0},
		{-32, 0, -big24},
		{-64, -big24, 0},
		{-96, 0, big24},
		{-128, big24, 0},
		{math.MinInt, big24, 0},
	} {
		if c, s := Cos(x.m), Sin(x.m); c != x.c || s != x.s {
			t.Errorf("%d: got %d, %d; want %d, %d", x.m, c, s, x.c, x.s)
		}
	}
}

func TestCosAndSinBesideTheQuarters(t *testing.T) {
	for _, quarter := range []int{0, 32, 64, 96, 128} {
		for _, m := range []int{quarter - 1, quarter + 1, quarter + 63, quarter + 65} {
			if c, want := Cos(m), cosOf(m); c != want {
				t.Errorf("cosine of %d: got %d; want %d", m, c, want)
			}
			if s, want := Sin(m), sinOf(m); s != want {
				t.Errorf("sine of %d: got %d; want %d", m, s, want)
			}
		}
	}
}

func TestCosAndSinByTheWords(t *testing.T) {
	for _, m := range places() {
		if c, want := Cos(m), cosOf(m); c != want {
			t.Errorf("cosine of %d: got %d; want %d", m, c, want)
		}
		if s, want := Sin(m), sinOf(m); s != want {
			t.Errorf("sine of %d: got %d; want %d", m, s, want)
		}
	}
}

func TestCosAndSinAreThose(t *testing.T) {
	for m := range 128 {
		sin, cos := math.Sincos(2 * math.Pi * float64(m) / 128)
		if far(Cos(m), cos*big24) > 4 || far(Sin(m), sin*big24) > 4 {
			t.Errorf("%d: got %d, %d", m, Cos(m), Sin(m))
		}
	}
}

func TestWindow(t *testing.T) {
	for n := range 32 {
		if got, e := Window(n); got != sinOf(2*n+1) || e != api.OK {
			t.Errorf("%d: got %d, %d; want %d", n, got, e, sinOf(2*n+1))
		}
	}
	first, e := Window(0)
	// The sine of the circle's first point.
	if first != 823219 || e != api.OK {
		t.Errorf("the first: got %d, %d", first, e)
	}
	last, e := Window(31)
	if last != 823219 || e != api.OK {
		t.Errorf("the last: got %d, %d", last, e)
	}
}

func TestWindowWrong(t *testing.T) {
	for _, n := range []int{-1, 32, 33, -32, 63, 64, 1 << 32, math.MinInt, math.MaxInt} {
		if got, e := Window(n); got != 0 || e != api.ErrArg {
			t.Errorf("%d: got %d, %d", n, got, e)
		}
	}
}

func TestKernel(t *testing.T) {
	for n := range 32 {
		for k := range 16 {
			want := cosOf((2*n + 17) * (2*k + 1))
			if got, e := Kernel(n, k); got != want || e != api.OK {
				t.Errorf("%d, %d: got %d, %d; want %d", n, k, got, e, want)
			}
		}
	}
}

func TestKernelAtBothEnds(t *testing.T) {
	for _, x := range []struct{ n, k, m int }{
		{0, 0, 17},
		{31, 0, 79},
		{0, 15, 17 * 31},
		{31, 15, 79 * 31},
		{3, 5, 253},
	} {
		if got, e := Kernel(x.n, x.k); got != Cos(x.m) || e != api.OK {
			t.Errorf("%d, %d: got %d, %d; want %d", x.n, x.k, got, e, Cos(x.m))
		}
	}
}

func TestKernelWrong(t *testing.T) {
	for _, bad := range []int{-1, 32, 33, -17, 1 << 32, math.MinInt, math.MaxInt} {
		for _, k := range []int{0, 7, 15} {
			if got, e := Kernel(bad, k); got != 0 || e != api.ErrArg {
				t.Errorf("%d, %d: got %d, %d", bad, k, got, e)
			}
		}
	}
	for _, bad := range []int{-1, 16, 17, 31, 1 << 32, math.MinInt, math.MaxInt} {
		for _, n := range []int{0, 9, 31, -1, 32} {
			if got, e := Kernel(n, bad); got != 0 || e != api.ErrArg {
				t.Errorf("%d, %d: got %d, %d", n, bad, got, e)
			}
		}
	}
}

func TestRow(t *testing.T) {
	for k := range 16 {
		row, e := Row(k)
		if len(row) != 32 || e != api.OK {
			t.Fatalf("%d: got %d numbers, %d", k, len(row), e)
		}
		for n, got := range row {
			if want, _ := Kernel(n, k); got != want {
				t.Errorf("%d of %d: got %d; want %d", n, k, got, want)
			}
		}
	}
}

func TestRowWrong(t *testing.T) {
	for _, k := range []int{-1, 16, 17, 31, 32, -16, 1 << 32, math.MinInt, math.MaxInt} {
		if row, e := Row(k); len(row) != 0 || e != api.ErrArg {
			t.Errorf("%d: got %v, %d", k, row, e)
		}
	}
}

// R2, R5: a row is the caller's own, and what was asked ahead is not to be seen.
func TestRowIsTheCallersOwn(t *testing.T) {
	first, _ := Row(3)
	want := slices.Clone(first)
	clear(first)
	second, _ := Row(3)
	if !slices.Equal(second, want) {
		t.Errorf("got %v; want %v", second, want)
	}
	if !slices.Equal(first, make([]int, 32)) {
		t.Errorf("what was answered ahead is changed: %v", first)
	}
}

func TestNothingHangsOnWhatWasAskedAhead(t *testing.T) {
	var up, down [128]point
	for m := range 128 {
		up[m][0], up[m][1] = Turn(m)
	}
	for m := 127; m >= 0; m-- {
		Half(m % 9)
		down[m][0], down[m][1] = Turn(m)
	}
	if up != down {
		t.Errorf("got %v; want %v", down, up)
	}
}

// P6.3

func TestEachPointIsOnTheCircle(t *testing.T) {
	for m := range 128 {
		if off := offCircle(Cos(m), Sin(m)); off > 1<<27 {
			t.Errorf("%d: off by %d", m, off)
		}
	}
}

func TestHalfACircleFurtherIsTheOtherWayRound(t *testing.T) {
	for m := range 128 {
		if sum := Cos(m) + Cos(m+64); sum < -1 || sum > 1 {
			t.Errorf("cosine of %d: off by %d", m, sum)
		}
		if sum := Sin(m) + Sin(m+64); sum < -1 || sum > 1 {
			t.Errorf("sine of %d: off by %d", m, sum)
		}
	}
}

func TestTheWindowAndItsOtherHalfAreOnTheCircle(t *testing.T) {
	for n := range 16 {
		near, e1 := Window(n)
		other, e2 := Window(n + 16)
		if off := offCircle(near, other); off > 1<<27 || e1 != api.OK || e2 != api.OK {
			t.Errorf("%d: off by %d, %d, %d", n, off, e1, e2)
		}
	}
}

func offCircle(x, y int) int {
	off := x*x + y*y - 1<<48
	return max(off, -off)
}

func far(got int, want float64) float64 { return math.Abs(float64(got) - want) }
