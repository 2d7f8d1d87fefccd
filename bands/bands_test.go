package bands

import (
	"math"
	"testing"

	"squelch/api"
	"squelch/fixed"
)

// P8.1

func TestEdge(t *testing.T) {
	for b, want := range [6][2]int{{0, 1}, {1, 2}, {2, 4}, {4, 6}, {6, 10}, {10, 16}} {
		if from, to, e := Edge(b); from != want[0] || to != want[1] || e != api.OK {
			t.Errorf("%d: got %d, %d, %d; want %v", b, from, to, e, want)
		}
	}
}

func TestEdgeWrong(t *testing.T) {
	for _, b := range []int{-1, 6, 7, -6, 16, 1 << 32, 1<<32 + 1, math.MinInt, math.MaxInt} {
		if from, to, e := Edge(b); from != 0 || to != 0 || e != api.ErrArg {
			t.Errorf("%d: got %d, %d, %d", b, from, to, e)
		}
	}
}

func TestOf(t *testing.T) {
	for n, want := range [16]int{0, 1, 2, 2, 3, 3, 4, 4, 4, 4, 5, 5, 5, 5, 5, 5} {
		if b, e := Of(n); b != want || e != api.OK {
			t.Errorf("%d: got %d, %d; want %d", n, b, e, want)
		}
	}
}

func TestOfWrong(t *testing.T) {
	for _, n := range []int{-1, 16, 17, -16, 1 << 32, 1<<32 + 3, math.MinInt, math.MaxInt} {
		if b, e := Of(n); b != 0 || e != api.ErrArg {
			t.Errorf("%d: got %d, %d", n, b, e)
		}
	}
}

func TestEachNumberIsBetweenItsBandsEdges(t *testing.T) {
	next := 0
	for b := range api.Bands {
		from, to, e := Edge(b)
		if from != next || to <= from || e != api.OK {
			t.Errorf("band %d: got %d, %d, %d; want it from %d on", b, from, to, e, next)
		}
		for n := from; n < to; n++ {
			if of, e := Of(n); of != b || e != api.OK {
				t.Errorf("number %d: got %d, %d; want %d", n, of, e, b)
			}
		}
		next = to
	}
	if next != api.Hop {
		t.Errorf("the bands end at %d", next)
	}
}

func TestCheck(t *testing.T) {
	for _, v := range []int{0, 1, 100, 254, 255} {
		if e := Check(even[api.Levels](v)); e != api.OK {
			t.Errorf("all %d: got %d", v, e)
		}
		for b := range api.Bands {
			if e := Check(alone[api.Levels](b, v)); e != api.OK {
				t.Errorf("%d at %d: got %d", v, b, e)
			}
		}
	}
}

var wrongLevels = []int{-1, 256, -255, 257, 511, 1 << 32, -1 << 32, math.MinInt, math.MaxInt}

func TestCheckWrong(t *testing.T) {
	for _, v := range wrongLevels {
		for b := range api.Bands {
			for _, others := range []int{0, 90, 255} {
				if e := Check(with(even[api.Levels](others), b, v)); e != api.ErrArg {
					t.Errorf("%d at %d: got %d", v, b, e)
				}
			}
		}
		if e := Check(even[api.Levels](v)); e != api.ErrArg {
			t.Errorf("all %d: got %d", v, e)
		}
	}
}

// One below and one above, whose sum, or mean, would not tell.
func TestCheckOfSeveralWrong(t *testing.T) {
	for _, l := range []api.Levels{{-1, 256}, {256, 0, 0, 0, 0, -1}, {-1, 1}, {5: -256, 0: 256}, {math.MinInt, math.MaxInt}} {
		if e := Check(l); e != api.ErrArg {
			t.Errorf("%v: got %d", l, e)
		}
	}
}

func TestCost(t *testing.T) {
	for _, x := range []struct {
		what string
		a    api.Alloc
		want int
	}{
		{"none", api.Alloc{}, 0},
		{"one each", api.Alloc{1, 1, 1, 1, 1, 1}, 16},
		{"as many as may be", api.Alloc{7, 7, 7, 7, 7, 7}, 112},
		{"the first", api.Alloc{0: 5}, 5},
		{"the second", api.Alloc{1: 5}, 5},
		{"the third", api.Alloc{2: 5}, 10},
		{"the fourth", api.Alloc{3: 5}, 10},
		{"the fifth", api.Alloc{4: 5}, 20},
		{"the sixth", api.Alloc{5: 5}, 30},
		{"each another", api.Alloc{1, 2, 3, 4, 5, 6}, 73},
		{"more than may be", api.Alloc{8, 100, 1000, 0, 0, 9}, 2162},
		{"great", api.Alloc{1 << 40, 1 << 40, 1 << 40, 1 << 40, 1 << 40, 1 << 40}, 1 << 44},
		{"great by itself", api.Alloc{math.MaxInt}, math.MaxInt},
		{"great by six", api.Alloc{5: 1 << 60}, 6 << 60},
		{"below 0", api.Alloc{-1, -1, -1, -1, -1, -1}, -16},
		{"below 0 by itself", api.Alloc{1: math.MinInt}, math.MinInt},
		{"below 0 by four", api.Alloc{4: -1 << 61}, math.MinInt},
		{"both", api.Alloc{1 << 40, -1 << 40, 5, -7, -3, 2}, -4},
		{"both, far off", api.Alloc{math.MaxInt, math.MinInt, 0, 0, 0, 1}, 5},
	} {
		if got := Cost(x.a); got != x.want {
			t.Errorf("%s: got %d; want %d", x.what, got, x.want)
		}
	}
}

func TestCostByTheWords(t *testing.T) {
	d := dice(1)
	for i := range 2000 {
		var a api.Alloc
		for b := range a {
			a[b] = d.number(-1<<(i%60), 1<<(i%60))
		}
		if got, want := Cost(a), costOf(a); got != want {
			t.Errorf("%v: got %d; want %d", a, got, want)
		}
	}
}

// A sum that goes over is promised nothing of, but that the call ends.
func TestCostEndsBeyondAnInt(t *testing.T) {
	Cost(even[api.Alloc](math.MaxInt))
	Cost(even[api.Alloc](math.MinInt))
}

func TestLoud(t *testing.T) {
	for _, v := range []int{0, 1, 99, 100, 255} {
		if got := Loud(even[api.Levels](v)); got != v {
			t.Errorf("all %d: got %d", v, got)
		}
		for b := range api.Bands {
			if got := Loud(alone[api.Levels](b, v)); got != v {
				t.Errorf("%d at %d: got %d", v, b, got)
			}
		}
	}
	for _, x := range []struct {
		l    api.Levels
		want int
	}{
		{api.Levels{1, 2, 3, 4, 5, 6}, 6},
		{api.Levels{60, 50, 40, 30, 20, 10}, 60},
		{api.Levels{7, 90, 3, 90, 0, 89}, 90},
		{api.Levels{254, 0, 0, 255, 0, 254}, 255},
	} {
		if got := Loud(x.l); got != x.want {
			t.Errorf("%v: got %d; want %d", x.l, got, x.want)
		}
	}
}

func TestLoudOfLevelsThatMayNotBe(t *testing.T) {
	for _, v := range wrongLevels {
		for b := range api.Bands {
			if got := Loud(with(even[api.Levels](90), b, v)); got != 0 {
				t.Errorf("%d at %d: got %d", v, b, got)
			}
		}
	}
	for _, l := range []api.Levels{{-1, 256}, {256, 200, -1}, {-5, -4, -3, -2, -1, -6}} {
		if got := Loud(l); got != 0 {
			t.Errorf("%v: got %d", l, got)
		}
	}
}

// P8.2

func TestMeasureOfSilence(t *testing.T) {
	l, e := Measure(api.Spec{})
	if l != (api.Levels{}) || e != api.OK {
		t.Errorf("got %v, %d", l, e)
	}
	if a, e := Share(l, api.Budget); a != (api.Alloc{}) || e != api.OK {
		t.Errorf("share: got %v, %d", a, e)
	}
}

func TestMeasure(t *testing.T) {
	const most = 1 << 26
	for _, x := range []struct {
		what string
		x    api.Spec
		want api.Levels
	}{
		// The squares: 1. Its logarithm is 0.
		{"one of 1, in the first", api.Spec{0: 1}, api.Levels{1}},
		{"one of -1, in the first", api.Spec{0: -1}, api.Levels{1}},
		{"one of 1, in the last", api.Spec{15: 1}, api.Levels{5: 1}},
		{"one of 1, in the last's first", api.Spec{10: 1}, api.Levels{5: 1}},
		{"one of 1, in the last but one", api.Spec{9: -1}, api.Levels{4: 1}},
		// 2: eighths 8, and 4 by two. 4: 16, and 8.
		{"two of 1", api.Spec{2: 1, 3: -1}, api.Levels{2: 5}},
		{"four of 1", api.Spec{6: 1, 7: 1, 8: 1, 9: 1}, api.Levels{4: 9}},
		{"one of 2", api.Spec{4: 2}, api.Levels{3: 9}},
		// 3 is 12.68 eighths, of which six by two; 6 is 20.68, of which ten.
		{"three of 1", api.Spec{7: 1, 8: -1, 9: 1}, api.Levels{4: 7}},
		{"six of 1", api.Spec{10: 1, 11: 1, 12: 1, 13: 1, 14: 1, 15: 1}, api.Levels{5: 11}},
		// 9 is 25.36 eighths: twelve and a half, rounded down.
		{"one of 3", api.Spec{1: 3}, api.Levels{1: 13}},
		// 25 is 37.15 eighths: eighteen and a half.
		{"three and four", api.Spec{4: 3, 5: 4}, api.Levels{3: 19}},
		{"bands of 0 among others", api.Spec{0: 1, 2: 3, 3: -4, 10: 2}, api.Levels{1, 0, 19, 0, 0, 9}},
		{"a band of 0 between two", api.Spec{0, 1, 1, 1, 3, 4, 0, 0, 0, 0, most, most, most, most, most, most}, api.Levels{0, 1, 5, 19, 0, 219}},
		{"all 1", even[api.Spec](1), api.Levels{1, 1, 5, 5, 9, 11}},
		// 2^52 is 416 eighths; 2, 4 and 6 times as much have 8, 16 and 20 more.
		{"all at their end", even[api.Spec](most), api.Levels{209, 209, 213, 213, 217, 219}},
		{"all at their other end", even[api.Spec](-most), api.Levels{209, 209, 213, 213, 217, 219}},
		{"the first at its end", api.Spec{0: most}, api.Levels{209}},
		{"the last at its other end", api.Spec{15: -most}, api.Levels{5: 209}},
		{"one less than the end", api.Spec{0: most - 1, 1: 1 - most}, api.Levels{208, 208}},
	} {
		if got, e := Measure(x.x); got != x.want || e != api.OK {
			t.Errorf("%s: got %v, %d; want %v", x.what, got, e, x.want)
		}
	}
}

func TestMeasureByTheWords(t *testing.T) {
	d := dice(2)
	for i := range 3000 {
		x := d.numbers(1 << (i % 27))
		if got, e := Measure(x); got != measureOf(x) || e != api.OK {
			t.Errorf("%v: got %v, %d; want %v", x, got, e, measureOf(x))
		}
	}
}

// Where a level rises, the sum of the squares is just at it, or one below.
func TestMeasureWhereLevelsRise(t *testing.T) {
	ahead := api.Levels{}
	for v := range 5000 {
		x := api.Spec{0: v, 2: v, 3: 1, 10: v, 15: -1}
		got, e := Measure(x)
		if got != measureOf(x) || e != api.OK {
			t.Errorf("%d: got %v, %d; want %v", v, got, e, measureOf(x))
		}
		for b := range got {
			if got[b] < ahead[b] {
				t.Errorf("%d: got %v behind %v", v, got, ahead)
			}
		}
		ahead = got
	}
}

// Each number tells in its own band alone.
func TestMeasureOfEachNumber(t *testing.T) {
	for n := range api.Hop {
		b, _ := Of(n)
		for _, v := range []int{1, -1, 5, 1 << 20, 1 << 26, -1 << 26} {
			want := alone[api.Levels](b, fixed.Log(uint64(v*v))/2+1)
			if got, e := Measure(alone[api.Spec](n, v)); got != want || e != api.OK {
				t.Errorf("%d at %d: got %v, %d; want %v", v, n, got, e, want)
			}
		}
	}
}

var wrongNumbers = []int{1<<26 + 1, -1<<26 - 1, 1 << 32, -1 << 32, 1 << 40, math.MinInt, math.MaxInt}

func TestMeasureWrong(t *testing.T) {
	for _, v := range wrongNumbers {
		for n := range api.Hop {
			for _, others := range []int{0, 9, 1 << 26} {
				if l, e := Measure(with(even[api.Spec](others), n, v)); l != (api.Levels{}) || e != api.ErrArg {
					t.Errorf("%d at %d: got %v, %d", v, n, l, e)
				}
			}
		}
		if l, e := Measure(even[api.Spec](v)); l != (api.Levels{}) || e != api.ErrArg {
			t.Errorf("all %d: got %v, %d", v, l, e)
		}
	}
	if l, e := Measure(api.Spec{0: 1<<26 + 1, 15: -1<<26 - 1}); l != (api.Levels{}) || e != api.ErrArg {
		t.Errorf("two: got %v, %d", l, e)
	}
}

// P8.3

func TestMask(t *testing.T) {
	for _, x := range []struct {
		what    string
		l, want api.Levels
	}{
		{"silence", api.Levels{}, api.Levels{}},
		{"three of six", api.Levels{100, 0, 50, 0, 0, 60}, api.Levels{18, 80, 68, 56, 44, 32}},
		{"the first alone", api.Levels{0: 255}, api.Levels{0, 235, 223, 211, 199, 187}},
		{"the last alone", api.Levels{5: 255}, api.Levels{187, 199, 211, 223, 235, 0}},
		{"one between alone", api.Levels{2: 100}, api.Levels{68, 80, 0, 80, 68, 56}},
		{"all at the end", even[api.Levels](255), even[api.Levels](235)},
		{"just nothing", api.Levels{20, 20, 20, 20, 20, 20}, api.Levels{}},
		{"just something", api.Levels{0: 21}, api.Levels{1: 1}},
		{"just something two away", api.Levels{5: 33}, api.Levels{0, 0, 0, 1, 13, 0}},
		{"just nothing five away", api.Levels{0: 68}, api.Levels{0, 48, 36, 24, 12, 0}},
		{"just something five away", api.Levels{0: 69}, api.Levels{0, 49, 37, 25, 13, 1}},
		{"one further off is more", api.Levels{50, 10, 0, 0, 0, 0}, api.Levels{0, 30, 18, 6, 0, 0}},
		{"two that are as much", api.Levels{80, 0, 0, 0, 80, 0}, api.Levels{24, 60, 48, 60, 24, 60}},
	} {
		if got, e := Mask(x.l); got != x.want || e != api.OK {
			t.Errorf("%s: got %v, %d; want %v", x.what, got, e, x.want)
		}
	}
}

func TestMaskByTheWords(t *testing.T) {
	check := func(l api.Levels) {
		t.Helper()
		if got, e := Mask(l); got != maskOf(l) || e != api.OK {
			t.Errorf("%v: got %v, %d; want %v", l, got, e, maskOf(l))
		}
	}
	for _, l := range grid(0, 20, 21, 100, 112, 255) {
		check(l)
	}
	d := dice(3)
	for i := range 3000 {
		check(d.levels(1 + i%255))
	}
}

// A band's own level is nothing to its mask.
func TestMaskHangsOnTheOthersAlone(t *testing.T) {
	d := dice(4)
	for range 300 {
		l := d.levels(255)
		for b := range l {
			first, e1 := Mask(l)
			second, e2 := Mask(with(l, b, d.number(0, 255)))
			if first[b] != second[b] || e1 != api.OK || e2 != api.OK {
				t.Errorf("%v at %d: got %d, and %d", l, b, first[b], second[b])
			}
		}
	}
}

func TestMaskWrong(t *testing.T) {
	for _, v := range wrongLevels {
		for b := range api.Bands {
			for _, others := range []int{0, 90, 255} {
				if mask, e := Mask(with(even[api.Levels](others), b, v)); mask != (api.Levels{}) || e != api.ErrArg {
					t.Errorf("%d at %d: got %v, %d", v, b, mask, e)
				}
			}
		}
	}
	if mask, e := Mask(api.Levels{-1, 0, 90, 0, 0, 256}); mask != (api.Levels{}) || e != api.ErrArg {
		t.Errorf("two: got %v, %d", mask, e)
	}
}

// P8.4

// The first band at 100 masks the second up to 80.
func TestShareAboveAMask(t *testing.T) {
	for _, x := range []struct{ level, want int }{
		{0, 0}, {79, 0}, {80, 0}, {81, 1}, {82, 1}, {87, 1}, {88, 1}, {89, 2}, {96, 2}, {97, 3}, {104, 3}, {105, 4},
		{112, 4}, {113, 5}, {120, 5}, {121, 6}, {128, 6}, {129, 7}, {136, 7}, {137, 7}, {138, 7}, {144, 7}, {255, 7},
	} {
		if a, e := Share(api.Levels{100, x.level}, api.Budget); a[1] != x.want || e != api.OK {
			t.Errorf("%d: got %v, %d; want %d", x.level, a, e, x.want)
		}
	}
}

func TestShareOfOneBandAlone(t *testing.T) {
	for b := range api.Bands {
		for v := range api.MaxLevel + 1 {
			want := alone[api.Alloc](b, min((v+7)/8, 7))
			if a, e := Share(alone[api.Levels](b, v), api.Budget); a != want || e != api.OK {
				t.Errorf("%d at %d: got %v, %d; want %v", v, b, a, e, want)
			}
		}
	}
}

func TestShareByBudget(t *testing.T) {
	three := api.Levels{100, 0, 50, 0, 0, 60}
	even20 := even[api.Levels](20)
	for _, x := range []struct {
		what   string
		l      api.Levels
		budget int
		want   api.Alloc
	}{
		{"none at all", three, 0, api.Alloc{}},
		{"one that none reaches", three, 120, api.Alloc{7, 0, 0, 0, 0, 4}},
		{"far more", three, math.MaxInt, api.Alloc{7, 0, 0, 0, 0, 4}},
		{"one more", three, 32, api.Alloc{7, 0, 0, 0, 0, 4}},
		{"just what they cost", three, 31, api.Alloc{7, 0, 0, 0, 0, 4}},
		{"one less", three, 30, api.Alloc{6, 0, 0, 0, 0, 4}},
		{"two less", three, 29, api.Alloc{5, 0, 0, 0, 0, 4}},
		{"three less", three, 28, api.Alloc{4, 0, 0, 0, 0, 4}},
		// The first and the last have four each: it is the last that has one less, which is six.
		{"of two the last", three, 27, api.Alloc{4, 0, 0, 0, 0, 3}},
		{"just of two the last", three, 22, api.Alloc{4, 0, 0, 0, 0, 3}},
		{"then the first", three, 21, api.Alloc{3, 0, 0, 0, 0, 3}},
		{"then the last again", three, 20, api.Alloc{3, 0, 0, 0, 0, 2}},
		{"one number's worth", three, 1, api.Alloc{1, 0, 0, 0, 0, 0}},
		// All have three, which is 48.
		{"all alike, just enough", even20, 48, even[api.Alloc](3)},
		{"all alike, one less", even20, 47, api.Alloc{3, 3, 3, 3, 3, 2}},
		{"all alike, just the last", even20, 42, api.Alloc{3, 3, 3, 3, 3, 2}},
		{"all alike, the last two", even20, 41, api.Alloc{3, 3, 3, 3, 2, 2}},
		{"all alike, the last three", even20, 37, api.Alloc{3, 3, 3, 2, 2, 2}},
		{"all alike, but the first", even20, 33, api.Alloc{3, 2, 2, 2, 2, 2}},
		{"all alike, all one less", even20, 32, even[api.Alloc](2)},
		{"all alike, below that", even20, 31, api.Alloc{2, 2, 2, 2, 2, 1}},
		{"all alike, one each", even20, 16, even[api.Alloc](1)},
		{"all alike, fifteen", even20, 15, api.Alloc{1, 1, 1, 1, 1, 0}},
		{"all alike, one", even20, 1, api.Alloc{1, 0, 0, 0, 0, 0}},
		{"all alike, none", even20, 0, api.Alloc{}},
		// One bit of the last one is six.
		{"the last alone", api.Levels{5: 8}, 5, api.Alloc{}},
		{"the last alone, enough", api.Levels{5: 8}, 6, api.Alloc{5: 1}},
		{"just seven bits", api.Levels{49}, 120, api.Alloc{7}},
		{"just six bits", api.Levels{48}, 120, api.Alloc{6}},
		{"more than seven bits", api.Levels{255}, 120, api.Alloc{7}},
		{"more than seven bits, one less", api.Levels{255}, 6, api.Alloc{6}},
	} {
		if a, e := Share(x.l, x.budget); a != x.want || e != api.OK {
			t.Errorf("%s: got %v, %d; want %v", x.what, a, e, x.want)
		}
	}
}

func TestShareByTheWords(t *testing.T) {
	check := func(l api.Levels, budget int) {
		t.Helper()
		if got, e := Share(l, budget); got != shareOf(l, budget) || e != api.OK {
			t.Errorf("%v, %d: got %v, %d; want %v", l, budget, got, e, shareOf(l, budget))
		}
	}
	for _, l := range grid(0, 9, 20, 100, 255) {
		enough := costOf(firstOf(l))
		for _, budget := range []int{0, enough / 3, enough / 2, max(0, enough-1), enough, enough + 1, api.Budget} {
			check(l, budget)
		}
	}
	d := dice(5)
	for i := range 1000 {
		l := d.levels(1 + i%255)
		for budget := range api.Budget + 2 {
			check(l, budget)
		}
	}
}

func TestShareWrong(t *testing.T) {
	check := func(l api.Levels, budget int) {
		t.Helper()
		if a, e := Share(l, budget); a != (api.Alloc{}) || e != api.ErrArg {
			t.Errorf("%v, %d: got %v, %d", l, budget, a, e)
		}
	}
	for _, v := range wrongLevels {
		for b := range api.Bands {
			for _, budget := range []int{0, 1, api.Budget, math.MaxInt, -1, math.MinInt} {
				check(with(even[api.Levels](90), b, v), budget)
			}
		}
	}
	for _, budget := range []int{-1, -2, -120, -1 << 32, math.MinInt} {
		check(api.Levels{}, budget)
		check(even[api.Levels](20), budget)
		check(api.Levels{-1, 5: 256}, budget)
	}
}

// P8.5

func TestABandThatIsMaskedHasNoBits(t *testing.T) {
	d := dice(6)
	for range 3000 {
		l := d.levels(255)
		mask, e1 := Mask(l)
		a, e2 := Share(l, api.Budget)
		if e1 != api.OK || e2 != api.OK {
			t.Fatalf("%v: got %d, %d", l, e1, e2)
		}
		for b := range a {
			if (l[b] > mask[b]) != (a[b] > 0) {
				t.Errorf("%v: got %v, masked by %v", l, a, mask)
			}
		}
	}
}

// All bands' numbers cost 112 at the most, so these are all budgets that tell.
func TestNoShareCostsMoreAndAGreaterBudgetSharesNoFewer(t *testing.T) {
	check := func(l api.Levels) {
		t.Helper()
		ahead := api.Alloc{}
		for budget := range api.Budget + 2 {
			a, e := Share(l, budget)
			if e != api.OK || Cost(a) > budget {
				t.Errorf("%v, %d: got %v, %d", l, budget, a, e)
			}
			for b := range a {
				if a[b] < ahead[b] || a[b] > api.MaxWide {
					t.Errorf("%v, %d: got %v behind %v", l, budget, a, ahead)
				}
			}
			ahead = a
		}
	}
	for _, l := range grid(0, 60, 140, 255) {
		check(l)
	}
	d := dice(7)
	for i := range 1000 {
		check(d.levels(1 + i%255))
	}
}

func TestTwiceAsGreatIsEightMore(t *testing.T) {
	d := dice(8)
	check := func(x api.Spec) {
		t.Helper()
		twice := x
		for n, v := range x {
			twice[n] = 2 * v
		}
		want, e1 := Measure(x)
		got, e2 := Measure(twice)
		for b, v := range want {
			if v > 0 {
				want[b] = v + 8
			}
		}
		if got != want || e1 != api.OK || e2 != api.OK {
			t.Errorf("%v: got %v; want %v, %d, %d", x, got, want, e1, e2)
		}
	}
	for _, v := range []int{0, 1, -1, 3, 1 << 25, -1 << 25} {
		check(even[api.Spec](v))
		for n := range api.Hop {
			check(alone[api.Spec](n, v))
		}
	}
	for i := range 2000 {
		check(d.numbers(1 << (i % 26)))
	}
}

// R2, R5: what is handed in stays as it is, and what was asked ahead is not to be seen.
func TestNothingIsChangedOrKept(t *testing.T) {
	d := dice(9)
	for range 200 {
		x, l, a := d.numbers(1<<20), d.levels(255), api.Alloc(d.levels(7))
		wasX, wasL, wasA := x, l, a
		level1, _ := Measure(x)
		mask1, _ := Mask(l)
		share1, _ := Share(l, 9)
		cost1, loud1 := Cost(a), Loud(l)
		Measure(d.numbers(1 << 26))
		Share(d.levels(255), 5)
		level2, _ := Measure(x)
		mask2, _ := Mask(l)
		share2, _ := Share(l, 9)
		if level1 != level2 || mask1 != mask2 || share1 != share2 || cost1 != Cost(a) || loud1 != Loud(l) {
			t.Errorf("%v, %v, %v: told twice, it is not the same", x, l, a)
		}
		if x != wasX || l != wasL || a != wasA {
			t.Errorf("%v, %v, %v: changed to %v, %v, %v", wasX, wasL, wasA, x, l, a)
		}
	}
}
