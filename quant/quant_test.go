package quant

import (
	"math"
	"testing"

	"squelch/api"
)

// P9.1

func TestMost(t *testing.T) {
	for _, x := range []struct{ wide, want int }{
		{0, 0}, {1, 1}, {2, 3}, {3, 7}, {4, 15}, {5, 31}, {6, 63}, {7, 127},
		{-1, 0}, {-2, 0}, {-64, 0}, {-1 << 32, 0}, {math.MinInt, 0},
		{8, 127}, {9, 127}, {64, 127}, {1 << 32, 127}, {1<<32 + 3, 127}, {math.MaxInt, 127},
	} {
		if got := Most(x.wide); got != x.want {
			t.Errorf("%d: got %d; want %d", x.wide, got, x.want)
		}
	}
}

func TestMostByTheWords(t *testing.T) {
	for bits := -70; bits <= 70; bits++ {
		if got := Most(bits); got != mostOf(bits) {
			t.Errorf("%d: got %d; want %d", bits, got, mostOf(bits))
		}
	}
}

func TestPeak(t *testing.T) {
	for _, x := range []struct{ level, want int }{
		{0, 2}, {1, 2}, {7, 2}, {8, 3}, {11, 3}, {12, 4}, {15, 4}, {16, 5}, {23, 8}, {24, 9}, {31, 16},
		{160, 1<<20 + 1}, {164, 3<<19 + 1}, {167, 15<<17 + 1}, {200, 1<<25 + 1}, {247, 15<<27 + 1}, {248, 1<<31 + 1}, {254, 14<<28 + 1}, {255, 15<<28 + 1},
	} {
		if got, e := Peak(x.level); got != x.want || e != api.OK {
			t.Errorf("%d: got %d, %d; want %d", x.level, got, e, x.want)
		}
	}
}

func TestPeakByTheWords(t *testing.T) {
	for level := range 256 {
		if got, e := Peak(level); got != narrow(peakOf(level)) || e != api.OK {
			t.Errorf("%d: got %d, %d; want %d", level, got, e, peakOf(level))
		}
	}
}

var wrongLevels = []int{-1, 256, -8, -255, 257, 264, 1 << 32, -1 << 32, math.MinInt, math.MaxInt}

var wrongWides = []int{0, -1, 8, -7, 9, 64, 1 << 32, 1<<32 + 1, math.MinInt, math.MaxInt}

func TestPeakWrong(t *testing.T) {
	for _, level := range wrongLevels {
		if got, e := Peak(level); got != 0 || e != api.ErrArg {
			t.Errorf("%d: got %d, %d", level, got, e)
		}
	}
}

func TestStep(t *testing.T) {
	for _, x := range []struct{ level, wide, want int }{
		{160, 7, 8257}, {160, 1, 1<<20 + 1}, {160, 2, 349526}, {160, 3, 149797}, {160, 4, 69906}, {160, 6, 16645},
		{0, 1, 2}, {0, 2, 1}, {0, 7, 1}, {7, 1, 2}, {7, 7, 1}, {8, 1, 3}, {8, 2, 1}, {8, 7, 1},
		{12, 2, 2}, {15, 2, 2}, {16, 1, 5}, {16, 2, 2}, {16, 3, 1},
		{167, 1, 1966081}, {167, 7, 15481}, {255, 1, 15<<28 + 1}, {255, 3, 575218835}, {255, 7, 31704976},
	} {
		if got, e := Step(x.level, x.wide); got != x.want || e != api.OK {
			t.Errorf("%d, %d: got %d, %d; want %d", x.level, x.wide, got, e, x.want)
		}
	}
}

func TestStepByTheWords(t *testing.T) {
	for level := range 256 {
		for wide := 1; wide <= 7; wide++ {
			if got, e := Step(level, wide); got != narrow(stepOf(level, wide)) || e != api.OK {
				t.Errorf("%d, %d: got %d, %d; want %d", level, wide, got, e, stepOf(level, wide))
			}
		}
	}
}

func TestStepWrong(t *testing.T) {
	check := func(level, wide int) {
		t.Helper()
		if got, e := Step(level, wide); got != 0 || e != api.ErrArg {
			t.Errorf("%d, %d: got %d, %d", level, wide, got, e)
		}
	}
	for _, level := range wrongLevels {
		for wide := 1; wide <= 7; wide++ {
			check(level, wide)
		}
		for _, wide := range wrongWides {
			check(level, wide)
		}
	}
	for _, wide := range wrongWides {
		for level := range 256 {
			check(level, wide)
		}
	}
}

// P9.2

// A band by itself, of level 160, has seven bits; its step is 8257. One of level 12 has two; its step is 2.
func TestSmallOfOneBand(t *testing.T) {
	for _, x := range []struct{ level, v, want int }{
		{160, 0, 0}, {160, 4128, 0}, {160, 4129, 1}, {160, -4128, 0}, {160, -4129, -1},
		{160, 8257, 1}, {160, 8257 + 4128, 1}, {160, 8257 + 4129, 2}, {160, -8257 - 4128, -1}, {160, -8257 - 4129, -2},
		{160, 127 * 8257, 127}, {160, -127 * 8257, -127}, {160, 127*8257 + 4129, 127}, {160, -127*8257 - 4129, -127},
		{160, 128 * 8257, 127}, {160, -128 * 8257, -127}, {160, 127*8257 - 4129, 126}, {160, 4129 - 127*8257, -126},
		{160, 1 << 26, 127}, {160, -1 << 26, -127},
		{12, 1, 1}, {12, -1, -1}, {12, 2, 1}, {12, -2, -1}, {12, 3, 2}, {12, -3, -2}, {12, 4, 2}, {12, 5, 3}, {12, -5, -3},
		{12, 6, 3}, {12, 7, 3}, {12, -7, -3}, {12, 8, 3}, {12, -8, -3}, {12, 1 << 26, 3}, {12, -1 << 26, -3},
		{1, 1, 1}, {1, -1, -1}, {1, 2, 1}, {1, 3, 1}, {1, -3, -1}, {8, 1, 0}, {8, 2, 1}, {8, -2, -1}, {8, 9, 1},
		{255, 1 << 26, 2}, {255, -1 << 26, -2}, {255, 15852488, 1}, {255, 15852487, 0}, {255, -15852488, -1}, {255, -15852487, 0},
		{0, 1 << 26, 0}, {0, -1 << 26, 0}, {0, 1, 0},
	} {
		for b := range api.Bands {
			l := alone[api.Levels](b, x.level)
			want := api.Spec{}
			for n := range want {
				if bandOf(n) == b {
					want[n] = x.want
				}
			}
			got, a, e := Small(even[api.Spec](x.v), l)
			if got != want || a != shareOf(l) || e != api.OK {
				t.Errorf("%d of level %d at %d: got %v, %v, %d; want %d", x.v, x.level, b, got, a, e, x.want)
			}
		}
	}
}

// The first band's step is 69906 of four bits, the second's 393217 of one; the others are masked.
func TestSmallOfTwoBands(t *testing.T) {
	l := api.Levels{160, 148, 90, 90, 90, 90}
	for _, x := range []struct {
		what string
		x    api.Spec
		want [16]int
	}{
		{"silence", api.Spec{}, [16]int{}},
		{"one step each", api.Spec{69906, -393217}, [16]int{1, -1}},
		{"half a step each", api.Spec{34953, 196609}, [16]int{1, 1}},
		{"less than half a step each", api.Spec{-34952, -196608}, [16]int{}},
		{"as far as they go", api.Spec{-15 * 69906, 393217}, [16]int{-15, 1}},
		{"farther", api.Spec{-16 * 69906, 2 * 393217}, [16]int{-15, 1}},
		{"the ends", api.Spec{1 << 26, -1 << 26}, [16]int{15, -1}},
		{"all at the end", even[api.Spec](1 << 26), [16]int{15, 1}},
		{"all at the other end", even[api.Spec](-1 << 26), [16]int{-15, -1}},
		{"what is masked alone", with(with(even[api.Spec](1<<26), 0, 0), 1, 0), [16]int{}},
	} {
		got, a, e := Small(x.x, l)
		if got != x.want || a != (api.Alloc{4, 1}) || e != api.OK {
			t.Errorf("%s: got %v, %v, %d; want %v", x.what, got, a, e, x.want)
		}
	}
}

func TestSmallByTheWords(t *testing.T) {
	d := dice(2)
	for i, l := range manyLevels(255) {
		for _, x := range []api.Spec{d.numbers(1 << (i % 27)), even[api.Spec](1 << 26), even[api.Spec](-1 << 26)} {
			got, a, e := Small(x, l)
			if got != smallOf(x, l) || a != shareOf(l) || e != api.OK {
				t.Errorf("%v, %v: got %v, %v, %d; want %v, %v", x, l, got, a, e, smallOf(x, l), shareOf(l))
			}
		}
	}
}

// Of numbers one beside the other, half a step, and as many steps as may be, are where it changes.
func TestSmallWhereItChanges(t *testing.T) {
	for level := range 256 {
		for b := range api.Bands {
			l := with(alone[api.Levels](b, level), (b+1)%6, max(0, level-9))
			a := shareOf(l)
			if a[b] == 0 {
				continue
			}
			step, most := narrow(stepOf(level, a[b])), mostOf(a[b])
			for _, steps := range []int{0, 1, most - 1, most} {
				for _, beside := range []int{-1, 0, 1} {
					v := steps*step + step/2 + beside
					if v > 1<<26 {
						continue
					}
					for _, x := range []api.Spec{even[api.Spec](v), even[api.Spec](-v)} {
						if got, _, e := Small(x, l); got != smallOf(x, l) || e != api.OK {
							t.Errorf("%d, %v: got %v, %d; want %v", x[0], l, got, e, smallOf(x, l))
						}
					}
				}
			}
		}
	}
}

var wrongNumbers = []int{1<<26 + 1, -1<<26 - 1, 1 << 27, 1 << 32, -1 << 32, math.MinInt, math.MaxInt}

func TestSmallWrong(t *testing.T) {
	check := func(x api.Spec, l api.Levels) {
		t.Helper()
		if q, a, e := Small(x, l); q != [16]int{} || a != (api.Alloc{}) || e != api.ErrArg {
			t.Errorf("%v, %v: got %v, %v, %d", x, l, q, a, e)
		}
	}
	for _, v := range wrongNumbers {
		for n := range api.Hop {
			for _, others := range []int{0, 9, 1 << 26} {
				for _, l := range []api.Levels{{}, even[api.Levels](90), even[api.Levels](255), {160}, {5: 160}} {
					check(with(even[api.Spec](others), n, v), l)
				}
			}
			check(alone[api.Spec](n, v), api.Levels{5: 256})
			check(alone[api.Spec](n, v), api.Levels{-1})
		}
	}
	for _, v := range wrongLevels {
		for b := range api.Bands {
			for _, others := range []int{0, 90, 255} {
				check(api.Spec{}, with(even[api.Levels](others), b, v))
				check(even[api.Spec](1<<26), with(even[api.Levels](others), b, v))
			}
		}
	}
	check(api.Spec{0: 1<<26 + 1, 15: -1<<26 - 1}, api.Levels{160})
	check(api.Spec{}, api.Levels{-1, 256})
	check(api.Spec{0: math.MaxInt, 15: math.MinInt}, api.Levels{0: 256, 5: -1})
}

func TestMay(t *testing.T) {
	for _, x := range []struct {
		what string
		q    [16]int
		l    api.Levels
		want bool
	}{
		{"silence of none", [16]int{}, api.Levels{}, true},
		{"silence of all", [16]int{}, even[api.Levels](255), true},
		{"something of none", [16]int{0: 1}, api.Levels{}, false},
		{"something of none, at the last", [16]int{15: -1}, api.Levels{}, false},
		{"the most", [16]int{127}, api.Levels{160}, true},
		{"the least", [16]int{-127}, api.Levels{160}, true},
		{"more than the most", [16]int{128}, api.Levels{160}, false},
		{"less than the least", [16]int{-128}, api.Levels{160}, false},
		{"something beside the band", [16]int{127, 1}, api.Levels{160}, false},
		{"both ends of the last band", [16]int{10: 127, 15: -127}, api.Levels{5: 160}, true},
		{"beyond the last band's end", [16]int{10: 127, 15: -128}, api.Levels{5: 160}, false},
		{"ahead of the last band", [16]int{9: 1, 10: 127}, api.Levels{5: 160}, false},
		{"of two bands", [16]int{-15, 1}, api.Levels{160, 148}, true},
		{"beyond the second band's end", [16]int{-15, 2}, api.Levels{160, 148}, false},
		{"beyond the first band's end", [16]int{-16, 1}, api.Levels{160, 148}, false},
		{"in a band that is masked", [16]int{15, 1, 1}, api.Levels{160, 148, 100}, false},
		{"levels beyond the end", [16]int{}, api.Levels{256}, false},
		{"levels below the end", [16]int{}, api.Levels{5: -1}, false},
		{"all wrong", [16]int{math.MinInt, 15: math.MaxInt}, api.Levels{-1, 256}, false},
	} {
		if got := May(x.q, x.l); got != x.want {
			t.Errorf("%s: got %v", x.what, got)
		}
	}
}

// Each number may be just as far from 0 as its band's bits tell, and 0 alone in a band without bits.
func TestMayByTheWords(t *testing.T) {
	d := dice(3)
	for _, l := range manyLevels(255) {
		ends := endsOf(l)
		for _, q := range [][16]int{{}, ends, turned(ends), d.small(l)} {
			if !May(q, l) {
				t.Errorf("%v, %v: may not be", q, l)
			}
			if _, e := Great(q, l); e != api.OK {
				t.Errorf("%v, %v: great: got %d", q, l, e)
			}
		}
		for n, end := range ends {
			for _, v := range []int{end + 1, -end - 1} {
				if May(alone[[16]int](n, v), l) || May(with(ends, n, v), l) {
					t.Errorf("%d at %d, %v: may be", v, n, l)
				}
			}
		}
	}
}

func TestMayOfWrongLevels(t *testing.T) {
	for _, v := range wrongLevels {
		for b := range api.Bands {
			for _, others := range []int{0, 90, 255} {
				l := with(even[api.Levels](others), b, v)
				if May([16]int{}, l) || May(even[[16]int](1), l) {
					t.Errorf("%v: small numbers may be", l)
				}
			}
		}
	}
}

func TestGreat(t *testing.T) {
	const most = 1 << 26
	for _, x := range []struct {
		what string
		q    [16]int
		l    api.Levels
		want api.Spec
	}{
		{"silence", [16]int{}, even[api.Levels](255), api.Spec{}},
		{"none", [16]int{}, api.Levels{}, api.Spec{}},
		{"one", [16]int{1}, api.Levels{160}, api.Spec{8257}},
		{"one below 0", [16]int{-1}, api.Levels{160}, api.Spec{-8257}},
		{"the most", [16]int{127}, api.Levels{160}, api.Spec{1048639}},
		{"the least", [16]int{-127}, api.Levels{160}, api.Spec{-1048639}},
		{"the last band", [16]int{10: 1, 12: -2, 15: 127}, api.Levels{5: 160}, api.Spec{10: 8257, 12: -16514, 15: 1048639}},
		{"two bands", [16]int{-15, 1}, api.Levels{160, 148}, api.Spec{-1048590, 393217}},
		{"one of two bands", [16]int{0, -1}, api.Levels{160, 148}, api.Spec{0, -393217}},
		{"small steps", [16]int{1}, api.Levels{1}, api.Spec{2}},
		{"not held yet", [16]int{10: 2, 11: -2}, api.Levels{5: 255}, api.Spec{10: 63409952, 11: -63409952}},
		{"held", [16]int{10: 3, 11: -3, 15: 127}, api.Levels{5: 255}, api.Spec{10: most, 11: -most, 15: most}},
		{"held far", [16]int{127}, api.Levels{255}, api.Spec{most}},
		{"held far below", [16]int{-127}, api.Levels{255}, api.Spec{-most}},
		// Each second band has one bit, so its step is its peak: of level 207 less than 2^26, of 208 one more.
		{"not held yet, of one bit", [16]int{0, 1}, api.Levels{219, 207}, api.Spec{1: 62914561}},
		{"held by one", [16]int{0, 1}, api.Levels{220, 208}, api.Spec{1: most}},
		{"held by one, below 0", [16]int{0, -1}, api.Levels{220, 208}, api.Spec{1: -most}},
	} {
		if got, e := Great(x.q, x.l); got != x.want || e != api.OK {
			t.Errorf("%s: got %v, %d; want %v", x.what, got, e, x.want)
		}
	}
}

func TestGreatByTheWords(t *testing.T) {
	d := dice(4)
	for _, l := range manyLevels(255) {
		ends := endsOf(l)
		for _, q := range [][16]int{ends, turned(ends), d.small(l), d.small(l)} {
			if got, e := Great(q, l); got != greatOf(q, l) || e != api.OK {
				t.Errorf("%v, %v: got %v, %d; want %v", q, l, got, e, greatOf(q, l))
			}
		}
	}
}

func TestGreatWrong(t *testing.T) {
	check := func(q [16]int, l api.Levels) {
		t.Helper()
		if x, e := Great(q, l); x != (api.Spec{}) || e != api.ErrArg {
			t.Errorf("%v, %v: got %v, %d", q, l, x, e)
		}
	}
	for _, l := range []api.Levels{{}, {160}, {5: 160}, {160, 148}, even[api.Levels](255), {100, 0, 50, 0, 0, 60}} {
		ends := endsOf(l)
		for n, end := range ends {
			for _, v := range []int{end + 1, -end - 1, 1000, 1 << 32, -1 << 32, math.MinInt, math.MaxInt} {
				check(alone[[16]int](n, v), l)
				check(with(ends, n, v), l)
			}
		}
	}
	for _, v := range wrongLevels {
		for b := range api.Bands {
			for _, others := range []int{0, 90, 255} {
				check([16]int{}, with(even[api.Levels](others), b, v))
				check(even[[16]int](1), with(even[api.Levels](others), b, v))
			}
		}
	}
	check([16]int{0: 128, 15: 1}, api.Levels{160})
	check([16]int{0: math.MinInt, 15: math.MaxInt}, api.Levels{0: -1, 5: 256})
}

// P9.4

func TestGreatNumbersAreOffByHalfAStepAtTheMost(t *testing.T) {
	d := dice(5)
	check := func(x api.Spec) {
		t.Helper()
		l, q, a := measured(t, x)
		y, e := Great(q, l)
		if e != api.OK {
			t.Errorf("%v: got %d", x, e)
		}
		for n, v := range y {
			b := bandOf(n)
			if a[b] == 0 {
				if v != 0 {
					t.Errorf("%v: got %d at %d, where there are no bits", x, v, n)
				}
				continue
			}
			step, e := Step(l[b], a[b])
			if off := max(v-x[n], x[n]-v); 2*off > step || e != api.OK {
				t.Errorf("%v: got %d at %d, which is off by more than half of %d", x, v, n, step)
			}
		}
	}
	for v := range 3000 {
		check(even[api.Spec](v))
		check(api.Spec{0: v, 15: -v})
	}
	for i := range 27 {
		for _, v := range []int{1 << i, 1<<i - 1, -1 << i, 1 - 1<<i} {
			check(even[api.Spec](v))
			for n := range api.Hop {
				check(alone[api.Spec](n, v))
			}
		}
	}
	for i := range 5000 {
		check(d.numbers(1 << (i % 27)))
	}
}

// As it is of numbers by levels that are not theirs.
func TestWhatWasMadeSmallIsSmall(t *testing.T) {
	d := dice(6)
	for i, l := range manyLevels(255) {
		x := d.numbers(1 << (i % 27))
		q, a, e := Small(x, l)
		if e != api.OK || !May(q, l) {
			t.Errorf("%v, %v: got %v, %v, %d, which may not be", x, l, q, a, e)
		}
		measured(t, x)
	}
}

func TestMadeGreatAndSmallAgainItIsTheSame(t *testing.T) {
	d := dice(7)
	for _, l := range manyLevels(200) {
		ends := endsOf(l)
		for _, q := range [][16]int{{}, ends, turned(ends), d.small(l), d.small(l), d.small(l)} {
			x, e1 := Great(q, l)
			again, _, e2 := Small(x, l)
			if again != q || e1 != api.OK || e2 != api.OK {
				t.Errorf("%v, %v: got %v, %d, %d", q, l, again, e1, e2)
			}
		}
	}
}

// R2, R5: what is handed in stays as it is, and what was asked ahead is not to be seen.
func TestNothingIsChangedOrKept(t *testing.T) {
	d := dice(8)
	for range 300 {
		x, l, seed := d.numbers(1<<26), d.levels(255), uint32(d.next())
		q := d.small(l)
		wasX, wasL, wasQ := x, l, q
		small1, a1, _ := Small(x, l)
		great1, _ := Great(q, l)
		noise1, next1, _ := Noise(seed, l)
		Small(d.numbers(1<<26), d.levels(255))
		Great([16]int{}, d.levels(255))
		Noise(uint32(d.next()), d.levels(255))
		small2, a2, _ := Small(x, l)
		great2, _ := Great(q, l)
		noise2, next2, _ := Noise(seed, l)
		if small1 != small2 || a1 != a2 || great1 != great2 || noise1 != noise2 || next1 != next2 {
			t.Errorf("%v, %v, %v, %d: told twice, it is not the same", x, l, q, seed)
		}
		if x != wasX || l != wasL || q != wasQ {
			t.Errorf("%v, %v, %v: changed to %v, %v, %v", wasX, wasL, wasQ, x, l, q)
		}
	}
}
