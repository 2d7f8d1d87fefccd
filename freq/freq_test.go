package freq

import (
	"math"
	"math/big"
	"slices"
	"testing"

	"squelch/api"
)

// dice are numbers that are the same in each run.
type dice uint64

func (d *dice) next() uint64 {
	*d = *d*6364136223846793005 + 1442695040888963407
	x := uint64(*d)
	return x ^ x>>29
}

func (d *dice) below(n int) int { return int((d.next() >> 16) % uint64(n)) }

// counts are n numbers from least to most.
func (d *dice) counts(n, least, most int) []int {
	l := make([]int, n)
	for i := range l {
		l[i] = least + d.below(most-least+1)
	}
	return l
}

// same is n times x.
func same(n, x int) []int { return slices.Repeat([]int{x}, n) }

// with is l with x at the place at.
func with(l []int, at, x int) []int {
	l = slices.Clone(l)
	l[at] = x
	return l
}

// of is the table of these numbers.
func of(c ...int) api.Freq { return api.Freq{C: c} }

// tableOf is the table of these counts, told without the package's own.
func tableOf(l []int) api.Freq {
	f := of(0)
	all := 0
	for _, x := range l {
		all += x
		f.C = append(f.C, all)
	}
	return f
}

// wrong are tables that may not be.
func wrong() map[string]api.Freq {
	long := tableOf(same(257, 1))
	return map[string]api.Freq{
		"nil":                          {},
		"empty":                        {C: []int{}},
		"no symbol":                    of(0),
		"no symbol, and not 0":         of(5),
		"257 symbols":                  long,
		"300 symbols":                  tableOf(same(300, 1)),
		"not from 0":                   of(1, 2),
		"from below 0":                 of(-1, 2),
		"from far below 0":             of(math.MinInt, 0, 1),
		"a symbol without a number":    of(0, 2, 2),
		"the first without a number":   of(0, 0, 2),
		"one in the middle without":    of(0, 1, 1, 2),
		"falling":                      of(0, 3, 2),
		"falling, and rising again":    of(0, 3, 2, 4),
		"below 0":                      of(0, -1),
		"all 0":                        of(0, 0),
		"far below 0":                  of(0, math.MinInt),
		"above the greatest total":     of(0, 16385),
		"above it by the last symbol":  of(0, 16384, 16385),
		"above it in the middle":       of(0, 16385, 16384),
		"far above the greatest total": of(0, 1, math.MaxInt),
	}
}

// right are tables that may be, the edges among them.
func right() map[string]api.Freq {
	d := dice(1)
	return map[string]api.Freq{
		"the least":                  of(0, 1),
		"one symbol, greatest total": of(0, 16384),
		"two":                        of(0, 1, 4),
		"two, greatest total":        of(0, 16383, 16384),
		"two, greatest total, even":  of(0, 8192, 16384),
		"256 symbols":                tableOf(same(256, 1)),
		"256, greatest total":        tableOf(same(256, 64)),
		"255, and one with the rest": tableOf(with(same(256, 1), 255, 16384-255)),
		"one with the rest, and 255": tableOf(with(same(256, 1), 0, 16384-255)),
		"some":                       tableOf(d.counts(17, 1, 900)),
		"many":                       tableOf(d.counts(200, 1, 80)),
	}
}

// wantTable holds an answer against a table.
func wantTable(t *testing.T, what any, f api.Freq, e api.Errno, want api.Freq) {
	t.Helper()
	if e != api.OK || !slices.Equal(f.C, want.C) {
		t.Errorf("%v: got %v, %d; want %v", what, f.C, e, want.C)
	}
}

// wantNone holds an answer against ErrArg.
func wantNone(t *testing.T, what any, f api.Freq, e api.Errno) {
	t.Helper()
	if e != api.ErrArg || len(f.C) != 0 {
		t.Errorf("%v: got %v, %d; want no table, %d", what, f.C, e, api.ErrArg)
	}
}

// P3.1

func TestNew(t *testing.T) {
	for _, x := range []struct{ l, want []int }{
		{[]int{1, 3}, []int{0, 1, 4}},
		{[]int{1}, []int{0, 1}},
		{[]int{16384}, []int{0, 16384}},
		{[]int{3, 1}, []int{0, 3, 4}},
		{[]int{2, 1, 5}, []int{0, 2, 3, 8}},
		{[]int{16383, 1}, []int{0, 16383, 16384}},
		{[]int{1, 16383}, []int{0, 1, 16384}},
		{[]int{8000, 8000, 384}, []int{0, 8000, 16000, 16384}},
	} {
		f, e := New(x.l...)
		wantTable(t, x.l, f, e, of(x.want...))
	}
	for what, want := range right() {
		l := []int{}
		for s := range len(want.C) - 1 {
			l = append(l, want.C[s+1]-want.C[s])
		}
		f, e := New(l...)
		wantTable(t, what, f, e, want)
	}
}

func TestNewOfOneUpTo256(t *testing.T) {
	d := dice(2)
	for n := 1; n <= 256; n++ {
		l := d.counts(n, 1, 64)
		f, e := New(l...)
		wantTable(t, n, f, e, tableOf(l))
	}
}

func TestNewWrong(t *testing.T) {
	for what, l := range map[string][]int{
		"none":                          {},
		"nil":                           nil,
		"257":                           same(257, 1),
		"257 of which one is wrong":     with(same(257, 1), 256, 0),
		"300":                           same(300, 1),
		"a thousand":                    same(1000, 1),
		"0":                             {0},
		"-1":                            {-1},
		"0 at first":                    {0, 1},
		"0 at last":                     {1, 0},
		"0 in the middle":               {5, 0, 5},
		"below 0":                       {5, -1, 5},
		"below 0, and right together":   {16384, -5, 6},
		"far below 0":                   {math.MinInt},
		"far below 0, and far above":    {math.MaxInt, math.MinInt, 5},
		"0 as the 256th":                with(same(256, 1), 255, 0),
		"above the greatest total":      {16385},
		"above it together":             {16384, 1},
		"above it by the first":         {1, 16384},
		"above it by many":              with(same(256, 64), 100, 65),
		"far above":                     {math.MaxInt},
		"2^40":                          {1 << 40},
		"beyond an int, below 1":        {math.MaxInt, math.MaxInt},
		"beyond an int, to 2":           {math.MaxInt, math.MaxInt, 4},
		"beyond an int, to less than 1": {1, math.MaxInt},
		"round an int once, to 5":       {1 << 62, 1 << 62, 1 << 62, 1 << 62, 5},
	} {
		f, e := New(l...)
		wantNone(t, what, f, e)
	}
}

func TestEven(t *testing.T) {
	for n := 1; n <= 256; n++ {
		f, e := Even(n)
		wantTable(t, n, f, e, tableOf(same(n, 1)))
	}
	for _, n := range []int{0, -1, -256, 257, 258, 16384, 1 << 40, math.MaxInt, math.MinInt} {
		f, e := Even(n)
		wantNone(t, n, f, e)
	}
}

func TestCheckAndTotal(t *testing.T) {
	for what, f := range right() {
		if e := Check(f); e != api.OK {
			t.Errorf("%s: got %d", what, e)
		}
		if got, want := Total(f), f.C[len(f.C)-1]; got != want {
			t.Errorf("%s: got %d; want %d", what, got, want)
		}
	}
	for what, f := range wrong() {
		if e := Check(f); e != api.ErrArg {
			t.Errorf("%s: got %d", what, e)
		}
		if got := Total(f); got != 0 {
			t.Errorf("%s: got %d", what, got)
		}
	}
}

func TestCheckFindsEachPlace(t *testing.T) {
	f := tableOf(same(256, 2))
	for at := range f.C {
		for _, x := range []int{f.C[at] - 2, f.C[at] + 2, -1, math.MinInt, math.MaxInt} {
			// The last number alone may be greater.
			if at == 256 && x == f.C[at]+2 {
				continue
			}
			if e := Check(of(with(f.C, at, x)...)); e != api.ErrArg {
				t.Errorf("%d at %d: got %d", x, at, e)
			}
		}
	}
}

func TestSame(t *testing.T) {
	for what, f := range right() {
		for other, g := range right() {
			if got := Same(f, g); got != (what == other) {
				t.Errorf("%s, %s: got %v", what, other, got)
			}
		}
		for other, g := range wrong() {
			if Same(f, g) || Same(g, f) {
				t.Errorf("%s, %s: the same", what, other)
			}
		}
	}
	for what, f := range wrong() {
		if Same(f, f) {
			t.Errorf("%s: may not be, and is the same", what)
		}
	}
	for _, g := range []api.Freq{of(0, 2), of(0, 2, 3), of(0, 2, 3, 8, 9), of(0, 2, 3, 9), of(0, 1, 3, 8), of(0, 2, 4, 8)} {
		if f := of(0, 2, 3, 8); Same(f, g) || Same(g, f) {
			t.Errorf("%v is %v", g.C, f.C)
		}
	}
}

// P3.2

func TestSpan(t *testing.T) {
	for what, f := range right() {
		for s := range len(f.C) - 1 {
			if a, b, e := Span(f, s); a != f.C[s] || b != f.C[s+1] || e != api.OK {
				t.Errorf("%s, %d: got %d, %d, %d", what, s, a, b, e)
			}
		}
		for _, s := range []int{-1, -2, len(f.C) - 1, len(f.C), len(f.C) + 1, 1000, math.MaxInt, math.MinInt} {
			if a, b, e := Span(f, s); a != 0 || b != 0 || e != api.ErrArg {
				t.Errorf("%s, %d: got %d, %d, %d", what, s, a, b, e)
			}
		}
	}
	for what, f := range wrong() {
		for _, s := range []int{0, 1, -1, 255, 256, 257, math.MaxInt, math.MinInt} {
			if a, b, e := Span(f, s); a != 0 || b != 0 || e != api.ErrArg {
				t.Errorf("%s, %d: got %d, %d, %d", what, s, a, b, e)
			}
		}
	}
}

func TestFind(t *testing.T) {
	for what, f := range right() {
		for s := range len(f.C) - 1 {
			first, last := f.C[s], f.C[s+1]-1
			for _, x := range []int{first, (first + last) / 2, last} {
				if got, e := Find(f, x); got != s || e != api.OK {
					t.Errorf("%s, %d: got %d, %d; want %d", what, x, got, e, s)
				}
			}
		}
		all := f.C[len(f.C)-1]
		for _, x := range []int{-1, -2, -all, all, all + 1, 16384, 16385, math.MaxInt, math.MinInt} {
			if got, e := Find(f, x); got != 0 || e != api.ErrArg {
				t.Errorf("%s, %d: got %d, %d", what, x, got, e)
			}
		}
	}
	for what, f := range wrong() {
		for _, x := range []int{0, 1, 2, -1, 100, 16383, 16384, math.MaxInt, math.MinInt} {
			if got, e := Find(f, x); got != 0 || e != api.ErrArg {
				t.Errorf("%s, %d: got %d, %d", what, x, got, e)
			}
		}
	}
}

// P3.3

// slowScale is the chapter's words, one by one, in numbers without a bound.
func slowScale(total int, l []int) api.Freq {
	n := len(l)
	all := new(big.Int)
	for _, x := range l {
		all.Add(all, big.NewInt(int64(x)))
	}
	have := same(n, 1)
	lost := make([]*big.Int, n)
	left := total - n
	for s, x := range l {
		lost[s] = new(big.Int)
		if all.Sign() == 0 {
			continue
		}
		part := new(big.Int).Mul(big.NewInt(int64(x)), big.NewInt(int64(total-n)))
		part.QuoRem(part, all, lost[s])
		have[s] += int(part.Int64())
		left -= int(part.Int64())
	}
	given := make([]bool, n)
	for i := range left {
		if i%n == 0 {
			clear(given)
		}
		to := -1
		for s := range l {
			if !given[s] && (to < 0 || lost[s].Cmp(lost[to]) > 0) {
				to = s
			}
		}
		given[to] = true
		have[to]++
	}
	return tableOf(have)
}

func TestScale(t *testing.T) {
	for _, x := range []struct {
		total   int
		l, want []int
	}{
		{10, []int{0, 1, 2}, []int{1, 3, 6}},
		{10, []int{2, 1, 0}, []int{6, 3, 1}},
		{1, []int{0}, []int{1}},
		{1, []int{7}, []int{1}},
		{16384, []int{0}, []int{16384}},
		{16384, []int{1}, []int{16384}},
		{16384, []int{1 << 40}, []int{16384}},
		{3, []int{9, 0, 9}, []int{1, 1, 1}},
		{4, []int{9, 0, 9}, []int{2, 1, 1}},
		{4, []int{8, 0, 9}, []int{1, 1, 2}},
		{5, []int{8, 0, 9}, []int{2, 1, 2}},
		{5, []int{0, 1, 0}, []int{1, 3, 1}},
		{12, []int{5, 3}, []int{7, 5}},
		{2, []int{0, 0}, []int{1, 1}},
		{3, []int{0, 0}, []int{2, 1}},
		{4, []int{0, 0}, []int{2, 2}},
		{9, []int{0, 0}, []int{5, 4}},
		{8, []int{0, 0, 0}, []int{3, 3, 2}},
		{7, []int{1, 1, 1}, []int{3, 2, 2}},
		{8, []int{1, 1, 1}, []int{3, 3, 2}},
		{8, []int{1, 1, 2}, []int{2, 2, 4}},
		{16384, []int{1 << 40, 0}, []int{16383, 1}},
		{16384, []int{0, 1 << 40}, []int{1, 16383}},
		{16384, []int{1, 1 << 40}, []int{1, 16383}},
		{16384, []int{1 << 40, 1 << 40}, []int{8192, 8192}},
		{16383, []int{1 << 40, 1 << 40}, []int{8192, 8191}},
		{16383, []int{1<<40 - 1, 1 << 40}, []int{8191, 8192}},
	} {
		f, e := Scale(x.total, x.l...)
		wantTable(t, x.l, f, e, tableOf(x.want))
	}
}

func TestScaleOfMany(t *testing.T) {
	one := with(same(256, 0), 77, 1<<40)
	for _, total := range []int{256, 257, 300, 511, 512, 513, 1000, 16383, 16384} {
		for _, l := range [][]int{same(256, 0), same(256, 1), same(256, 1<<40), one, with(same(256, 1<<40), 255, 0)} {
			f, e := Scale(total, l...)
			wantTable(t, total, f, e, slowScale(total, l))
		}
	}
}

func TestScaleOfSmallCounts(t *testing.T) {
	for n := 1; n <= 4; n++ {
		for i := range 256 {
			l := []int{i % 4, i / 4 % 4, i / 16 % 4, i / 64}[:n]
			for total := n; total < n+14; total++ {
				f, e := Scale(total, l...)
				wantTable(t, l, f, e, slowScale(total, l))
			}
		}
	}
}

// scaled are totals and counts of all sizes.
func scaled(d *dice) (int, []int) {
	n := 1 + d.below(256)
	if d.below(2) == 0 {
		n = 1 + d.below(6)
	}
	return n + d.below(16384-n+1), d.counts(n, 0, 1<<d.below(41))
}

func TestScaleOfAnyCounts(t *testing.T) {
	d := dice(3)
	for range 3000 {
		total, l := scaled(&d)
		f, e := Scale(total, l...)
		wantTable(t, l, f, e, slowScale(total, l))
		// With as many as there are nothing is left to share.
		f, e = Scale(len(l), l...)
		wantTable(t, l, f, e, tableOf(same(len(l), 1)))
	}
}

func TestScaleWrong(t *testing.T) {
	for _, x := range []struct {
		what  string
		total int
		l     []int
	}{
		{"none", 10, nil},
		{"none, and none in all", 0, []int{}},
		{"257", 16384, same(257, 1)},
		{"257 of nothing", 257, same(257, 0)},
		{"a thousand", 16384, same(1000, 1)},
		{"total too small by one", 2, []int{1, 1, 1}},
		{"total too small by one, of 256", 255, same(256, 1)},
		{"total 0", 0, []int{1}},
		{"total below 0", -1, []int{1}},
		{"total far below 0", math.MinInt, []int{1}},
		{"total too great by one", 16385, []int{1}},
		{"total too great by one, of 256", 16385, same(256, 1)},
		{"total far too great", math.MaxInt, []int{1}},
		{"below 0", 10, []int{-1}},
		{"the first below 0", 10, []int{-1, 2}},
		{"the last below 0", 10, []int{2, -1}},
		{"below 0, and 0 together", 10, []int{1, -1}},
		{"far below 0", 10, []int{math.MinInt, 1}},
		{"the 256th below 0", 16384, with(same(256, 1), 255, -1)},
		{"above 2^40", 10, []int{1<<40 + 1}},
		{"the first above 2^40", 10, []int{1<<40 + 1, 0}},
		{"the last above 2^40", 10, []int{0, 1<<40 + 1}},
		{"far above 2^40", 10, []int{math.MaxInt, math.MaxInt}},
		{"above 2^40, with nothing to share", 2, []int{1<<40 + 1, 1}},
	} {
		f, e := Scale(x.total, x.l...)
		wantNone(t, x.what, f, e)
	}
}

// P3.4

func TestEachNumberIsJustOneSymbols(t *testing.T) {
	for what, f := range right() {
		next := 0
		for s := range len(f.C) - 1 {
			a, b, _ := Span(f, s)
			if a != next || b <= a {
				t.Fatalf("%s: %d has %d to %d, behind %d", what, s, a, b, next)
			}
			for x := a; x < b; x++ {
				if got, e := Find(f, x); got != s || e != api.OK {
					t.Fatalf("%s, %d: got %d, %d; want %d", what, x, got, e, s)
				}
			}
			next = b
		}
		if next != Total(f) {
			t.Errorf("%s: ended at %d of %d", what, next, Total(f))
		}
	}
}

func TestScaledWhatFollows(t *testing.T) {
	d := dice(4)
	for range 500 {
		total, l := scaled(&d)
		f, e := Scale(total, l...)
		if e != api.OK || Check(f) != api.OK || Total(f) != total || len(f.C) != len(l)+1 {
			t.Fatalf("%d of %v: got %v, %d", total, l, f.C, e)
		}
		has := func(s int) int { return f.C[s+1] - f.C[s] }
		for s := range l {
			for r := range l {
				if l[s] > l[r] && has(s) < has(r)-1 {
					t.Fatalf("%d of %v: %d has %d, and %d has %d", total, l, s, has(s), r, has(r))
				}
			}
		}
	}
}

func TestWhatIsMadeMayBe(t *testing.T) {
	d := dice(5)
	for range 500 {
		n := 1 + d.below(256)
		f, _ := New(d.counts(n, 1, 16384/n)...)
		g, _ := Even(n)
		if Check(f) != api.OK || Check(g) != api.OK || Total(g) != n || !Same(f, f) {
			t.Fatalf("%d: got %v, %v", n, f.C, g.C)
		}
		if s, e := Scale(n, same(n, 0)...); e != api.OK || !Same(s, g) {
			t.Fatalf("%d: got %v, %d", n, s.C, e)
		}
	}
}

// The rules that hold everywhere

func TestNothingIsShared(t *testing.T) {
	given := []int{2, 1, 5}
	for what, call := range map[string]func() api.Freq{
		"New":                   func() api.Freq { f, _ := New(given...); return f },
		"Even":                  func() api.Freq { f, _ := Even(3); return f },
		"Scale":                 func() api.Freq { f, _ := Scale(100, given...); return f },
		"Scale without a rest":  func() api.Freq { f, _ := Scale(3, given...); return f },
		"Scale to as many":      func() api.Freq { f, _ := Scale(8, given...); return f },
		"Scale of nothing else": func() api.Freq { f, _ := Scale(9, 0, 0); return f },
	} {
		f := call()
		kept := slices.Clone(f.C)
		other := call()
		for i := range f.C {
			f.C[i] = -7
		}
		if !slices.Equal(given, []int{2, 1, 5}) || !slices.Equal(other.C, kept) {
			t.Errorf("%s: writing into the answer changes what was handed in, or another answer", what)
		}
		clear(given)
		if !slices.Equal(other.C, kept) {
			t.Errorf("%s: writing into what was handed in changes the answer", what)
		}
		copy(given, []int{2, 1, 5})
		if again := call(); !slices.Equal(again.C, kept) {
			t.Errorf("%s: asked again got %v; ahead %v", what, again.C, kept)
		}
	}
}

func TestWhatIsHandedInStaysAsItIs(t *testing.T) {
	room := []int{0, 9, 3, 5, -4, -4}
	kept := slices.Clone(room)
	f := api.Freq{C: []int{0, 2, 3, 8, 7, 7}[:4]}
	for _, call := range []func(){
		func() { New(room[1:4]...) }, func() { New(room[:4]...) }, func() { Scale(100, room[:4]...) }, func() { Scale(4, room[:4]...) }, func() { Scale(100, room...) },
		func() { Check(f) }, func() { Total(f) }, func() { Span(f, 1) }, func() { Find(f, 5) }, func() { Same(f, f) },
	} {
		call()
		if !slices.Equal(room, kept) || !slices.Equal(f.C[:6], []int{0, 2, 3, 8, 7, 7}) {
			t.Fatalf("now %v, %v", room, f.C[:6])
		}
	}
}
