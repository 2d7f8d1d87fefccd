package lapped

import (
	"math"
	"math/big"
	"slices"
	"testing"

	"squelch/api"
)

// P7.1

func TestCheck(t *testing.T) {
	for _, v := range []int{0, 1, -1, 32767, -32768} {
		if e := Check(even[api.Pcm](v)); e != api.OK {
			t.Errorf("all %d: got %d", v, e)
		}
		for at := range api.Hop {
			if e := Check(alone[api.Pcm](at, v)); e != api.OK {
				t.Errorf("%d at %d: got %d", v, at, e)
			}
		}
	}
}

var wrongSamples = []int{-32769, 32768, -65536, 65536, 1 << 32, -1 << 32, math.MinInt, math.MaxInt}

func TestCheckWrong(t *testing.T) {
	for _, v := range wrongSamples {
		for at := range api.Hop {
			if e := Check(alone[api.Pcm](at, v)); e != api.ErrArg {
				t.Errorf("%d at %d: got %d", v, at, e)
			}
		}
		if e := Check(even[api.Pcm](v)); e != api.ErrArg {
			t.Errorf("all %d: got %d", v, e)
		}
	}
}

func TestForwardOfSilence(t *testing.T) {
	if x, e := Forward(api.Pcm{}, api.Pcm{}); x != (api.Spec{}) || e != api.OK {
		t.Errorf("got %v, %d", x, e)
	}
}

// One sample alone: 10000 by its weight, 823219 in 2^24, by the cosine at 17 of the circle's 128 points, 11266890 in 2^24, in sixteenths.
func TestForwardOfOneSample(t *testing.T) {
	if x, e := Forward(api.Pcm{10000}, api.Pcm{}); x[0] != 5272 || e != api.OK {
		t.Errorf("ahead: got %v, %d", x, e)
	}
	// The last sample's weight is the first one's; its cosine is that at 79, -12431097 in 2^24.
	if x, e := Forward(api.Pcm{}, api.Pcm{15: 10000}); x[0] != -5817 || e != api.OK {
		t.Errorf("behind: got %v, %d", x, e)
	}
}

func checkForward(t *testing.T, what string, prev, cur api.Pcm) {
	t.Helper()
	want := forwardOf(prev, cur)
	if got, e := Forward(prev, cur); got != want || e != api.OK {
		t.Errorf("%s: %v, %v: got %v, %d; want %v", what, prev, cur, got, e, want)
	}
}

func TestForwardByTheWords(t *testing.T) {
	d := dice(1)
	for range 300 {
		checkForward(t, "any", d.samples(), d.samples())
	}
}

func TestForwardOfOneSampleByTheWords(t *testing.T) {
	for n := range api.Hop {
		for _, v := range []int{1, -1, 2, -2, 3, 1000, -1000, 32767, -32768} {
			checkForward(t, "ahead", alone[api.Pcm](n, v), api.Pcm{})
			checkForward(t, "behind", api.Pcm{}, alone[api.Pcm](n, v))
		}
	}
}

func TestForwardAtBothEnds(t *testing.T) {
	ends := []int{-32768, 32767, 0}
	for _, a := range ends {
		for _, b := range ends {
			checkForward(t, "ends", even[api.Pcm](a), even[api.Pcm](b))
		}
	}
	for k := range api.Hop {
		for _, sign := range []int{-1, 1} {
			prev, cur := loudest(k, sign)
			checkForward(t, "loudest", prev, cur)
		}
	}
}

// A sample by its weight is a half here, and which way it goes is seen in the number.
func TestForwardRoundsASampleByItsWeightUp(t *testing.T) {
	for _, x := range []struct{ n, v, k, want int }{
		{4, 3584, 13, -3598},
		{4, 3584, 15, 23085},
		{4, 5632, 9, -9362},
		{4, -31232, 1, 183257},
		{4, -23040, 5, -93890},
		{4, -22016, 1, 129181},
	} {
		if !isHalf(times(wide(x.v), windowAt(x.n)), 16) {
			t.Errorf("%d at %d is no half", x.v, x.n)
		}
		got, e := Forward(alone[api.Pcm](x.n, x.v), api.Pcm{})
		if got[x.k] != x.want || e != api.OK {
			t.Errorf("%d at %d: number %d is %d, %d; want %d", x.v, x.n, x.k, got[x.k], e, x.want)
		}
	}
}

func TestForwardRoundsTheSumUp(t *testing.T) {
	for _, x := range []struct{ first, fourth, want int }{
		{1289, 794, 2510},
		{8636, 1475, 7953},
		{15983, 2156, 13396},
		{15392, -32232, -66167},
		{22739, -31551, -60724},
		{-32203, -29207, -84289},
	} {
		prev := api.Pcm{0: x.first, 3: x.fourth}
		if !isHalf(forwardSum(prev, api.Pcm{}, 0), 28) {
			t.Errorf("%d, %d: the sum is no half", x.first, x.fourth)
		}
		if got, e := Forward(prev, api.Pcm{}); got[0] != x.want || e != api.OK {
			t.Errorf("%d, %d: got %d, %d; want %d", x.first, x.fourth, got[0], e, x.want)
		}
	}
}

func TestForwardWrong(t *testing.T) {
	good := even[api.Pcm](7)
	for _, v := range wrongSamples {
		for at := range api.Hop {
			bad := with(good, at, v)
			for _, x := range [][2]api.Pcm{{bad, good}, {good, bad}, {bad, bad}, {bad, {}}, {{}, bad}} {
				if got, e := Forward(x[0], x[1]); got != (api.Spec{}) || e != api.ErrArg {
					t.Errorf("%v, %v: got %v, %d", x[0], x[1], got, e)
				}
			}
		}
	}
}

// P7.2

func TestInverseOfSilence(t *testing.T) {
	if w, e := Inverse(api.Spec{}); w != (api.Wave{}) || e != api.OK {
		t.Errorf("got %v, %d", w, e)
	}
}

// One number alone: the cosines at 17 and at 79 of the circle's 128 points, 11266890 and -12431097 in 2^24, by the weight, 823219 in 2^24.
func TestInverseOfOneNumber(t *testing.T) {
	w, e := Inverse(api.Spec{1 << 20})
	if w[0] != 69105 || w[31] != -76246 || e != api.OK {
		t.Errorf("got %v, %d", w, e)
	}
}

func checkInverse(t *testing.T, what string, x api.Spec) {
	t.Helper()
	want := inverseOf(x)
	if got, e := Inverse(x); got != want || e != api.OK {
		t.Errorf("%s: %v: got %v, %d; want %v", what, x, got, e, want)
	}
}

func TestInverseByTheWords(t *testing.T) {
	d := dice(2)
	for i := range 400 {
		checkInverse(t, "any", d.numbers(1<<(i%27)))
	}
}

func TestInverseOfOneNumberByTheWords(t *testing.T) {
	for k := range api.Hop {
		for _, v := range []int{1, -1, 16, -16, 12345, -12345, 1 << 26, -1 << 26, 1<<26 - 1, 1 - 1<<26} {
			checkInverse(t, "one", alone[api.Spec](k, v))
		}
	}
}

// Where all numbers are at their ends the way that adds up, a sum is beyond 2^31 behind its first rounding.
func TestInverseAtBothEnds(t *testing.T) {
	checkInverse(t, "greatest", even[api.Spec](1<<26))
	checkInverse(t, "least", even[api.Spec](-1<<26))
	beyond := false
	for n := range 2 * api.Hop {
		for _, sign := range []int{-1, 1} {
			x := farthest(n, sign)
			checkInverse(t, "farthest", x)
			beyond = beyond || roundOf(inverseSum(x, n), 20).CmpAbs(powerOfTwo(31)) > 0
		}
	}
	if !beyond {
		t.Error("no sum is beyond 2^31")
	}
}

// The sum is a half here, and which way it goes is seen in the wave.
func TestInverseRoundsTheSumUp(t *testing.T) {
	for _, x := range []struct{ k, v, want int }{
		{0, 19136512, 1261167},
		{3, 13565952, 1203481},
		{3, 22872064, 2029057},
		{0, -19136512, -1261166},
		{3, -59310080, -5261593},
		{3, -50003968, -4436017},
	} {
		l := alone[api.Spec](x.k, x.v)
		if !isHalf(inverseSum(l, 0), 20) {
			t.Errorf("%d at %d: the sum is no half", x.v, x.k)
		}
		if got, e := Inverse(l); got[0] != x.want || e != api.OK {
			t.Errorf("%d at %d: got %d, %d; want %d", x.v, x.k, got[0], e, x.want)
		}
	}
}

func TestInverseRoundsTheProductUp(t *testing.T) {
	for _, x := range []struct{ k, v, want int }{
		{0, 43719359, 2881267},
		{4, 62250374, 2058048},
		{7, 12598087, 1234829},
		{0, -43719359, -2881266},
		{4, -62250374, -2058047},
		{7, -12598087, -1234828},
	} {
		l := alone[api.Spec](x.k, x.v)
		if !isHalf(inverseProduct(l, 0), 27) {
			t.Errorf("%d at %d: the product is no half", x.v, x.k)
		}
		if got, e := Inverse(l); got[0] != x.want || e != api.OK {
			t.Errorf("%d at %d: got %d, %d; want %d", x.v, x.k, got[0], e, x.want)
		}
	}
}

var wrongNumbers = []int{1<<26 + 1, -1<<26 - 1, 1 << 27, -1 << 27, 1 << 40, math.MinInt, math.MaxInt}

func TestInverseWrong(t *testing.T) {
	for _, v := range wrongNumbers {
		for at := range api.Hop {
			if got, e := Inverse(with(even[api.Spec](9), at, v)); got != (api.Wave{}) || e != api.ErrArg {
				t.Errorf("%d at %d: got %v, %d", v, at, got, e)
			}
		}
	}
}

// P7.3

func TestLap(t *testing.T) {
	p, left, e := Lap(api.Tail{256, 100, -300, 0, 5}, api.Wave{256, 156, 44, -512, 0, 512, 16: 7, 17: -8, 31: 9})
	if p != (api.Pcm{2, 1, -1, -2, 0, 2}) || left != (api.Tail{0: 7, 1: -8, 15: 9}) || e != api.OK {
		t.Errorf("got %v, %v, %d", p, left, e)
	}
}

func TestLapRoundsUpAndHolds(t *testing.T) {
	for _, x := range []struct{ sum, want int }{
		{0, 0},
		{127, 0},
		{128, 1},
		{129, 1},
		{383, 1},
		{384, 2},
		{640, 3},
		{-127, 0},
		{-128, 0},
		{-129, -1},
		{-384, -1},
		{-385, -2},
		{-640, -2},
		{32767 * 256, 32767},
		{32767*256 - 128, 32767},
		{32767*256 - 129, 32766},
		{32767*256 + 127, 32767},
		{32767*256 + 128, 32767},
		{32768 * 256, 32767},
		{1 << 40, 32767},
		{1 << 41, 32767},
		{-32768 * 256, -32768},
		{-32768*256 + 127, -32768},
		{-32768*256 + 128, -32767},
		{-32768*256 - 128, -32768},
		{-32768*256 - 129, -32768},
		{-32769 * 256, -32768},
		{-1 << 40, -32768},
		{-1 << 41, -32768},
	} {
		for at := range api.Hop {
			half := x.sum / 2
			tail, wave := alone[api.Tail](at, half), alone[api.Wave](at, x.sum-half)
			if p, left, e := Lap(tail, wave); p != alone[api.Pcm](at, x.want) || left != (api.Tail{}) || e != api.OK {
				t.Errorf("%d at %d: got %v, %v, %d; want %d", x.sum, at, p, left, e, x.want)
			}
		}
	}
}

// The whole sum is rounded, not each part of it.
func TestLapRoundsTheSum(t *testing.T) {
	p, _, e := Lap(api.Tail{64, 128, -128, 100}, api.Wave{64, 128, -128, 27})
	if p != (api.Pcm{1, 1, -1, 0}) || e != api.OK {
		t.Errorf("got %v, %d", p, e)
	}
}

func checkLap(t *testing.T, tail api.Tail, wave api.Wave) {
	t.Helper()
	p, left := lapOf(tail, wave)
	gotP, gotLeft, e := Lap(tail, wave)
	if gotP != p || gotLeft != left || e != api.OK {
		t.Errorf("%v, %v: got %v, %v, %d; want %v, %v", tail, wave, gotP, gotLeft, e, p, left)
	}
}

func TestLapByTheWords(t *testing.T) {
	d := dice(3)
	for i := range 1000 {
		checkLap(t, d.tail(1<<(i%41)), d.wave(1<<(i%41)))
	}
}

func TestLapAtBothEnds(t *testing.T) {
	ends := []int{-1 << 40, 1 << 40, 1 - 1<<40, 1<<40 - 1, 0}
	for _, a := range ends {
		for _, b := range ends {
			checkLap(t, even[api.Tail](a), even[api.Wave](b))
		}
		for at := range 2 * api.Hop {
			checkLap(t, alone[api.Tail](at%16, a), alone[api.Wave](at, a))
		}
	}
}

func TestLapWrong(t *testing.T) {
	for _, v := range []int{1<<40 + 1, -1<<40 - 1, 1 << 41, -1 << 41, math.MinInt, math.MaxInt} {
		for at := range 2 * api.Hop {
			wave := with(even[api.Wave](300), at, v)
			if p, left, e := Lap(even[api.Tail](5), wave); p != (api.Pcm{}) || left != (api.Tail{}) || e != api.ErrArg {
				t.Errorf("wave, %d at %d: got %v, %v, %d", v, at, p, left, e)
			}
		}
		for at := range api.Hop {
			tail := with(even[api.Tail](300), at, v)
			if p, left, e := Lap(tail, even[api.Wave](5)); p != (api.Pcm{}) || left != (api.Tail{}) || e != api.ErrArg {
				t.Errorf("tail, %d at %d: got %v, %v, %d", v, at, p, left, e)
			}
		}
	}
}

func checkBack(t *testing.T, tail api.Tail, l ...api.Spec) {
	t.Helper()
	frames, left := backOf(tail, l)
	got, gotLeft, e := Back(tail, l...)
	if !slices.Equal(got, frames) || gotLeft != left || e != api.OK {
		t.Errorf("%v, %v: got %v, %v, %d; want %v, %v", tail, l, got, gotLeft, e, frames, left)
	}
}

func TestBackOfNoneOneAndSeveral(t *testing.T) {
	d := dice(4)
	for n := range 12 {
		l := make([]api.Spec, n)
		for i := range l {
			l[i] = d.numbers(1 << (18 + i%9))
		}
		checkBack(t, api.Tail{}, l...)
		checkBack(t, d.tail(1<<23), l...)
		checkBack(t, d.tail(1<<40), l...)
	}
}

func TestBackIsInverseAndLapOfEach(t *testing.T) {
	d := dice(6)
	for range 20 {
		l := []api.Spec{d.numbers(1 << 20), d.numbers(1 << 24), {}, d.numbers(1 << 26)}
		tail := d.tail(1 << 22)
		got, left, e := Back(tail, l...)
		if len(got) != len(l) || e != api.OK {
			t.Fatalf("got %v, %d", got, e)
		}
		for i, x := range l {
			w, e1 := Inverse(x)
			p, next, e2 := Lap(tail, w)
			if got[i] != p || e1 != api.OK || e2 != api.OK {
				t.Errorf("%d: got %v; want %v, %d, %d", i, got[i], p, e1, e2)
			}
			tail = next
		}
		if left != tail {
			t.Errorf("got %v; want %v", left, tail)
		}
	}
}

// Of no numbers nothing is lapped: the tail is as it was, and nothing is asked of it.
func TestBackOfNone(t *testing.T) {
	for _, tail := range []api.Tail{{}, {1, -2, 15: 3}, even[api.Tail](1 << 40), even[api.Tail](1<<40 + 1)} {
		if frames, left, e := Back(tail); len(frames) != 0 || left != tail || e != api.OK {
			t.Errorf("%v: got %v, %v, %d", tail, frames, left, e)
		}
	}
}

func TestBackWrong(t *testing.T) {
	good := even[api.Spec](1 << 20)
	check := func(what string, tail api.Tail, l ...api.Spec) {
		t.Helper()
		if frames, left, e := Back(tail, l...); len(frames) != 0 || left != (api.Tail{}) || e != api.ErrArg {
			t.Errorf("%s: got %v, %v, %d", what, frames, left, e)
		}
	}
	for _, v := range wrongNumbers {
		for _, at := range []int{0, 7, 15} {
			bad := with(good, at, v)
			check("alone", even[api.Tail](3), bad)
			check("first", even[api.Tail](3), bad, good, good)
			check("between", even[api.Tail](3), good, bad, good)
			check("last", even[api.Tail](3), good, good, bad)
		}
	}
	for _, v := range []int{1<<40 + 1, -1<<40 - 1, math.MinInt, math.MaxInt} {
		for _, at := range []int{0, 7, 15} {
			tail := alone[api.Tail](at, v)
			check("the tail", tail, good)
			check("the tail, of several", tail, good, good, good)
			check("the tail, and numbers", tail, even[api.Spec](1<<26+1))
		}
	}
}

func TestEnergy(t *testing.T) {
	for _, x := range []struct {
		what string
		x    api.Spec
		want uint64
	}{
		{"silence", api.Spec{}, 0},
		{"one", api.Spec{1}, 1},
		{"one below 0", api.Spec{15: -1}, 1},
		{"three and four", api.Spec{2: 3, 9: -4}, 25},
		{"the first at its end", api.Spec{1 << 26}, 1 << 52},
		{"the last at its other end", api.Spec{15: -1 << 26}, 1 << 52},
		{"all at their ends", even[api.Spec](1 << 26), 1 << 56},
		{"all at their other ends", even[api.Spec](-1 << 26), 1 << 56},
	} {
		if got := Energy(x.x); got != x.want {
			t.Errorf("%s: got %d; want %d", x.what, got, x.want)
		}
	}
}

func TestEnergyByTheWords(t *testing.T) {
	d := dice(7)
	for i := range 500 {
		x := d.numbers(1 << (i % 27))
		if got := new(big.Int).SetUint64(Energy(x)); got.Cmp(energyOf(x)) != 0 {
			t.Errorf("%v: got %d; want %d", x, got, energyOf(x))
		}
	}
}

func TestEnergyOfNumbersThatMayNotBe(t *testing.T) {
	for _, v := range wrongNumbers {
		for at := range api.Hop {
			if got := Energy(with(even[api.Spec](9), at, v)); got != 0 {
				t.Errorf("%d at %d: got %d", v, at, got)
			}
		}
	}
}

// P7.4

func TestNumbersOfSamplesMayBe(t *testing.T) {
	check := func(prev, cur api.Pcm) {
		t.Helper()
		x, e1 := Forward(prev, cur)
		w, e2 := Inverse(x)
		_, _, e3 := Lap(api.Tail(w[16:]), w)
		if e1 != api.OK || e2 != api.OK || e3 != api.OK {
			t.Errorf("%v, %v: got %d, %d, %d", prev, cur, e1, e2, e3)
		}
	}
	for k := range api.Hop {
		for _, sign := range []int{-1, 1} {
			check(loudest(k, sign))
		}
	}
	for _, x := range talks() {
		for i := range x.frames[1:] {
			check(x.frames[i], x.frames[i+1])
		}
	}
}

func TestWavesOfNumbersMayBe(t *testing.T) {
	for n := range 2 * api.Hop {
		for _, sign := range []int{-1, 1} {
			w, e1 := Inverse(farthest(n, sign))
			_, _, e2 := Lap(api.Tail(w[16:]), w)
			if e1 != api.OK || e2 != api.OK {
				t.Errorf("%d: got %d, %d", n, e1, e2)
			}
		}
	}
}

func TestSamplesComeBack(t *testing.T) {
	for _, x := range talks() {
		numbers := make([]api.Spec, len(x.frames)-1)
		for i := range numbers {
			got, e := Forward(x.frames[i], x.frames[i+1])
			if e != api.OK {
				t.Fatalf("%s, %d: got %d", x.what, i, e)
			}
			numbers[i] = got
		}
		out, _, e := Back(api.Tail{}, numbers...)
		if len(out) != len(numbers) || e != api.OK {
			t.Fatalf("%s: got %d frames, %d", x.what, len(out), e)
		}
		// Of the first frame one half alone was told.
		for i := 1; i < len(out); i++ {
			if off := apart(out[i], x.frames[i]); off > 4 {
				t.Errorf("%s, %d: got %v; want %v, off by %d", x.what, i, out[i], x.frames[i], off)
			}
		}
	}
}

// Ahead of the first frame was silence, whose tail is 0: it comes back, and so does the frame.
func TestTheFirstFrameBehindSilenceComesBack(t *testing.T) {
	d := dice(8)
	for range 200 {
		first, second := d.samples(), d.samples()
		x1, e1 := Forward(api.Pcm{}, first)
		x2, e2 := Forward(first, second)
		out, _, e3 := Back(api.Tail{}, x1, x2)
		if e1 != api.OK || e2 != api.OK || e3 != api.OK {
			t.Fatalf("got %d, %d, %d", e1, e2, e3)
		}
		if apart(out[0], api.Pcm{}) > 4 || apart(out[1], first) > 4 {
			t.Errorf("got %v; want silence, and %v", out, first)
		}
	}
}

func TestSilenceIsSilence(t *testing.T) {
	x, e := Forward(api.Pcm{}, api.Pcm{})
	if x != (api.Spec{}) || e != api.OK || Energy(x) != 0 {
		t.Errorf("numbers: got %v, %d", x, e)
	}
	p, left, e := Lap(api.Tail{}, api.Wave{})
	if p != (api.Pcm{}) || left != (api.Tail{}) || e != api.OK {
		t.Errorf("samples: got %v, %v, %d", p, left, e)
	}
	frames, left, e := Back(api.Tail{}, x, x, x)
	if !slices.Equal(frames, make([]api.Pcm, 3)) || left != (api.Tail{}) || e != api.OK {
		t.Errorf("there and back: got %v, %v, %d", frames, left, e)
	}
}

// R2, R5: what is handed in stays as it is, what was answered is the caller's own, and what was asked ahead is not to be seen.
func TestNothingIsSharedOrChanged(t *testing.T) {
	d := dice(9)
	l := []api.Spec{d.numbers(1 << 24), d.numbers(1 << 24)}
	was := slices.Clone(l)
	tail := d.tail(1 << 24)
	first, left1, _ := Back(tail, l...)
	if !slices.Equal(l, was) {
		t.Errorf("changed to %v", l)
	}
	want := slices.Clone(first)
	clear(l)
	if !slices.Equal(first, want) {
		t.Errorf("what was answered hangs on what was handed in: %v", first)
	}
	clear(first)
	Forward(d.samples(), d.samples())
	second, left2, _ := Back(tail, was...)
	if !slices.Equal(second, want) || left1 != left2 {
		t.Errorf("got %v, %v; want %v, %v", second, left2, want, left1)
	}
}

// isHalf tells whether v by 2^by is a whole number and a half.
func isHalf(v *big.Int, by int) bool {
	rest := new(big.Int).Mod(v, powerOfTwo(by))
	return rest.Cmp(powerOfTwo(by-1)) == 0
}

// apart is by how much two frames' samples differ at the most.
func apart(a, b api.Pcm) int {
	most := 0
	for i := range a {
		most = max(most, a[i]-b[i], b[i]-a[i])
	}
	return most
}
