package decoder

import (
	"math"
	"testing"

	"squelch/api"
)

// P11.1

func TestStart(t *testing.T) {
	want := api.Synth{T: api.Tail{}, L: api.Levels{}, Live: false, Hush: false, Seed: 1}
	for range 2 {
		if s := Start(); s != want || Check(s) != api.OK {
			t.Errorf("got %v", s)
		}
		wantStep(t, "between", Start(), bytesOf(api.Frame{Kind: api.Sid, L: even[api.Levels](255)}, api.Levels{}))
	}
}

func TestCheck(t *testing.T) {
	const most = 1 << 40
	for _, x := range []struct {
		what string
		s    api.Synth
	}{
		{"nothing", api.Synth{}},
		{"Live", api.Synth{Live: true}},
		{"Hush", api.Synth{Hush: true}},
		{"the greatest tail", api.Synth{T: even[api.Tail](most)}},
		{"the least tail", api.Synth{T: even[api.Tail](-most)}},
		{"the greatest levels", api.Synth{L: even[api.Levels](255)}},
		{"the greatest seed", api.Synth{Seed: math.MaxUint32}},
		{"all", api.Synth{T: even[api.Tail](-most), L: even[api.Levels](255), Live: true, Seed: math.MaxUint32}},
	} {
		if e := Check(x.s); e != api.OK {
			t.Errorf("%s: got %d", x.what, e)
		}
	}
	for _, s := range states() {
		if e := Check(s); e != api.OK {
			t.Errorf("%v: got %d", s, e)
		}
	}
}

// Each number of a tail, and of levels, about the bounds of what may be.
func TestCheckAtTheBounds(t *testing.T) {
	for _, s := range states() {
		for n := range api.Hop {
			for _, v := range []int{-1 << 40, -1<<40 - 1, 1 << 40, 1<<40 + 1} {
				wantCheck(t, api.Synth{T: with(s.T, n, v), L: s.L, Live: s.Live, Hush: s.Hush, Seed: s.Seed})
			}
		}
		for b := range api.Bands {
			for _, v := range []int{-1, 0, 255, 256} {
				wantCheck(t, api.Synth{T: s.T, L: with(s.L, b, v), Live: s.Live, Hush: s.Hush, Seed: s.Seed})
			}
		}
	}
}

func wantCheck(t *testing.T, s api.Synth) {
	t.Helper()
	want := api.OK
	if !mayOf(s) {
		want = api.ErrArg
	}
	if e := Check(s); e != want {
		t.Errorf("%v: got %d; want %d", s, e, want)
	}
}

// Of a state that may not be each call answers ErrArg, and nothing else, whatever it is handed beside it.
func TestOfStatesThatMayNotBe(t *testing.T) {
	none := answer{e: api.ErrArg}
	d := dice(2)
	frames := [][]byte{nil, {}, {1}, {0xa8, 0x80}, make([]byte, 41), make([]byte, 100000), d.intra(), d.sid(), d.inter(api.Levels{}), d.inter(even[api.Levels](100))}
	for what, l := range wrongStates() {
		for _, s := range l {
			if e := Check(s); e != api.ErrArg {
				t.Errorf("%s: Check of %v: got %d", what, s, e)
			}
			want(t, what, s, told(Rest(s)), none)
			for _, by := range []int{1, 255, 0, -1, math.MinInt, math.MaxInt} {
				want(t, what, s, told(Fade(s, by)), none)
			}
			for _, b := range frames {
				want(t, what, s, told(Step(s, b)), none)
			}
			for _, all := range [][][]byte{nil, {nil}, {{}, {}}, frames[6:8], frames} {
				if got, p, e := All(s, all...); got != (api.Synth{}) || len(p) != 0 || e != api.ErrArg {
					t.Errorf("%s: All of %v, %x: got %v, %v, %d", what, s, all, got, p, e)
				}
			}
		}
	}
}

func TestSame(t *testing.T) {
	all := states()
	for i, a := range all {
		copied := a
		if !Same(a, copied) {
			t.Errorf("%v is not the same as itself", a)
		}
		for _, b := range []api.Synth{all[(i+1)%len(all)], all[(i+7)%len(all)]} {
			if got, want := Same(a, b), a.T == b.T && a.L == b.L && a.Live == b.Live && a.Hush == b.Hush && a.Seed == b.Seed; got != want {
				t.Errorf("%v, %v: got %v", a, b, got)
			}
		}
	}
}

// Two states that differ in one thing alone are not the same, however little it is.
func TestSameButForOneThing(t *testing.T) {
	check := func(what any, a, b api.Synth) {
		t.Helper()
		if Check(a) != api.OK || Check(b) != api.OK {
			t.Fatalf("%v: %v, %v: one may not be", what, a, b)
		}
		if Same(a, b) || Same(b, a) {
			t.Errorf("%v: %v, %v: they are the same", what, a, b)
		}
	}
	for _, s := range states() {
		for n, v := range s.T {
			other := s
			other.T[n] = v - 1
			if v <= 0 {
				other.T[n] = v + 1
			}
			check(n, s, other)
		}
		for b, v := range s.L {
			other := s
			other.L[b] = v ^ 1
			check(b, s, other)
		}
		other := s
		other.Seed++
		check("seed", s, other)
		check("Live", neither(s), live(s))
		check("Hush", neither(s), hush(s))
		check("Live, Hush", live(s), hush(s))
	}
}

func TestSameOfStatesThatMayNotBe(t *testing.T) {
	for what, l := range wrongStates() {
		for i, s := range l {
			copied := s
			if Same(s, copied) || Same(s, Start()) || Same(Start(), s) || Same(s, api.Synth{}) || Same(s, l[(i+1)%len(l)]) {
				t.Errorf("%s: %v is the same as something", what, s)
			}
		}
	}
}
