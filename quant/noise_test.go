package quant

import (
	"math"
	"testing"

	"squelch/api"
)

// P9.3

func TestNoise(t *testing.T) {
	const most = 1 << 26
	for _, x := range []struct {
		what string
		seed uint32
		l    api.Levels
		want api.Spec
		next uint32
	}{
		{"the first alone", 1, api.Levels{160}, api.Spec{-69088}, 4212701329},
		{"all", 1, even[api.Levels](160), api.Spec{-69088, -34272, 1112, 53708, -117824, -34208, 72024, 14728, -126752, 36500, -65420, -20352, 23772, 88324, -69452, 126048}, 4212701329},
		{"bands of 0 between", 1, api.Levels{0: 160, 5: 160}, api.Spec{0: -69088, 10: -65420, 11: -20352, 12: 23772, 13: 88324, 14: -69452, 15: 126048}, 4212701329},
		{"the last alone", 1, api.Levels{5: 160}, api.Spec{10: -65420, 11: -20352, 12: 23772, 13: 88324, 14: -69452, 15: 126048}, 4212701329},
		{"silence", 1, api.Levels{}, api.Spec{}, 4212701329},
		{"a seed of 0", 0, api.Levels{160, 100, 0, 50, 1, 8}, api.Spec{0: -69192, 1: -340, 4: -2, 5: 2}, 2210837584},
		{"silence by a seed of 0", 0, api.Levels{}, api.Spec{}, 2210837584},
		{"the greatest seed", math.MaxUint32, api.Levels{160, 100, 0, 50, 1, 8}, api.Spec{0: -69292, 1: -480, 4: 4, 5: 8}, 208973839},
		{"held", 1, even[api.Levels](255), api.Spec{-most, -most, 4270080, most, -most, -most, most, 56555520, -most, most, -most, -most, most, most, -most, most}, 4212701329},
		{"each another", 7, api.Levels{255, 248, 0, 0, 200, 180}, api.Spec{-most, most, 0, 0, 0, 0, -1166208, -3748864, -3617408, 4059520, 743640, 49152, -75744, 75240, 165192, 436320}, 3338981911},
	} {
		if got, next, e := Noise(x.seed, x.l); got != x.want || next != x.next || e != api.OK {
			t.Errorf("%s: got %v, %d, %d; want %v, %d", x.what, got, next, e, x.want, x.next)
		}
	}
}

// The seeds are those behind which the upper half is told by hand: what is below it is all 0 of the first one, all 1 of the second.
func TestNoiseOfTheFirstNumber(t *testing.T) {
	for _, x := range []struct {
		what         string
		first, other uint32
		level, want  int
	}{
		// Less 2^15, times 4, by 2^18: a half below 0, which goes up.
		{"a half below 0", 634785765, 2142943008, 12, 0},
		{"a half below 0, of a peak of 8", 1708527589, 3216684832, 23, 0},
		{"a half above 0", 3856011237, 1069201184, 23, 1},
		{"less than a half above 0", 3440447461, 653637408, 12, 0},
		{"the least", 634785765, 2142943008, 160, -131072},
		{"the greatest", 3440447461, 653637408, 160, 131068},
		{"the middle", 2782269413, 4290426656, 255, 0},
		{"the least of a level of 0", 634785765, 2142943008, 0, 0},
		{"the least of a level of 1", 634785765, 2142943008, 1, 0},
		{"the least, held", 634785765, 2142943008, 255, -1 << 26},
		{"the greatest, held", 3440447461, 653637408, 255, 1 << 26},
		// Of level 255, 4369 is the last one that is not held.
		{"not held yet", 2682982373, 4191139616, 255, 67107840},
		{"just held", 4172287973, 1385477920, 255, 1 << 26},
		{"not held yet, below 0", 2881556453, 94746400, 255, -67107840},
		{"just held, below 0", 1392250853, 2900408096, 255, -1 << 26},
	} {
		for _, seed := range []uint32{x.first, x.other} {
			if got, _, e := Noise(seed, api.Levels{x.level}); got != (api.Spec{x.want}) || e != api.OK {
				t.Errorf("%s, by %d: got %v, %d; want %d", x.what, seed, got, e, x.want)
			}
		}
	}
}

func TestNoiseByTheWords(t *testing.T) {
	d := dice(9)
	check := func(seed uint32, l api.Levels) {
		t.Helper()
		got, next, e := Noise(seed, l)
		if got != noiseOf(seed, l) || next != seedOf(seed, 16) || e != api.OK {
			t.Errorf("%d, %v: got %v, %d, %d; want %v, %d", seed, l, got, next, e, noiseOf(seed, l), seedOf(seed, 16))
		}
	}
	for i, l := range manyLevels(255) {
		check(uint32(d.next()>>8), l)
		if i%16 == 0 {
			check(0, l)
			check(1, l)
			check(math.MaxUint32, l)
			check(1<<31, l)
		}
	}
}

// The seed behind is the same whatever the levels are, and goes around: it is now less, now more than ahead.
func TestTheSeedGoesOn(t *testing.T) {
	rose, fell := false, false
	seed := uint32(1)
	for i := range 200 {
		var behind [3]uint32
		for k, l := range []api.Levels{{}, even[api.Levels](255), {0, 160, 0, 0, i, 0}} {
			_, next, e := Noise(seed, l)
			if e != api.OK {
				t.Fatalf("%d, %v: got %d", seed, l, e)
			}
			behind[k] = next
		}
		want := seedOf(seed, 16)
		if behind != [3]uint32{want, want, want} {
			t.Fatalf("%d: got %v; want %d", seed, behind, want)
		}
		rose, fell = rose || want > seed, fell || want < seed
		seed = want
	}
	if !rose || !fell {
		t.Error("the seed does not go around")
	}
}

// A band's noise hangs on its own level, not on the others'.
func TestNoiseOfEachBandAlone(t *testing.T) {
	d := dice(10)
	for range 300 {
		seed, l := uint32(d.next()>>8), d.levels(255)
		all, _, _ := Noise(seed, l)
		for b := range api.Bands {
			own, _, e := Noise(seed, alone[api.Levels](b, l[b]))
			for n := range own {
				if bandOf(n) == b && own[n] != all[n] || bandOf(n) != b && own[n] != 0 || e != api.OK {
					t.Errorf("%d, %v: got %v in band %d by itself, %v in all", seed, l, own, b, all)
				}
			}
		}
	}
}

func TestNoiseWrong(t *testing.T) {
	check := func(seed uint32, l api.Levels) {
		t.Helper()
		if x, next, e := Noise(seed, l); x != (api.Spec{}) || next != 0 || e != api.ErrArg {
			t.Errorf("%d, %v: got %v, %d, %d", seed, l, x, next, e)
		}
	}
	for _, seed := range []uint32{0, 1, 1 << 31, math.MaxUint32} {
		for _, v := range wrongLevels {
			for b := range api.Bands {
				for _, others := range []int{0, 90, 255} {
					check(seed, with(even[api.Levels](others), b, v))
				}
			}
		}
		check(seed, api.Levels{-1, 256})
		check(seed, api.Levels{0: math.MinInt, 5: math.MaxInt})
	}
}
