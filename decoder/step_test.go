package decoder

import (
	"bytes"
	"testing"

	"squelch/api"
)

// P11.2

// seedBehind is the seed behind the noise that Start's seed makes, whatever its levels are.
const seedBehind = 4212701329

func TestStepOfSilence(t *testing.T) {
	intra, sid := bytesOf(api.Frame{}, api.Levels{}), bytesOf(api.Frame{Kind: api.Sid}, api.Levels{})
	inter := bytesOf(api.Frame{Kind: api.Inter}, api.Levels{})
	want(t, "the first an Intra", Start(), told(Step(Start(), intra)), answer{s: api.Synth{Live: true, Seed: 1}})
	want(t, "the first a Sid", Start(), told(Step(Start(), sid)), answer{s: api.Synth{Hush: true, Seed: seedBehind}})
	want(t, "the first an Inter", Start(), told(Step(Start(), inter)), answer{e: api.ErrState})
	talks := api.Synth{Live: true, Seed: 7}
	want(t, "an Inter behind an Intra", talks, told(Step(talks, inter)), answer{s: talks})
}

// What is heard stands here in numbers, so that it can't change unseen with a layer below.
func TestStepOfAFrame(t *testing.T) {
	l, q := api.Levels{160, 148}, [api.Hop]int{1, -1}
	left := api.Tail{-571383, -373157, -153759, 60917, 246490, 383479, 459940, 472933, 428642, 341115, 229849, 116581, 21797, -38515, -55353, -28070}
	talk := api.Synth{T: left, L: l, Live: true, Seed: 1}
	s := want(t, "an Intra", Start(), told(Step(Start(), bytesOf(api.Frame{L: l, Q: q}, api.Levels{}))), answer{
		s: talk,
		p: api.Pcm{139, 472, 814, 1083, 1205, 1129, 830, 321, -354, -1119, -1883, -2548, -3026, -3249, -3183, -2831},
	})
	want(t, "an Inter", s, told(Step(s, bytesOf(api.Frame{Kind: api.Inter, L: l, Q: q}, l))), answer{
		s: talk,
		p: api.Pcm{-2093, -985, 213, 1321, 2168, 2627, 2627, 2168, 1321, 213, -985, -2093, -2940, -3399, -3399, -2940},
	})
	left = api.Tail{86965, 101217, 113742, 123488, 129554, 131302, 128446, 121098, 109756, 95262, 78699, 61274, 44185, 28491, 15014, 4272}
	s = want(t, "a Sid", Start(), told(Step(Start(), bytesOf(api.Frame{Kind: api.Sid, L: l}, api.Levels{}))), answer{
		s: api.Synth{T: left, L: l, Hush: true, Seed: seedBehind},
		p: api.Pcm{-14, -33, -43, -45, -41, -33, -22, -8, 9, 29, 55, 87, 126, 172, 225, 281},
	})
	left = api.Tail{-160277, -161671, -159046, -153257, -145225, -135793, -125614, -115077, -104300, -93161, -81391, -68686, -54836, -39839, -23982, -7874}
	want(t, "Rest", s, told(Rest(s)), answer{
		s: api.Synth{T: left, L: l, Hush: true, Seed: 761386273},
		p: api.Pcm{369, 478, 569, 632, 661, 651, 600, 510, 387, 239, 77, -89, -246, -386, -501, -586},
	})
	left = api.Tail{17, 19, 21, 23, 24, 24, 24, 22, 20, 17, 14, 11, 8, 5, 3, 1}
	want(t, "Fade", talk, told(Fade(talk, 100)), answer{
		s: api.Synth{T: left, L: api.Levels{60, 48}, Seed: seedBehind},
		p: api.Pcm{-2232, -1458, -601, 238, 963, 1498, 1797, 1847, 1674, 1332, 898, 455, 85, -150, -216, -110},
	})
}

// A frame of each Kind behind each state, and on from one of them.
func TestStepByTheWords(t *testing.T) {
	t.Parallel()
	d := dice(3)
	for i, s := range states() {
		for range 8 {
			var behind []api.Synth
			for _, b := range d.each(s) {
				behind = append(behind, wantStep(t, i, s, b))
			}
			s = behind[d.between(0, len(behind)-1)]
		}
	}
}

// An Intra, seven Inters behind it, and a Sid, as one who talks sends them.
func TestStepOfTalks(t *testing.T) {
	t.Parallel()
	d := dice(4)
	for i := range 100 {
		s := Start()
		for range 3 {
			seed := s.Seed
			s = wantStep(t, i, s, d.intra())
			for range 7 {
				s = wantStep(t, i, s, d.inter(s.L))
			}
			if !s.Live || s.Hush || s.Seed != seed {
				t.Fatalf("%d: behind an Inter: %v", i, s)
			}
			s = wantStep(t, i, s, d.sid())
			if s.Live || !s.Hush || s.Seed == seed {
				t.Fatalf("%d: behind a Sid: %v", i, s)
			}
		}
	}
}

// The levels that an Inter tells are those of its changes: it is read behind the state's levels.
func TestAnInterIsBehindTheStatesLevels(t *testing.T) {
	for _, about := range []int{8, 100, 248} {
		prev := even[api.Levels](about)
		for off := -8; off <= 7; off++ {
			l := with(prev, 3, about+off)
			b := bytesOf(api.Frame{Kind: api.Inter, L: l}, prev)
			s := wantStep(t, off, api.Synth{L: prev, Live: true, Seed: 5}, b)
			if s.L != l {
				t.Errorf("%d behind %v: got %v", off, prev, s.L)
			}
			other := with(prev, 0, about-1)
			s = wantStep(t, off, api.Synth{L: other, Live: true, Seed: 5}, b)
			if s.L != with(l, 0, about-1) {
				t.Errorf("%d behind %v: got %v", off, other, s.L)
			}
		}
	}
}

func TestNoInterWhereTheStateIsNotLive(t *testing.T) {
	t.Parallel()
	none := answer{e: api.ErrState}
	d := dice(5)
	for i, s := range states() {
		b := d.inter(s.L)
		want(t, i, s, told(Step(neither(s), b)), none)
		want(t, i, s, told(Step(hush(s), b)), none)
		wantStep(t, i, live(s), b)
		behind := wantStep(t, "a Sid", live(s), d.sid())
		want(t, "behind a Sid", behind, told(Step(behind, d.inter(behind.L))), none)
		behind = wantRest(t, "Rest behind a Sid", behind)
		want(t, "behind Rest behind a Sid", behind, told(Step(behind, d.inter(behind.L))), none)
		behind = wantRest(t, "Rest", live(s))
		want(t, "behind Rest", behind, told(Step(behind, b)), none)
		behind = wantFade(t, "Fade", live(s), d.between(1, 20))
		want(t, "behind Fade", behind, told(Step(behind, d.inter(behind.L))), none)
		behind = wantStep(t, "an Intra", behind, d.intra())
		if behind = wantStep(t, "an Intra, an Inter", behind, d.inter(behind.L)); !behind.Live {
			t.Errorf("behind an Inter: %v", behind)
		}
	}
}

// What is no frame is ErrForm, be the state Live or not, and whichever Kind it begins as.
func TestStepOfNoFrame(t *testing.T) {
	none := answer{e: api.ErrForm}
	d := dice(19)
	whole := bytesOf(api.Frame{}, api.Levels{})
	inter := bytesOf(api.Frame{Kind: api.Inter}, api.Levels{3})
	for what, b := range map[string][]byte{
		"nil": nil, "nothing": {}, "a byte": {1}, "a byte of a Sid": {0xff}, "a byte of an Inter": {0xa8}, "three bytes": {1, 2, 3},
		"a byte less": whole[:len(whole)-1], "a byte more": append(bytes.Clone(whole), 0),
		"40 bytes": make([]byte, 40), "41 bytes": make([]byte, 41), "8193 bytes": make([]byte, 8193), "100000 bytes": bytes.Repeat([]byte{0xa8}, 100000), "100000 drawn": d.bytes(100000),
		"an Inter below 0": inter, "an Inter and a byte": append(bytes.Clone(inter), 0),
	} {
		for _, s := range []api.Synth{Start(), {}, {Live: true}, {Hush: true}, {T: even[api.Tail](-1 << 40), L: api.Levels{2, 0, 0, 0, 0, 255}, Live: true}} {
			want(t, what, s, told(Step(s, b)), none)
		}
	}
}

// A Sid's noise is that of its own levels, not of the state's, by the state's seed.
func TestASidsNoise(t *testing.T) {
	l := api.Levels{160, 148, 30, 0, 255, 8}
	b := bytesOf(api.Frame{Kind: api.Sid, L: l}, api.Levels{})
	for _, s := range states() {
		x, seed := noiseOf(s.Seed, l)
		p, left := soundedOf(s.T, x)
		want(t, "a Sid", s, told(Step(s, b)), answer{s: api.Synth{T: left, L: l, Hush: true, Seed: seed}, p: p})
	}
}

func TestASidOfSilence(t *testing.T) {
	b := bytesOf(api.Frame{Kind: api.Sid}, api.Levels{})
	for _, s := range states() {
		p, _ := soundedOf(s.T, api.Spec{})
		_, seed := noiseOf(s.Seed, api.Levels{})
		quiet := answer{s: api.Synth{Hush: true, Seed: seed}, p: p}
		behind := want(t, "a Sid of silence", s, told(Step(s, b)), quiet)
		if p := told(Step(behind, b)).p; p != (api.Pcm{}) {
			t.Errorf("%v: behind a Sid of silence: got %v", behind, p)
		}
	}
}

func TestStepWithEachBitTurned(t *testing.T) {
	t.Parallel()
	d := dice(6)
	for i := range 40 {
		s := d.state()
		for _, b := range append(d.each(s), d.inter(s.L)) {
			for bit := range 8 * len(b) {
				turned := bytes.Clone(b)
				turned[bit/8] ^= 0x80 >> (bit % 8)
				wantStep(t, i, s, turned)
			}
		}
	}
}
