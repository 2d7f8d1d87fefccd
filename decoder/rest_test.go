package decoder

import (
	"math"
	"testing"

	"squelch/api"
)

// P11.3

func TestRestOfStartIsSilence(t *testing.T) {
	s := Start()
	for range 20 {
		want(t, "Rest", s, told(Rest(s)), answer{s: Start()})
	}
}

// Behind talk what is left of it is heard once, and then silence; its levels stay.
func TestRestOfTalk(t *testing.T) {
	for _, s := range states() {
		for _, s := range []api.Synth{live(s), neither(s)} {
			p, left := soundedOf(s.T, api.Spec{})
			if left != (api.Tail{}) {
				t.Fatalf("silence has the tail %v", left)
			}
			quiet := api.Synth{L: s.L, Seed: s.Seed}
			behind := want(t, "the first", s, told(Rest(s)), answer{s: quiet, p: p})
			for range 3 {
				behind = want(t, "the next ones", behind, told(Rest(behind)), answer{s: quiet})
			}
		}
	}
}

// In silence there is noise of its levels each time, by a seed that goes on.
func TestRestOfHush(t *testing.T) {
	for i, s := range states() {
		s = hush(s)
		l, sid := s.L, bytesOf(api.Frame{Kind: api.Sid, L: s.L}, api.Levels{})
		for range 5 {
			x, seed := noiseOf(s.Seed, l)
			p, left := soundedOf(s.T, x)
			noise := answer{s: api.Synth{T: left, L: l, Hush: true, Seed: seed}, p: p}
			want(t, i, s, told(Step(s, sid)), noise)
			s = want(t, i, s, told(Rest(s)), noise)
		}
	}
}

// Rest behind a frame of each Kind, several times in a row, and a frame again.
func TestRestByTheWords(t *testing.T) {
	t.Parallel()
	d := dice(7)
	for i, s := range states() {
		for _, b := range d.each(s) {
			behind := wantStep(t, i, s, b)
			for range 4 {
				behind = wantRest(t, i, behind)
			}
			wantStep(t, i, behind, d.intra())
			wantStep(t, i, behind, d.sid())
		}
	}
}

func TestFadeOfLevels(t *testing.T) {
	for _, x := range []struct {
		by      int
		l, want api.Levels
	}{
		{1, api.Levels{0, 1, 2, 8, 254, 255}, api.Levels{0, 0, 1, 7, 253, 254}},
		{8, api.Levels{0, 1, 7, 8, 9, 255}, api.Levels{0, 0, 0, 0, 1, 247}},
		{100, api.Levels{90, 130, 120, 100, 101, 255}, api.Levels{0, 30, 20, 0, 1, 155}},
		{254, api.Levels{255, 254, 253, 1, 0, 255}, api.Levels{1, 0, 0, 0, 0, 1}},
		{255, even[api.Levels](255), api.Levels{}},
		{256, even[api.Levels](255), api.Levels{}},
		{1 << 32, api.Levels{0, 1, 255, 100, 8, 16}, api.Levels{}},
		{math.MaxInt, api.Levels{0, 1, 255, 100, 8, 16}, api.Levels{}},
		{1, api.Levels{}, api.Levels{}},
		{math.MaxInt, api.Levels{}, api.Levels{}},
	} {
		x0, seed := noiseOf(1, x.want)
		p, left := soundedOf(api.Tail{}, x0)
		s := api.Synth{L: x.l, Seed: 1}
		want(t, x.by, s, told(Fade(s, x.by)), answer{s: api.Synth{T: left, L: x.want, Seed: seed}, p: p})
		want(t, x.by, live(s), told(Fade(live(s), x.by)), answer{s: api.Synth{T: left, L: x.want, Seed: seed}, p: p})
		want(t, x.by, hush(s), told(Fade(hush(s), x.by)), answer{s: api.Synth{T: left, L: x.want, Hush: true, Seed: seed}, p: p})
	}
}

// About the level itself, in each band.
func TestFadeOfEachBand(t *testing.T) {
	for _, by := range []int{1, 2, 8, 16, 254, 255, 256} {
		for _, level := range []int{0, 1, by - 1, by, by + 1, 255} {
			for b := range api.Bands {
				if level > 255 {
					continue
				}
				s := api.Synth{L: with(even[api.Levels](100), b, level), Seed: 3}
				for _, s := range []api.Synth{s, live(s), hush(s)} {
					if behind := wantFade(t, by, s, by); behind.L[b] != max(0, level-by) || behind.Live || behind.Hush != s.Hush {
						t.Errorf("%d of %v: got %v", by, s, behind)
					}
				}
			}
		}
	}
}

// By and by there is nothing left but silence, from which it goes on as it is.
func TestFadeUntilThereIsSilence(t *testing.T) {
	d := dice(8)
	for _, x := range []struct{ by, steps int }{{1, 255}, {8, 32}, {16, 16}, {254, 2}, {255, 1}, {256, 1}, {math.MaxInt, 1}} {
		for _, s := range []api.Synth{live(d.state()), hush(d.state()), neither(d.state())} {
			was := s.Hush
			s.L[d.between(0, 5)] = 255
			for i := range x.steps {
				if s.L == (api.Levels{}) {
					t.Errorf("by %d: silence behind %d", x.by, i)
				}
				s = wantFade(t, x.by, s, x.by)
			}
			wantSilence(t, s, x.by, was)
		}
	}
}

// wantSilence holds Fade, told on, of a state whose levels are all 0 against what is left of its tail, and silence.
func wantSilence(t *testing.T, s api.Synth, by int, hush bool) {
	t.Helper()
	if s.L != (api.Levels{}) || s.Live || s.Hush != hush {
		t.Errorf("by %d: got %v", by, s)
	}
	for i := range 3 {
		a := told(Fade(s, by))
		_, seed := noiseOf(s.Seed, api.Levels{})
		if a.s != (api.Synth{Hush: hush, Seed: seed}) || i > 0 && a.p != (api.Pcm{}) {
			t.Errorf("by %d: behind %v, with all levels 0: got %v", by, s, a)
		}
		s = a.s
	}
}

func TestFadeByTheWords(t *testing.T) {
	t.Parallel()
	d := dice(9)
	for i, s := range states() {
		for _, by := range []int{1, 8, 255, d.between(2, 254), 1 << d.between(9, 62)} {
			behind := wantFade(t, i, s, by)
			wantFade(t, i, behind, by)
			wantRest(t, i, behind)
			wantStep(t, i, behind, d.intra())
			wantStep(t, i, behind, d.sid())
		}
		for _, b := range d.each(s) {
			behind := wantStep(t, i, s, b)
			for miss := range 4 {
				behind = wantFade(t, i, behind, 16*(miss+1))
			}
		}
	}
}

func TestFadeByLessThanOne(t *testing.T) {
	none := answer{e: api.ErrArg}
	for _, s := range states() {
		for _, by := range []int{0, -1, -255, math.MinInt, -1 << 32} {
			want(t, by, s, told(Fade(s, by)), none)
		}
	}
}
