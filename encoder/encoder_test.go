package encoder

import (
	"testing"

	"squelch/api"
	"squelch/bands"
)

// P12.1

func TestStart(t *testing.T) {
	want := api.Talk{Prev: api.Pcm{}, Hang: 0, Sent: 0, Quiet: 0, Local: api.Synth{Seed: 1}}
	for range 2 {
		if s := Start(); s != want || Check(s) != api.OK {
			t.Errorf("got %v", s)
		}
		Run(Start(), tone(3000), tone(300), api.Pcm{})
	}
}

func TestCheck(t *testing.T) {
	for _, s := range states() {
		if e := Check(s); e != api.OK {
			t.Errorf("%v: got %d", s, e)
		}
	}
	for what, l := range wrongStates() {
		for _, s := range l {
			if e := Check(s); e != api.ErrArg {
				t.Errorf("%s: %v: got %d", what, s, e)
			}
		}
	}
}

// Each number of a state about the bounds of what may be.
func TestCheckAtTheBounds(t *testing.T) {
	check := func(s api.Talk, ok bool) {
		t.Helper()
		want := api.OK
		if !ok {
			want = api.ErrArg
		}
		if e := Check(s); e != want || ok != mayOf(s) {
			t.Errorf("%v: got %d; want %d", s, e, want)
		}
	}
	for _, s := range states() {
		for n := range api.Hop {
			for v, ok := range map[int]bool{-32769: false, -32768: true, 32767: true, 32768: false} {
				other := s
				other.Prev[n] = v
				check(other, ok)
			}
			for v, ok := range map[int]bool{-most - 1: false, -most: true, most: true, most + 1: false} {
				other := s
				other.Local.T[n] = v
				check(other, ok)
			}
		}
		for b := range api.Bands {
			for v, ok := range map[int]bool{-1: false, 0: true, 255: true, 256: false} {
				other := s
				other.Local.L[b] = v
				check(other, ok)
			}
		}
		for hang := -2; hang <= 6; hang++ {
			other := s
			other.Hang = hang
			check(other, hang >= 0 && hang <= 4)
		}
		for v, ok := range map[int]bool{-8: false, -1: false, 0: true, 1: true, 7: true, 8: true, most - 1: true, most: true, most + 1: false, most + 8: false} {
			other := s
			other.Sent = v
			check(other, ok)
			other = s
			other.Quiet = v
			check(other, ok)
		}
		other := s
		other.Local.Live, other.Local.Hush = true, true
		check(other, false)
	}
}

func wantLoud(t *testing.T, what any, prev, p api.Pcm, want bool) {
	t.Helper()
	if loud, e := Loud(prev, p); loud != want || e != api.OK {
		t.Errorf("%v: %v, %v: got %v, %d; want %v", what, prev, p, loud, e, want)
	}
}

func TestLoud(t *testing.T) {
	wantLoud(t, "silence", api.Pcm{}, api.Pcm{}, false)
	wantLoud(t, "a tone behind silence", api.Pcm{}, tone(3000), true)
	wantLoud(t, "silence behind a tone", tone(3000), api.Pcm{}, true)
	wantLoud(t, "a tone", tone(3000), tone(3000), true)
	wantLoud(t, "a tone that is quiet", tone(5), tone(5), false)
	wantLoud(t, "the greatest samples", even(32767), even(32767), true)
	wantLoud(t, "the least samples", even(-32768), even(-32768), true)
	wantLoud(t, "samples of 1", even(1), even(-1), false)
	d := dice(2)
	of := map[bool]int{}
	for i := range 1000 {
		prev, p := d.pair()
		loud := loudOf(prev, p)
		of[loud]++
		wantLoud(t, i, prev, p, loud)
	}
	if of[true] < 300 || of[false] < 300 {
		t.Errorf("there were %v", of)
	}
}

// atTheBound are samples behind silence, of which the loudest level is 99, and then 100.
func atTheBound() (quiet, loud []api.Pcm) {
	d := dice(3)
	for len(loud) < 24 {
		p := d.noise(32767)
		if len(loud)%2 == 0 {
			p = with(api.Pcm{}, d.between(0, 15), 32767)
		}
		least, most := 1, 32768
		for most-least > 1 {
			if by := (least + most) / 2; bands.Loud(levelsOf(api.Pcm{}, lessOf(p, by))) < 100 {
				least = by
			} else {
				most = by
			}
		}
		below, above := lessOf(p, least), lessOf(p, most)
		if bands.Loud(levelsOf(api.Pcm{}, below)) == 99 && bands.Loud(levelsOf(api.Pcm{}, above)) == 100 {
			quiet, loud = append(quiet, below), append(loud, above)
		}
	}
	return quiet, loud
}

// lessOf is p by so many of 32768 parts.
func lessOf(p api.Pcm, by int) api.Pcm {
	for n, v := range p {
		p[n] = v * by / 32768
	}
	return p
}

func TestLoudAtTheBound(t *testing.T) {
	quiet, loud := atTheBound()
	where := map[int]int{}
	for i, p := range loud {
		wantLoud(t, "99", api.Pcm{}, quiet[i], false)
		wantLoud(t, "100", api.Pcm{}, p, true)
		for b, level := range levelsOf(api.Pcm{}, p) {
			if level == 100 {
				where[b]++
			}
		}
	}
	if len(where) < 4 {
		t.Errorf("the loudest bands are %v alone", where)
	}
}

func TestLoudOfWrongSamples(t *testing.T) {
	for _, p := range wrongSamples() {
		for _, other := range []api.Pcm{{}, tone(3000), p, even(32768)} {
			if loud, e := Loud(p, other); loud || e != api.ErrArg {
				t.Errorf("%v, %v: got %v, %d", p, other, loud, e)
			}
			if loud, e := Loud(other, p); loud || e != api.ErrArg {
				t.Errorf("%v, %v: got %v, %d", other, p, loud, e)
			}
		}
	}
}

func TestAgain(t *testing.T) {
	check := func(what any, s api.Talk) {
		t.Helper()
		was := s
		want := api.Talk{Prev: s.Prev, Local: api.Synth{Seed: 1}}
		if got := Again(s); got != want {
			t.Errorf("%v: of %v: got %v", what, s, got)
		}
		if s != was || Again(Again(s)) != want {
			t.Errorf("%v: twice, of %v: got %v", what, s, Again(Again(s)))
		}
	}
	for i, s := range states() {
		check(i, s)
	}
	for what, l := range wrongStates() {
		for _, s := range l {
			check(what, s)
		}
	}
}

// Whoever begins again goes on from the samples that were there last.
func TestTalksThatBeginAgain(t *testing.T) {
	d := dice(4)
	for i, s := range states() {
		again := Again(s)
		begun := Start()
		begun.Prev = s.Prev
		p := d.samples()
		if a, b := told(Step(again, p)), told(Step(begun, p)); a != b || a != stepOf(again, p) {
			t.Errorf("%d: of %v: got %v, %v", i, s, a, b)
		}
	}
}
