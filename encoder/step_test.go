package encoder

import (
	"fmt"
	"slices"
	"testing"

	"squelch/api"
	"squelch/frame"
)

// P12.2

// Of silence there is a Sid, then nothing, and a Sid again behind each eight.
func TestSilence(t *testing.T) {
	s := Start()
	for i := range 40 {
		kind, bytes := ".", ""
		if i%8 == 0 {
			kind, bytes = "s", "f0000000000004"
		}
		if a := told(Step(s, api.Pcm{})); a.b != bytes || a.e != api.OK {
			t.Errorf("%d: got %s, %d; want %s", i, a.b, a.e, bytes)
		}
		s = wantKind(t, i, s, api.Pcm{}, kind)
		if s.Quiet != i+1 || s.Hang+s.Sent != 0 || !s.Local.Hush || s.Local.Live || s.Local.L != (api.Levels{}) {
			t.Errorf("%d: got %v", i, s)
		}
	}
}

func TestATone(t *testing.T) {
	l := slices.Concat(make([]api.Pcm, 3), slices.Repeat([]api.Pcm{tone(3000)}, 24), make([]api.Pcm, 15))
	kinds, s := kindsOf(t, Start(), l)
	// Where the tone begins, and where it ends, half a frame overlaps, whose levels are not near; the last one of these is loud, and four hang on behind it.
	if want := "s.." + "IIiiiiii" + "Iiiiiiii" + "Iiiiiiii" + "I" + "Iiii" + "s.......s."; kinds != want {
		t.Errorf("got %s; want %s", kinds, want)
	}
	if s.Quiet != 10 || s.Hang != 0 || s.Sent != 0 {
		t.Errorf("got %v", s)
	}
}

// Drawn talks, each step held against the chapter's words.
func TestTalks(t *testing.T) {
	for part := range 8 {
		t.Run(fmt.Sprint(part), func(t *testing.T) {
			t.Parallel()
			d := dice(100 + part)
			of := map[rune]int{}
			for range 3 {
				for _, l := range [][]api.Pcm{d.talk(160), d.loudTalk(40), d.quietTalk(30)} {
					kinds, _ := kindsOf(t, Start(), l)
					for _, kind := range kinds {
						of[kind]++
					}
				}
			}
			if of['I'] < 100 || of['i'] < 60 || of['s'] < 15 || of['.'] < 80 || len(of) != 4 {
				t.Errorf("there were %v", of)
			}
		})
	}
}

func TestLoudTalks(t *testing.T) {
	d := dice(5)
	kinds, s := kindsOf(t, Start(), d.loudTalk(50))
	for i, kind := range kinds {
		if kind != 'i' && kind != 'I' || i%8 == 0 && kind != 'I' {
			t.Errorf("at %d: of %s", i, kinds)
		}
	}
	if s.Hang != 4 || s.Sent != 50 || s.Quiet != 0 || !s.Local.Live {
		t.Errorf("got %v", s)
	}
}

func TestQuietTalks(t *testing.T) {
	d := dice(6)
	kinds, s := kindsOf(t, Start(), d.quietTalk(30))
	if kinds != "s.......s.......s.......s....." || s.Hang != 0 || s.Sent != 0 || s.Quiet != 30 {
		t.Errorf("got %s, %v", kinds, s)
	}
}

// Of any state that may be, and any samples.
func TestStepsOfStates(t *testing.T) {
	d := dice(7)
	of := map[string]int{}
	for i, s := range states() {
		for _, p := range []api.Pcm{{}, tone(3000), d.samples(), even(32767), even(-32768)} {
			want(t, i, s, p)
		}
	}
	for i := range 2500 {
		s, p := d.stateNear()
		of[kindOf(sentOf(s, p))]++
		want(t, i, s, p)
	}
	if of["I"] < 300 || of["i"] < 300 || of["s"] < 100 || of["."] < 100 || len(of) != 4 {
		t.Errorf("there were %v", of)
	}
}

// talking is a state in which a frame of the samples p may be an Inter, by all but its place.
func talking(p api.Pcm) api.Talk {
	return api.Talk{Prev: p, Hang: 4, Sent: 1, Local: api.Synth{L: levelsOf(p, p), Live: true, Seed: 9}}
}

// rich are samples of which each band has a level that is far from both bounds.
func rich() []api.Pcm {
	d := dice(8)
	var l []api.Pcm
	for len(l) < 6 {
		p := d.noise(d.between(2000, 30000))
		of := levelsOf(p, p)
		if slices.Min(of[:]) > 20 && slices.Max(of[:]) < 235 {
			l = append(l, p)
		}
	}
	return l
}

// By one in one band the levels are near, or not.
func TestNearLevels(t *testing.T) {
	for i, p := range rich() {
		wantKind(t, i, talking(p), p, "i")
		for b := range api.Bands {
			for off := -12; off <= 12; off++ {
				s := talking(p)
				s.Local.L[b] += off
				kind := "I"
				if off >= -7 && off <= 8 {
					kind = "i"
				}
				wantKind(t, fmt.Sprint(i, ", band ", b, ", off by ", off), s, p, kind)
			}
		}
	}
}

// Near levels are no Inter's behind anything but talk.
func TestBehindNoTalk(t *testing.T) {
	for i, p := range rich() {
		s := talking(p)
		s.Local.Live = false
		wantKind(t, i, s, p, "I")
		s.Local.Hush = true
		wantKind(t, i, s, p, "I")
	}
}

func TestSent(t *testing.T) {
	for i, p := range rich() {
		for n, kind := range map[int]string{0: "I", 1: "i", 4: "i", 7: "i", 8: "I", 9: "i", 15: "i", 16: "I", 24: "I", most - 8: "I", most - 7: "i", most - 1: "i", most: "I"} {
			for _, quiet := range []int{0, 1, 8, most} {
				s := talking(p)
				s.Sent, s.Quiet = n, quiet
				behind := wantKind(t, fmt.Sprint(i, ", ", n), s, p, kind)
				if behind.Sent != n+1 || behind.Quiet != 0 || behind.Hang != 4 || behind.Prev != p {
					t.Errorf("of %d, %d: got %v", n, quiet, behind)
				}
			}
		}
	}
}

func TestQuiet(t *testing.T) {
	quiet, _ := atTheBound()
	for i, p := range []api.Pcm{{}, even(1), quiet[0], quiet[1]} {
		for n, kind := range map[int]string{0: "s", 1: ".", 4: ".", 7: ".", 8: "s", 9: ".", 15: ".", 16: "s", 24: "s", most - 8: "s", most - 7: ".", most - 1: ".", most: "s"} {
			for _, sent := range []int{0, 1, 8, most} {
				s := api.Talk{Sent: sent, Quiet: n, Local: api.Synth{L: api.Levels{50, 40}, Hush: n > 0, Seed: 7}}
				behind := wantKind(t, fmt.Sprint(i, ", ", n), s, p, kind)
				if behind.Sent != 0 || behind.Quiet != n+1 || behind.Hang != 0 || behind.Prev != p {
					t.Errorf("of %d, %d: got %v", n, sent, behind)
				}
			}
		}
	}
}

// What is counted beyond its bound makes a state that may not be: the step behind it is wrong, this one is not.
func TestCountsBeyondTheirBound(t *testing.T) {
	for _, p := range []api.Pcm{tone(3000), {}} {
		s := api.Talk{Sent: most, Quiet: most, Local: api.Synth{Seed: 1}}
		behind, b, e := Step(s, p)
		if max(behind.Sent, behind.Quiet) != most+1 || len(b) == 0 || e != api.OK {
			t.Fatalf("got %v, %x, %d", behind, b, e)
		}
		if Check(behind) != api.ErrArg {
			t.Errorf("%v may be", behind)
		}
		for _, next := range []api.Pcm{p, {}, tone(3000)} {
			if a := told(Step(behind, next)); a != (answer{e: api.ErrArg}) {
				t.Errorf("got %v", a)
			}
		}
	}
	// Where the other of the two is counted, the bound is of no weight.
	wantKind(t, "Sent", api.Talk{Sent: most, Local: api.Synth{Seed: 1}}, api.Pcm{}, "s")
	wantKind(t, "Quiet", api.Talk{Quiet: most, Local: api.Synth{Seed: 1}}, tone(3000), "I")
}

// A loudest level of 99 is not loud, one of 100 is.
func TestStepAtTheBound(t *testing.T) {
	quiet, loud := atTheBound()
	for i, p := range loud {
		if s := wantKind(t, i, Start(), quiet[i], "s"); s.Hang != 0 || s.Sent != 0 || s.Quiet != 1 {
			t.Errorf("of 99: got %v", s)
		}
		if s := wantKind(t, i, Start(), p, "I"); s.Hang != 4 || s.Sent != 1 || s.Quiet != 0 {
			t.Errorf("of 100: got %v", s)
		}
	}
}

// Whether samples are loud is told by those ahead, too.
func TestSilenceBehindLoudSamples(t *testing.T) {
	s := Start()
	s.Prev = tone(3000)
	if s = wantKind(t, "first", s, api.Pcm{}, "I"); s.Hang != 4 {
		t.Errorf("got %v", s)
	}
	if s = wantKind(t, "second", s, api.Pcm{}, "I"); s.Hang != 3 {
		t.Errorf("got %v", s)
	}
}

// Behind a loud frame four more are sent, then a Sid; a loud one among them begins to count anew.
func TestHang(t *testing.T) {
	for hang := range 5 {
		s := talking(tone(1))
		s.Hang = hang
		kind := "i"
		if hang == 0 {
			kind = "s"
		}
		if behind := wantKind(t, hang, s, tone(1), kind); behind.Hang != max(hang-1, 0) {
			t.Errorf("%d: got %v", hang, behind)
		}
		if behind := wantKind(t, hang, s, tone(3000), "I"); behind.Hang != 4 {
			t.Errorf("%d, loud: got %v", hang, behind)
		}
	}
	s := talking(tone(1))
	for i, hang := range []int{3, 2, 1, 0, 0, 0} {
		sent := sentOf(s, tone(1))
		if s = want(t, i, s, tone(1)); s.Hang != hang || (kindOf(sent) == "i") != (i < 4) {
			t.Errorf("%d: got %v, %x", i, s, sent)
		}
	}
	if s.Sent != 0 || s.Quiet != 2 {
		t.Errorf("got %v", s)
	}
}

// What is sent while it hangs on are frames of the samples as they are, quiet or silent.
func TestFramesThatHangOn(t *testing.T) {
	p := tone(3)
	s := talking(p)
	f, e := frame.Read(sentOf(s, p), s.Local.L)
	if e != api.OK || f.Kind != api.Inter || f.L != levelsOf(p, p) || f.Q == [api.Hop]int{} {
		t.Errorf("got %v, %d", f, e)
	}
	f, e = frame.Read(sentOf(talking(api.Pcm{}), api.Pcm{}), api.Levels{})
	if e != api.OK || f != (api.Frame{Kind: api.Inter}) {
		t.Errorf("got %v, %d", f, e)
	}
}

// Behind silence the first loud frame is an Intra, however much of it there was, and whatever its levels are.
func TestFirstLoudFrameBehindSilence(t *testing.T) {
	for n := range 20 {
		_, s := kindsOf(t, Start(), slices.Concat([]api.Pcm{tone(3000), tone(3000), tone(3000)}, make([]api.Pcm, 6+n)))
		if s.Quiet != n+1 || s.Sent != 0 {
			t.Errorf("%d: got %v", n, s)
		}
		wantKind(t, n, s, tone(3000), "I")
	}
	_, loud := atTheBound()
	for i, p := range loud {
		s := Start()
		s.Local.L = levelsOf(api.Pcm{}, p)
		wantKind(t, i, s, p, "I")
		s.Local.Live = true
		wantKind(t, i, s, p, "I")
	}
}

func TestStepOfWrongStates(t *testing.T) {
	for what, l := range wrongStates() {
		for _, s := range l {
			for _, p := range []api.Pcm{{}, tone(3000), even(32767), even(32768), with(api.Pcm{}, 15, -32769)} {
				if a := told(Step(s, p)); a != (answer{e: api.ErrArg}) {
					t.Errorf("%s: of %v, %v: got %v", what, s, p, a)
				}
			}
		}
	}
}

func TestStepOfWrongSamples(t *testing.T) {
	for _, p := range wrongSamples() {
		for _, s := range states() {
			if a := told(Step(s, p)); a != (answer{e: api.ErrArg}) {
				t.Errorf("of %v, %v: got %v", s, p, a)
			}
		}
	}
}
