package encoder

import (
	"fmt"
	"slices"
	"testing"

	"squelch/api"
	"squelch/decoder"
)

// P12.4

// wantHeard holds what one who hears all that is sent has against Local, at each time, and answers all that was sent, and heard.
func wantHeard(t *testing.T, what any, s api.Talk, l []api.Pcm) ([][]byte, []api.Pcm) {
	t.Helper()
	first, heard := s.Local, s.Local
	var sent [][]byte
	for i, p := range l {
		behind, b, e := Step(s, p)
		if e != api.OK || len(b) > 40 {
			t.Fatalf("%v: at %d: of %v, %v: got %x, %d", what, i, s, p, b, e)
		}
		s, sent = behind, append(sent, b)
		heard, _, e = decoder.All(heard, b)
		if e != api.OK || heard != s.Local {
			t.Fatalf("%v: at %d: one hears %v, %d; Local is %v", what, i, heard, e, s.Local)
		}
	}
	all, samples, e := decoder.All(first, sent...)
	if e != api.OK || !decoder.Same(all, s.Local) || len(samples) != len(l) {
		t.Errorf("%v: who hears all has %v, %d, and %d samples of %d; Local is %v", what, all, e, len(samples), len(l), s.Local)
	}
	return sent, samples
}

// wantIntras holds that there is an Intra where sending begins, and that no more than Fresh frames stand between it and the next.
func wantIntras(t *testing.T, what any, sent [][]byte) {
	t.Helper()
	kinds := ""
	for _, b := range sent {
		kinds += kindOf(b)
	}
	since := api.Fresh + 1
	for i, kind := range kinds {
		switch kind {
		case 'I':
			since = 0
		case 'i':
			if since++; since > api.Fresh {
				t.Errorf("%v: at %d: of %s", what, i, kinds)
			}
		case 's', '.':
			since = api.Fresh + 1
		default:
			t.Errorf("%v: at %d: of %s", what, i, kinds)
		}
	}
}

func TestWhoHearsAllHasWhatLocalSays(t *testing.T) {
	for part := range 6 {
		t.Run(fmt.Sprint(part), func(t *testing.T) {
			t.Parallel()
			d := dice(200 + part)
			for i, l := range [][]api.Pcm{d.talk(150), d.loudTalk(60), d.quietTalk(40), d.talk(150)} {
				sent, _ := wantHeard(t, i, Start(), l)
				wantIntras(t, i, sent)
			}
		})
	}
}

// Who has what Local says, whatever that is, has it on.
func TestWhoHearsOnFromAnyState(t *testing.T) {
	t.Parallel()
	d := dice(15)
	for i, s := range states() {
		s.Sent, s.Quiet = s.Sent%100, s.Quiet%100
		wantHeard(t, i, s, d.talk(12))
		again := Again(s)
		sent, _ := wantHeard(t, i, again, d.talk(12))
		wantIntras(t, i, sent)
	}
}

// Behind Again one who begins anew hears what follows, and has what Local says.
func TestWhoBeginsAnewHearsTheNextTalk(t *testing.T) {
	d := dice(16)
	for i := range 10 {
		s, _, e := Run(Start(), d.talk(10)...)
		if e != api.OK {
			t.Fatalf("%d: got %d", i, e)
		}
		behind, sent, e := Run(Again(s), d.talk(10)...)
		heard, _, e2 := decoder.All(decoder.Start(), sent...)
		if heard != behind.Local || e != api.OK || e2 != api.OK {
			t.Errorf("%d: one hears %v, %d, %d; Local is %v", i, heard, e, e2, behind.Local)
		}
	}
}

// Frames of samples that are as far off each other as may be have no more bytes than a frame may have.
func TestBytesOfFrames(t *testing.T) {
	t.Parallel()
	d := dice(17)
	l := []api.Pcm{even(32767), even(-32768), even(32767), {}, even(-32768)}
	for range 12 {
		var p, q api.Pcm
		for n := range p {
			p[n], q[n] = 65535*d.between(0, 1)-32768, 65535*(n>>d.between(0, 3)&1)-32768
		}
		l = append(l, p, q, d.noise(32767))
	}
	for n := range api.Hop {
		l = append(l, with(api.Pcm{}, n, 32767), with(even(32767), n, -32768))
	}
	for _, p := range slices.Clone(l) {
		l = append(l, scaled(p, 99), scaled(p, 50), scaled(p, 3))
	}
	sent, _ := wantHeard(t, "the loudest", Start(), l)
	longest := 0
	for _, b := range sent {
		longest = max(longest, len(b))
	}
	if longest < 15 {
		t.Errorf("the longest has %d bytes", longest)
	}
}

// A tone is heard about as loud as it is, one frame late; silence is silence.
func TestATalkIsHeard(t *testing.T) {
	l := slices.Concat(make([]api.Pcm, 4), slices.Repeat([]api.Pcm{tone(3000)}, 12), make([]api.Pcm, 20))
	_, samples := wantHeard(t, "a tone", Start(), l)
	for i, p := range samples {
		want := api.Pcm{}
		if i > 0 {
			want = l[i-1]
		}
		for n, v := range p {
			if off := v - want[n]; off < -1500 || off > 1500 || i < 4 && off != 0 || i > 22 && off != 0 {
				t.Errorf("at %d, %d: heard %v; said %v", i, n, p, want)
			}
		}
	}
}
