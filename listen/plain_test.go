package listen

import (
	"slices"
	"testing"

	"squelch/api"
	"squelch/decoder"
)

// P14.4

func TestPlainOfNothing(t *testing.T) {
	if l := Plain(); len(l) != 0 {
		t.Errorf("got %v", l)
	}
	if l := Plain([][]byte{}...); len(l) != 0 {
		t.Errorf("got %v", l)
	}
	for _, none := range [][]byte{nil, {}} {
		if l := wantPlain(t, "one empty one", none); len(l) != 1 || l[0] != (api.Pcm{}) {
			t.Errorf("got %v", l)
		}
	}
	for n := range 40 {
		if l := wantPlain(t, n, make([][]byte, n)...); !slices.Equal(l, make([]api.Pcm, n)) {
			t.Errorf("%d: got %v", n, l)
		}
	}
}

// An Intra and then nothing: it fades, by more each time.
func TestPlainOfAnIntraAndNothing(t *testing.T) {
	s, p, _ := decoder.Step(decoder.Start(), intra())
	want := []api.Pcm{p}
	for miss := range 40 {
		behind, p, _ := decoder.Fade(s, fadesBy(miss))
		s, want = behind, append(want, p)
	}
	l := make([][]byte, 41)
	l[0] = intra()
	if got := wantPlain(t, "an Intra", l...); !slices.Equal(got, want) || got[0] == (api.Pcm{}) || got[1] == (api.Pcm{}) || got[40] != (api.Pcm{}) {
		t.Errorf("got %v; want %v", got, want)
	}
}

// Behind a Sid it goes on with that noise, however long nothing comes.
func TestPlainOfSilence(t *testing.T) {
	_, want, _ := decoder.All(decoder.Start(), slices.Concat([][]byte{intra(), sid()}, make([][]byte, 40))...)
	got := wantPlain(t, "a Sid", slices.Concat([][]byte{intra(), sid()}, make([][]byte, 40))...)
	if !slices.Equal(got, want) || slices.Contains(got[2:], api.Pcm{}) {
		t.Errorf("got %v; want %v", got, want)
	}
}

// Where all is there it is what the decoder makes of it.
func TestPlainOfAll(t *testing.T) {
	d := dice(7)
	for i := range 20 {
		frames := sent(d.voice(d.between(1, 60)))
		_, want, errno := decoder.All(decoder.Start(), frames...)
		if got := wantPlain(t, i, frames...); !slices.Equal(got, want) || errno != api.OK {
			t.Errorf("%d: of %s: got %v, want %v, %d", i, kindsOf(frames), got, want, errno)
		}
	}
}

// Ahead of the first Intra there is silence, whatever comes; behind it that is as if nothing had come ahead.
func TestPlainAheadOfTheFirstIntra(t *testing.T) {
	d := dice(8)
	talk := slices.Concat([][]byte{intra(), inter(), nil, intra(), sid(), nil}, noFrames(), [][]byte{sid(), intra()})
	want := wantPlain(t, "from the first one on", talk...)
	for i := range 60 {
		var ahead [][]byte
		for range d.between(0, 30) {
			ahead = append(ahead, of(&d, sid(), inter(), d.sid(), d.inter(d.levels()), nil, []byte{}, of(&d, noFrames()...)))
		}
		got := wantPlain(t, i, slices.Concat(ahead, talk)...)
		if n := len(ahead); len(got) != n+len(want) || !slices.Equal(got[:n], make([]api.Pcm, n)) || !slices.Equal(got[n:], want) {
			t.Errorf("%d: ahead %s: got %v; want %v behind", i, kindsOf(ahead), got, want)
		}
	}
}

// Bytes that are no frame, or too many for one, are as none.
func TestPlainOfNoFrames(t *testing.T) {
	for i, b := range append(noFrames(), make([]byte, 41), make([]byte, 1000)) {
		want := wantPlain(t, i, nil, nil, intra(), nil, nil, sid(), nil, intra())
		if got := wantPlain(t, i, b, b, intra(), b, b, sid(), b, intra()); !slices.Equal(got, want) {
			t.Errorf("%d: %x: got %v; want %v", i, b, got, want)
		}
	}
}

// An Inter is heard behind a frame of talk alone.
func TestPlainOfAnInter(t *testing.T) {
	got := wantPlain(t, "an Inter", intra(), nil, inter(), intra(), inter(), sid(), inter())
	want := wantPlain(t, "none", intra(), nil, nil, intra(), inter(), sid(), nil)
	if !slices.Equal(got, want) {
		t.Errorf("got %v; want %v", got, want)
	}
}

func TestPlainByTheWords(t *testing.T) {
	t.Parallel()
	d := dice(9)
	heard := map[string]int{}
	for i := range 120 {
		var l [][]byte
		e := opened(0, 0, 1)
		for range d.between(1, 60) {
			b := d.frame(e.S.L)
			if d.between(0, 3) == 0 {
				b = nil
			}
			next, _, how := soundOf(e, b)
			l, e = append(l, b), next
			heard[how]++
		}
		wantPlain(t, i, l...)
		wantPlain(t, i, withGaps(&d, d.frames(30))...)
	}
	for _, how := range []string{first, goes, silent, refused, unheard, rested, faded} {
		if heard[how] < 50 {
			t.Errorf("there were %v", heard)
		}
	}
}

// withGaps is l, some of it left out: no bytes are there.
func withGaps(d *dice, l [][]byte) [][]byte {
	l = slices.Clone(l)
	share := d.between(0, 9)
	for i := range l {
		if d.between(0, 9) < share {
			l[i] = nil
		}
	}
	return l
}

// What is told is the caller's own, and each call tells the same of the same.
func TestPlainKeepsNothing(t *testing.T) {
	l := [][]byte{intra(), inter(), sid(), nil, intra()}
	first, second := Plain(l...), Plain(l...)
	for i := range first {
		first[i][0]++
		for k := range l[i] {
			l[i][k] ^= 0xff
		}
	}
	if want := Plain(intra(), inter(), sid(), nil, intra()); !slices.Equal(second, want) {
		t.Errorf("got %v; want %v", second, want)
	}
}
