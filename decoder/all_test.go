package decoder

import (
	"bytes"
	"fmt"
	"math"
	"slices"
	"testing"

	"squelch/api"
)

// P11.4

func TestAllOfNothing(t *testing.T) {
	for _, s := range states() {
		for _, l := range [][][]byte{nil, {}} {
			if got, p, e := All(s, l...); got != s || len(p) != 0 || e != api.OK {
				t.Errorf("%v: got %v, %v, %d", s, got, p, e)
			}
		}
	}
}

func TestAllOfEmptyBytes(t *testing.T) {
	t.Parallel()
	for i, s := range states() {
		for n := 1; n < 5; n++ {
			wantAll(t, i, s, make([][]byte, n))
			wantAll(t, i, s, slices.Repeat([][]byte{{}}, n))
		}
	}
	got, p, e := All(Start(), nil, []byte{}, nil)
	if got != Start() || !slices.Equal(p, make([]api.Pcm, 3)) || e != api.OK {
		t.Errorf("of Start: got %v, %v, %d", got, p, e)
	}
}

// sent are frames that may stand one behind the other, behind s: none of them among them, too.
func (d *dice) sent(s api.Synth, n int) [][]byte {
	l := make([][]byte, n)
	for i := range l {
		each := append(d.each(s), nil, []byte{})
		l[i] = each[d.between(0, len(each)-1)]
		a := restOf(s)
		if len(l[i]) > 0 {
			a = stepOf(s, l[i])
		}
		if a.e != api.OK {
			panic("a frame that may not stand there")
		}
		s = a.s
	}
	return l
}

// Each one's samples, and the state behind all, are those of Step and Rest, asked one by one.
func TestAllIsStepAndRest(t *testing.T) {
	t.Parallel()
	d := dice(10)
	for i, s := range states() {
		l := d.sent(s, d.between(1, 24))
		wantAll(t, i, s, l)
		all, samples, e := All(s, l...)
		if len(samples) != len(l) || e != api.OK {
			t.Fatalf("%d: got %d samples of %d, %d", i, len(samples), len(l), e)
		}
		for k, b := range l {
			a := told(Rest(s))
			if len(b) > 0 {
				a = told(Step(s, b))
			}
			if samples[k] != a.p || a.e != api.OK {
				t.Errorf("%d: at %d: got %v; one by one %v", i, k, samples[k], a)
			}
			s = a.s
		}
		if !Same(all, s) {
			t.Errorf("%d: got %v; one by one %v", i, all, s)
		}
	}
}

func TestAllOfOneIsStep(t *testing.T) {
	d := dice(11)
	for i, s := range states() {
		for _, b := range append(d.each(s), []byte{1}, d.inter(s.L), d.bytes(41)) {
			a := told(Step(s, b))
			got, p, e := All(s, b)
			if got != a.s || e != a.e || e == api.OK && !slices.Equal(p, []api.Pcm{a.p}) || e != api.OK && len(p) != 0 {
				t.Errorf("%d: %x: got %v, %v, %d; of Step %v", i, b, got, p, e, a)
			}
		}
	}
}

// The first error is told, wherever it is, and nothing else.
func TestAllTellsTheFirstError(t *testing.T) {
	d := dice(12)
	form, late := []byte{1, 2, 3}, bytesOf(api.Frame{Kind: api.Inter}, api.Levels{})
	check := func(what string, s api.Synth, want api.Errno, l ...[]byte) {
		t.Helper()
		wantAll(t, what, s, l)
		if got, p, e := All(s, l...); got != (api.Synth{}) || len(p) != 0 || e != want {
			t.Errorf("%s: All of %v, %x: got %v, %v, %d; want %d", what, s, l, got, p, e, want)
		}
	}
	for range 50 {
		intra, sid, zero := d.intra(), d.sid(), bytesOf(api.Frame{Kind: api.Sid}, api.Levels{})
		check("no frame first", Start(), api.ErrForm, form, intra, sid)
		check("no frame between", Start(), api.ErrForm, intra, nil, form, sid)
		check("no frame last", Start(), api.ErrForm, intra, sid, nil, form)
		check("no frame alone", Start(), api.ErrForm, form)
		check("41 bytes last", Start(), api.ErrForm, nil, intra, make([]byte, 41))
		check("an Inter first", Start(), api.ErrState, late, intra, sid)
		check("an Inter behind a Sid", Start(), api.ErrState, intra, zero, late)
		check("an Inter behind none", Start(), api.ErrState, nil, late)
		check("an Inter behind a Sid and none", Start(), api.ErrState, zero, nil, late)
		check("no frame, then an Inter", Start(), api.ErrForm, zero, form, late)
		check("an Inter, then no frame", Start(), api.ErrState, zero, late, form)
		check("no frame twice", Start(), api.ErrForm, form, form)
		check("an Inter at both ends", Start(), api.ErrState, late, intra, late)
		check("an Inter at the end, none ahead of it", api.Synth{Live: true}, api.ErrState, late, nil, late)
	}
}

// Of frames that one who talks sends, one that is lost among them: the Inters behind it are no more heard.
func TestAllOfTalks(t *testing.T) {
	t.Parallel()
	d := dice(13)
	for i := range 60 {
		s := Start()
		var l [][]byte
		for k := range 24 {
			b := d.intra()
			if k%8 != 0 {
				b = d.inter(s.L)
			}
			l = append(l, b)
			s = stepOf(s, b).s
		}
		if behind := wantAll(t, i, Start(), l); !Same(behind, s) {
			t.Errorf("%d: got %v; want %v", i, behind, s)
		}
		lost := slices.Clone(l)
		lost[d.between(0, 22)] = nil
		wantAll(t, i, Start(), lost)
	}
}

// P11.5

// drawn are bytes of any kind: any at all, frames', those that were spoilt, and what has a Sid's form.
func (d *dice) drawn(s api.Synth, whole []byte) []byte {
	switch d.between(0, 7) {
	case 0, 1:
		return d.bytes(d.between(0, 30))
	case 2:
		return d.bytes(d.between(31, 44))
	case 3:
		b := bytes.Clone(whole)
		copy(b[d.between(0, len(b)-1):], d.bytes(d.between(1, 3)))
		return b
	case 4:
		return append(bytes.Clone(whole[:d.between(1, len(whole))]), d.bytes(d.between(0, 4))...)
	case 5:
		return bytesOf(api.Frame{Kind: api.Inter, L: s.L}, s.L)
	case 6:
		b := d.bytes(7)
		b[0] |= 0xf0
		b[6] = b[6]&0xf0 | 4
		return b
	}
	return whole
}

func TestWhateverBytesThereAre(t *testing.T) {
	for part := range 8 {
		t.Run(fmt.Sprint(part), func(t *testing.T) {
			t.Parallel()
			d := dice(20 + part)
			s, whole := Start(), d.intra()
			of := map[api.Errno]int{}
			for i := range 13000 {
				if i%50 == 0 {
					s = d.state()
					each := append(d.each(s), d.inter(s.L))
					whole = each[d.between(0, len(each)-1)]
				}
				b := d.drawn(s, whole)
				a := told(Step(s, b))
				of[a.e]++
				s = want(t, i, s, a, stepOf(s, b))
			}
			if len(of) != 3 || of[api.OK] < 3000 || of[api.ErrForm] < 3000 || of[api.ErrState] < 200 {
				t.Errorf("there were %v", of)
			}
		})
	}
}

// From the same state the same bytes sound the same, whatever was asked between.
func TestTheSameSoundsTheSame(t *testing.T) {
	t.Parallel()
	d := dice(14)
	for i, s := range states() {
		was := s
		for _, b := range d.each(s) {
			first := told(Step(s, b))
			rest, fade := told(Rest(s)), told(Fade(s, 8))
			Step(d.state(), d.intra())
			All(d.state(), d.sid(), nil, d.intra())
			Fade(first.s, 100)
			want(t, i, s, told(Step(s, bytes.Clone(b))), first)
			want(t, i, s, told(Rest(s)), rest)
			want(t, i, s, told(Fade(s, 8)), fade)
		}
		if s != was {
			t.Errorf("%v was changed to %v", was, s)
		}
	}
}

// Behind an Intra two who heard other things ahead have the same, and hear the same of whatever comes.
func TestBehindAnIntraAllHearTheSame(t *testing.T) {
	t.Parallel()
	d := dice(15)
	all := states()
	for i, a := range all {
		b := all[(i+5)%len(all)]
		b.Seed = a.Seed
		intra := d.intra()
		hereA, hereB := told(Step(a, intra)), told(Step(b, intra))
		if !Same(hereA.s, hereB.s) || a.T == b.T && hereA.p != hereB.p {
			t.Fatalf("%d: behind %x: %v, %v", i, intra, hereA, hereB)
		}
		l := d.sent(hereA.s, 12)
		_, heardA, e1 := All(a, append([][]byte{intra}, l...)...)
		_, heardB, e2 := All(b, append([][]byte{intra}, l...)...)
		if e1 != api.OK || e2 != api.OK || !slices.Equal(heardA[1:], heardB[1:]) {
			t.Fatalf("%d: %v, %v: behind an Intra they hear %v, %d and %v, %d", i, a, b, heardA, e1, heardB, e2)
		}
	}
}

// What was ahead is there in the overlap: but for what goes beyond 16 bits, the samples differ by what the tails do.
func TestAnIntraOverlapsWhatWasAhead(t *testing.T) {
	d := dice(16)
	differ := 0
	for i := range 300 {
		a, b := d.state(), d.state()
		for n := range a.T {
			a.T[n], b.T[n] = 256*d.between(-2000, 2000), 256*d.between(-2000, 2000)
		}
		// Of such levels no sample is beyond 16 bits with tails like these.
		l := api.Levels{120, 110, 100, 90, 100, 110}
		intra := bytesOf(api.Frame{L: l, Q: d.small(l)}, api.Levels{})
		hereA, hereB := told(Step(a, intra)), told(Step(b, intra))
		for n := range api.Hop {
			if hereA.p[n]-hereB.p[n] != (a.T[n]-b.T[n])/256 {
				t.Errorf("%d: at %d: %d, %d; tails %d, %d", i, n, hereA.p[n], hereB.p[n], a.T[n], b.T[n])
			}
		}
		if hereA.p != hereB.p {
			differ++
		}
	}
	if differ < 290 {
		t.Errorf("%d differ", differ)
	}
}

// A seed that differs is not heard behind an Intra, till there is noise.
func TestBehindAnIntraTheSeedIsNotHeard(t *testing.T) {
	t.Parallel()
	d := dice(17)
	for i, a := range states() {
		b := d.state()
		intra := d.intra()
		s := stepOf(a, intra).s
		l := [][]byte{intra}
		for range 10 {
			inter := d.inter(s.L)
			l = append(l, inter)
			s = stepOf(s, inter).s
		}
		l = append(l, nil, nil)
		behindA, heardA, e1 := All(a, l...)
		behindB, heardB, e2 := All(b, l...)
		if e1 != api.OK || e2 != api.OK || !slices.Equal(heardA[1:], heardB[1:]) || behindB.Seed != b.Seed {
			t.Fatalf("%d: %v, %v: behind an Intra they hear %v, %d and %v, %d", i, a, b, heardA, e1, heardB, e2)
		}
		if behindB.Seed = a.Seed; !Same(behindA, behindB) {
			t.Errorf("%d: they have %v, %v", i, behindA, behindB)
		}
	}
}

// R2: what is handed in stays as it is, what is answered is the caller's own.
func TestNothingIsChangedOrKept(t *testing.T) {
	t.Parallel()
	d := dice(18)
	for i, s := range states() {
		l := d.sent(s, 9)
		whole := append(bytes.Join(l, nil), 1, 2, 3)
		was := bytes.Clone(whole)
		var pieces [][]byte
		at := 0
		for _, b := range l {
			pieces = append(pieces, whole[at:at+len(b)])
			at += len(b)
		}
		got, p, e := All(s, pieces...)
		if !bytes.Equal(whole, was) || !slices.EqualFunc(l, pieces, bytes.Equal) || e != api.OK {
			t.Errorf("%d: changed from %x to %x, %d", i, was, whole, e)
		}
		wantS, wantP := got, slices.Clone(p)
		for k := range whole {
			whole[k] = 255
		}
		if got != wantS || !slices.Equal(p, wantP) {
			t.Errorf("%d: what was answered changes with what was handed in", i)
		}
		for k := range p {
			p[k] = api.Pcm{math.MaxInt}
		}
		_ = append(p, api.Pcm{1})
		if got, p, e := All(s, l...); got != wantS || !slices.Equal(p, wantP) || e != api.OK {
			t.Errorf("%d: told twice, it is %v, %v, %d", i, got, p, e)
		}
	}
}
