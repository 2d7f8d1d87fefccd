package encoder

import (
	"bytes"
	"fmt"
	"math"
	"slices"
	"testing"

	"squelch/api"
)

// P12.3

// wantRun holds Run against the chapter's words, and answers the state behind, and what is sent.
func wantRun(t *testing.T, what any, s api.Talk, l []api.Pcm) (api.Talk, [][]byte) {
	t.Helper()
	was := slices.Clone(l)
	wantS, wantB, wantE := runOf(s, l)
	got, sent, e := Run(s, l...)
	same := slices.EqualFunc(sent, wantB, func(b []byte, want string) bool { return hexOf(b) == want })
	if got != wantS || !same || e != wantE {
		t.Errorf("%v: Run of %v, %v: got %v, %x, %d; want %v, %s, %d", what, s, l, got, sent, e, wantS, wantB, wantE)
	}
	if !slices.Equal(l, was) {
		t.Errorf("%v: Run changed %v to %v", what, was, l)
	}
	return got, sent
}

// wantWrong holds that Run tells ErrArg, and nothing else.
func wantWrong(t *testing.T, what any, s api.Talk, l ...api.Pcm) {
	t.Helper()
	if got, sent, e := Run(s, l...); got != (api.Talk{}) || len(sent) != 0 || e != api.ErrArg {
		t.Errorf("%v: Run of %v, %v: got %v, %x, %d", what, s, l, got, sent, e)
	}
}

func TestRunOfNothing(t *testing.T) {
	for _, s := range states() {
		for _, l := range [][]api.Pcm{nil, {}} {
			if got, sent, e := Run(s, l...); got != s || len(sent) != 0 || e != api.OK {
				t.Errorf("of %v: got %v, %x, %d", s, got, sent, e)
			}
		}
	}
}

// The state and each one's bytes are those of Step, asked one by one.
func TestRunIsSteps(t *testing.T) {
	t.Parallel()
	d := dice(10)
	for i := range 40 {
		s := Start()
		if i%2 == 0 {
			s, _ = d.stateNear()
			s.Sent, s.Quiet = s.Sent%100, s.Quiet%100
		}
		l := d.talk(d.between(1, 40))
		all, sent := wantRun(t, i, s, l)
		for k, p := range l {
			a := told(Step(s, p))
			if a.e != api.OK || k >= len(sent) || hexOf(sent[k]) != a.b {
				t.Fatalf("%d: at %d: got %s, %d; in one go %x", i, k, a.b, a.e, sent)
			}
			s = a.t
		}
		if all != s {
			t.Errorf("%d: got %v; one by one %v", i, all, s)
		}
	}
}

func TestRunOfOneIsStep(t *testing.T) {
	d := dice(11)
	for range 200 {
		s, p := d.stateNear()
		a := told(Step(s, p))
		if got, sent, e := Run(s, p); got != a.t || len(sent) != 1 || hexOf(sent[0]) != a.b || e != a.e {
			t.Errorf("of %v, %v: got %v, %x, %d; of Step %v", s, p, got, sent, e, a)
		}
	}
}

func TestRunInTwoGoes(t *testing.T) {
	t.Parallel()
	d := dice(12)
	for i := range 4 {
		l := d.talk(24)
		all, sent := wantRun(t, i, Start(), l)
		for cut := range len(l) + 1 {
			first, sentFirst, e1 := Run(Start(), l[:cut]...)
			second, sentSecond, e2 := Run(first, l[cut:]...)
			if second != all || !slices.EqualFunc(slices.Concat(sentFirst, sentSecond), sent, bytes.Equal) || e1 != api.OK || e2 != api.OK {
				t.Errorf("%d: cut at %d: got %v, %x, %x, %d, %d; in one go %v, %x", i, cut, second, sentFirst, sentSecond, e1, e2, all, sent)
			}
		}
	}
}

func TestRunOfWrongStates(t *testing.T) {
	for what, l := range wrongStates() {
		for _, s := range l {
			wantWrong(t, what, s)
			wantWrong(t, what, s, api.Pcm{})
			wantWrong(t, what, s, tone(3000), api.Pcm{}, tone(3000))
			wantWrong(t, what, s, even(32768))
		}
	}
}

// An error is told wherever it is, and nothing else.
func TestRunOfWrongSamples(t *testing.T) {
	d := dice(13)
	for i, p := range wrongSamples() {
		l := d.talk(5)
		wantWrong(t, "alone", Start(), p)
		wantWrong(t, "first", Start(), slices.Concat([]api.Pcm{p}, l)...)
		wantWrong(t, "between", Start(), slices.Insert(slices.Clone(l), 2, p)...)
		wantWrong(t, "last", Start(), append(slices.Clone(l), p)...)
		wantWrong(t, "at both ends", Start(), slices.Concat([]api.Pcm{p}, l, []api.Pcm{p})...)
		wantWrong(t, "two of them", Start(), l[0], p, l[1], even(32768), l[2])
		wantWrong(t, "no others", Start(), p, p)
		s := d.state()
		s.Sent, s.Quiet = 0, 0
		wantWrong(t, i, s, append(slices.Clone(l), p)...)
	}
}

// A count that has gone beyond its bound is an error as soon as there is one frame more, and no sooner.
func TestRunBeyondTheBoundOfCounts(t *testing.T) {
	loud, quiet := tone(3000), api.Pcm{}
	for far := range 4 {
		for _, p := range []api.Pcm{loud, quiet} {
			s := api.Talk{Sent: most - far, Quiet: most - far, Local: api.Synth{Seed: 1}}
			l := slices.Repeat([]api.Pcm{p}, far+1)
			behind, sent := wantRun(t, far, s, l)
			if len(sent) != far+1 || max(behind.Sent, behind.Quiet) != most+1 {
				t.Errorf("%d: got %v, %x", far, behind, sent)
			}
			wantWrong(t, far, s, append(l, p)...)
			wantWrong(t, far, s, append(l, p, p, p)...)
			wantWrong(t, far, behind)
		}
	}
	wantWrong(t, "behind a loud frame", api.Talk{Sent: most}, loud, quiet)
	wantWrong(t, "behind a quiet one", api.Talk{Quiet: most}, quiet, loud)
	for _, s := range []api.Talk{{Sent: most}, {Quiet: most - 1}} {
		if _, sent := wantRun(t, "ends in time", s, []api.Pcm{quiet, loud, loud}); len(sent) != 3 {
			t.Errorf("of %v: got %x", s, sent)
		}
	}
}

// R2: what is handed in stays as it is, what is answered is the caller's own.
func TestNothingIsChangedOrKept(t *testing.T) {
	t.Parallel()
	d := dice(14)
	for i := range 20 {
		l := d.talk(14)
		s := d.state()
		s.Sent, s.Quiet = d.between(0, 20), d.between(0, 20)
		given, was := slices.Clone(l), s
		got, sent := wantRun(t, i, s, given)
		_, wantSent, _ := runOf(s, l)
		for k := range given {
			given[k] = even(math.MaxInt)
		}
		for k, b := range sent {
			if hexOf(b) != wantSent[k] {
				t.Errorf("%d: at %d: what was answered changes with what was handed in: %x", i, k, b)
			}
			_ = append(b, 255, 255)
			for n := range b {
				b[n] = 255
			}
			for n, other := range sent[k+1:] {
				if hexOf(other) != wantSent[k+1+n] {
					t.Errorf("%d: at %d: what was answered at %d is the same bytes", i, k, k+1+n)
				}
			}
		}
		if again, _ := wantRun(t, i, s, l); again != got || s != was {
			t.Errorf("%d: told twice, it is %v; was %v", i, again, got)
		}
		_, b, _ := Step(s, l[0])
		for n := range b {
			b[n] = 255
		}
		want(t, fmt.Sprint(i, ", told twice"), s, l[0])
	}
}
