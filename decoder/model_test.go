package decoder

import (
	"bytes"
	"math"
	"slices"
	"testing"

	"squelch/api"
	"squelch/bands"
	"squelch/frame"
	"squelch/lapped"
	"squelch/quant"
)

// answer is all that a call tells.
type answer struct {
	s api.Synth
	p api.Pcm
	e api.Errno
}

func told(s api.Synth, p api.Pcm, e api.Errno) answer { return answer{s, p, e} }

// mayOf is the chapter's words, with the bounds of layers 7 and 8 as numbers.
func mayOf(s api.Synth) bool {
	for _, v := range s.T {
		if v < -1099511627776 || v > 1099511627776 {
			return false
		}
	}
	for _, v := range s.L {
		if v < 0 || v > 255 {
			return false
		}
	}
	return !(s.Live && s.Hush)
}

// soundedOf is the chapter's words: the numbers' wave, lapped over the tail.
func soundedOf(t api.Tail, x api.Spec) (api.Pcm, api.Tail) {
	w, e1 := lapped.Inverse(x)
	p, left, e2 := lapped.Lap(t, w)
	if e1 != api.OK || e2 != api.OK {
		panic("numbers that have no sound")
	}
	return p, left
}

func noiseOf(seed uint32, l api.Levels) (api.Spec, uint32) {
	x, next, e := quant.Noise(seed, l)
	if e != api.OK {
		panic("levels that have no noise")
	}
	return x, next
}

func stepOf(s api.Synth, b []byte) answer {
	if !mayOf(s) {
		return answer{e: 1}
	}
	f, e := frame.Read(b, s.L)
	if e != api.OK {
		return answer{e: e}
	}
	if f.Kind == 1 && !s.Live {
		return answer{e: 40}
	}
	if f.Kind == 2 {
		x, seed := noiseOf(s.Seed, f.L)
		p, left := soundedOf(s.T, x)
		return answer{s: api.Synth{T: left, L: f.L, Live: false, Hush: true, Seed: seed}, p: p}
	}
	x, e := quant.Great(f.Q, f.L)
	if e != api.OK {
		panic("a frame that has no great numbers")
	}
	p, left := soundedOf(s.T, x)
	return answer{s: api.Synth{T: left, L: f.L, Live: true, Hush: false, Seed: s.Seed}, p: p}
}

func restOf(s api.Synth) answer {
	if !mayOf(s) {
		return answer{e: 1}
	}
	if s.Hush {
		x, seed := noiseOf(s.Seed, s.L)
		p, left := soundedOf(s.T, x)
		return answer{s: api.Synth{T: left, L: s.L, Live: false, Hush: true, Seed: seed}, p: p}
	}
	p, left := soundedOf(s.T, api.Spec{})
	return answer{s: api.Synth{T: left, L: s.L, Live: false, Hush: false, Seed: s.Seed}, p: p}
}

func fadeOf(s api.Synth, by int) answer {
	if !mayOf(s) || by < 1 {
		return answer{e: 1}
	}
	l := s.L
	for b, level := range l {
		if level <= by {
			l[b] = 0
		} else {
			l[b] = level - by
		}
	}
	x, seed := noiseOf(s.Seed, l)
	p, left := soundedOf(s.T, x)
	return answer{s: api.Synth{T: left, L: l, Live: false, Hush: s.Hush, Seed: seed}, p: p}
}

// allOf is the chapter's words, by those of Step and Rest.
func allOf(s api.Synth, l [][]byte) (api.Synth, []api.Pcm, api.Errno) {
	if !mayOf(s) {
		return api.Synth{}, nil, 1
	}
	var samples []api.Pcm
	for _, b := range l {
		a := restOf(s)
		if len(b) > 0 {
			a = stepOf(s, b)
		}
		if a.e != api.OK {
			return api.Synth{}, nil, a.e
		}
		s, samples = a.s, append(samples, a.p)
	}
	return s, samples, api.OK
}

// want holds what was told of s against what is to be told, and answers the state behind, s itself behind an error.
func want(t *testing.T, what any, s api.Synth, got, want answer) api.Synth {
	t.Helper()
	if got != want {
		t.Errorf("%v: of %v: got %v; want %v", what, s, got, want)
	}
	if got.e != api.OK {
		return s
	}
	if e := Check(got.s); e != api.OK {
		t.Errorf("%v: of %v: the state behind, %v, may not be: %d", what, s, got.s, e)
	}
	return got.s
}

func wantStep(t *testing.T, what any, s api.Synth, b []byte) api.Synth {
	t.Helper()
	was := bytes.Clone(b)
	behind := want(t, what, s, told(Step(s, b)), stepOf(s, was))
	if !bytes.Equal(b, was) {
		t.Errorf("%v: Step changed %x to %x", what, was, b)
	}
	return behind
}

func wantRest(t *testing.T, what any, s api.Synth) api.Synth {
	t.Helper()
	return want(t, what, s, told(Rest(s)), restOf(s))
}

func wantFade(t *testing.T, what any, s api.Synth, by int) api.Synth {
	t.Helper()
	return want(t, what, s, told(Fade(s, by)), fadeOf(s, by))
}

// wantAll holds All against the chapter's words, and answers the state behind.
func wantAll(t *testing.T, what any, s api.Synth, l [][]byte) api.Synth {
	t.Helper()
	wantS, wantP, wantE := allOf(s, l)
	got, p, e := All(s, l...)
	if got != wantS || !slices.Equal(p, wantP) || e != wantE {
		t.Errorf("%v: All of %v, %x: got %v, %v, %d; want %v, %v, %d", what, s, l, got, p, e, wantS, wantP, wantE)
	}
	return got
}

// bytesOf are a frame's bytes.
func bytesOf(f api.Frame, prev api.Levels) []byte {
	b, e := frame.Write(f, prev)
	if e != api.OK {
		panic("a frame that may not be")
	}
	return b
}

// dice are numbers that are the same in each run.
type dice uint64

func (d *dice) next() uint64 {
	*d = *d*6364136223846793005 + 1442695040888963407
	x := uint64(*d)
	return x ^ x>>29
}

func (d *dice) between(least, most int) int {
	return least + int((d.next()>>1)%uint64(most-least+1))
}

// number is one from least to most: at an end, near 0, or anywhere.
func (d *dice) number(least, most int) int {
	switch d.between(0, 9) {
	case 0:
		return least
	case 1:
		return most
	case 2:
		return max(least, min(d.between(-3, 3), most))
	}
	return d.between(least, most)
}

func (d *dice) bytes(n int) []byte {
	b := make([]byte, n)
	for i := range b {
		b[i] = byte(d.next() >> 20)
	}
	return b
}

// levels are of any kind: about one level, each at an end, or silence, among them.
func (d *dice) levels() (l api.Levels) {
	about := d.between(0, 255)
	for b := range l {
		switch d.between(0, 5) {
		case 0:
			l[b] = d.number(0, 255)
		case 1:
			l[b] = 0
		default:
			l[b] = max(0, min(about+d.between(-24, 24), 255))
		}
	}
	return l
}

// small are numbers that may be for the levels.
func (d *dice) small(l api.Levels) (q [api.Hop]int) {
	a, e := bands.Share(l, 120)
	if e != api.OK {
		panic("levels that may not be")
	}
	for n := range q {
		b, _ := bands.Of(n)
		q[n] = d.number(-quant.Most(a[b]), quant.Most(a[b]))
	}
	return q
}

func (d *dice) intra() []byte {
	l := d.levels()
	return bytesOf(api.Frame{Kind: api.Intra, L: l, Q: d.small(l)}, api.Levels{})
}

// inter is one that may be behind the levels prev.
func (d *dice) inter(prev api.Levels) []byte {
	l := prev
	for b := range l {
		l[b] = max(0, min(prev[b]+d.number(-8, 7), 255))
	}
	return bytesOf(api.Frame{Kind: api.Inter, L: l, Q: d.small(l)}, prev)
}

func (d *dice) sid() []byte {
	return bytesOf(api.Frame{Kind: api.Sid, L: d.levels()}, api.Levels{})
}

// each is a frame of each Kind that may be behind the state.
func (d *dice) each(s api.Synth) [][]byte {
	l := [][]byte{d.intra(), d.sid()}
	if s.Live {
		l = append(l, d.inter(s.L))
	}
	return l
}

func (d *dice) tail() (t api.Tail) {
	most := 1 << d.between(0, 40)
	for n := range t {
		t[n] = d.number(-most, most)
	}
	return t
}

func (d *dice) seed() uint32 {
	seeds := []uint32{0, 1, math.MaxUint32, 1 << 31}
	if i := d.between(0, 9); i < len(seeds) {
		return seeds[i]
	}
	return uint32(d.next() >> 8)
}

// state is one that may be: Live, Hush, or neither.
func (d *dice) state() api.Synth {
	how := d.between(0, 2)
	return api.Synth{T: d.tail(), L: d.levels(), Live: how == 1, Hush: how == 2, Seed: d.seed()}
}

// states are those at the ends of what may be, and many drawn ones.
func states() []api.Synth {
	const most = 1 << 40
	d := dice(1)
	var l []api.Synth
	seeds := [3]uint32{0, 1, math.MaxUint32}
	for i, v := range []int{0, 1, 255} {
		for k, far := range []int{0, 1, -1, 255, -256, most, -most} {
			s := api.Synth{T: even[api.Tail](far), L: even[api.Levels](v), Seed: seeds[(i+k)%3]}
			l = append(l, s, live(s), hush(s))
		}
	}
	for range 120 {
		l = append(l, d.state())
	}
	return append(l, Start(), api.Synth{})
}

func live(s api.Synth) api.Synth {
	s.Live, s.Hush = true, false
	return s
}

func hush(s api.Synth) api.Synth {
	s.Live, s.Hush = false, true
	return s
}

func neither(s api.Synth) api.Synth {
	s.Live, s.Hush = false, false
	return s
}

// line is any of the arrays that a state has.
type line interface {
	api.Tail | api.Levels
}

// even is v at each place.
func even[L line](v int) (l L) {
	for i := range len(l) {
		l[i] = v
	}
	return l
}

// with is l, but v at that place.
func with[L line](l L, at, v int) L {
	l[at] = v
	return l
}

// wrongStates are those that may not be, by what is wrong in them.
func wrongStates() map[string][]api.Synth {
	const most = 1 << 40
	both := api.Synth{Live: true, Hush: true, Seed: 1}
	l := map[string][]api.Synth{
		"both Live and Hush": {both, {T: even[api.Tail](most), L: even[api.Levels](255), Live: true, Hush: true}, {L: api.Levels{5: 1}, Live: true, Hush: true, Seed: math.MaxUint32}},
		"all": {
			{T: api.Tail{most + 1}, L: api.Levels{256}, Live: true, Hush: true},
			{T: even[api.Tail](math.MinInt), L: even[api.Levels](math.MaxInt), Live: true, Hush: true},
		},
	}
	add := func(what string, s api.Synth) {
		l[what] = append(l[what], neither(s), live(s), hush(s))
	}
	for n := range api.Hop {
		for _, others := range []int{0, most, -most} {
			for _, v := range []int{most + 1, -most - 1, math.MaxInt, math.MinInt} {
				add("tail", api.Synth{T: with(even[api.Tail](others), n, v), L: api.Levels{100}, Seed: 1})
			}
		}
	}
	for b := range api.Bands {
		for _, others := range []int{0, 100, 255} {
			for _, v := range []int{-1, 256, 1 << 32, -1 << 32, math.MaxInt, math.MinInt} {
				add("levels", api.Synth{L: with(even[api.Levels](others), b, v), Seed: 1})
			}
		}
	}
	return l
}
