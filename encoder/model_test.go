package encoder

import (
	"fmt"
	"math"
	"testing"

	"squelch/api"
	"squelch/bands"
	"squelch/decoder"
	"squelch/frame"
	"squelch/lapped"
	"squelch/quant"
)

// answer is all that Step tells; its bytes stand in base sixteen, so that two answers can be held against each other.
type answer struct {
	t api.Talk
	b string
	e api.Errno
}

func told(t api.Talk, b []byte, e api.Errno) answer { return answer{t, hexOf(b), e} }

func hexOf(b []byte) string { return fmt.Sprintf("%x", b) }

// sentOf is what is sent of p.
func sentOf(s api.Talk, p api.Pcm) []byte {
	_, b, _ := Step(s, p)
	return b
}

// mayOf is the chapter's words, with all bounds as numbers.
func mayOf(t api.Talk) bool {
	for _, v := range t.Local.T {
		if v < -1099511627776 || v > 1099511627776 {
			return false
		}
	}
	for _, v := range t.Local.L {
		if v < 0 || v > 255 {
			return false
		}
	}
	if t.Local.Live && t.Local.Hush || t.Hang < 0 || t.Hang > 4 {
		return false
	}
	return t.Sent >= 0 && t.Sent <= 1099511627776 && t.Quiet >= 0 && t.Quiet <= 1099511627776 && samplesOf(t.Prev)
}

// samplesOf tells whether samples may be.
func samplesOf(p api.Pcm) bool {
	for _, v := range p {
		if v < -32768 || v > 32767 {
			return false
		}
	}
	return true
}

// measureOf are the numbers of p behind prev, and their levels.
func measureOf(prev, p api.Pcm) (api.Spec, api.Levels) {
	x, e1 := lapped.Forward(prev, p)
	l, e2 := bands.Measure(x)
	if e1 != api.OK || e2 != api.OK {
		panic("samples that have no levels")
	}
	return x, l
}

func levelsOf(prev, p api.Pcm) api.Levels {
	_, l := measureOf(prev, p)
	return l
}

func loudOf(prev, p api.Pcm) bool { return bands.Loud(levelsOf(prev, p)) >= 100 }

// stepOf is the chapter's words.
func stepOf(t api.Talk, p api.Pcm) answer {
	if !mayOf(t) || !samplesOf(p) {
		return answer{e: 1}
	}
	x, l := measureOf(t.Prev, p)
	next := t
	var b []byte
	if loudOf(t.Prev, p) || t.Hang > 0 {
		q, _, e := quant.Small(x, l)
		if e != api.OK {
			panic("numbers that are not made small")
		}
		kind := 1
		if !t.Local.Live || t.Sent%8 == 0 || !frame.Near(l, t.Local.L) {
			kind = 0
		}
		b = bytesOf(api.Frame{Kind: kind, L: l, Q: q}, t.Local.L)
		next.Sent = t.Sent + 1
		next.Quiet = 0
	} else {
		if t.Quiet%8 == 0 {
			b = bytesOf(api.Frame{Kind: 2, L: l}, t.Local.L)
		}
		next.Sent = 0
		next.Quiet = t.Quiet + 1
	}
	if loudOf(t.Prev, p) {
		next.Hang = 4
	} else if t.Hang > 0 {
		next.Hang = t.Hang - 1
	}
	next.Local = heardOf(t.Local, b)
	next.Prev = p
	return answer{t: next, b: hexOf(b)}
}

// heardOf is what one who hears has behind b.
func heardOf(s api.Synth, b []byte) api.Synth {
	behind, _, e := decoder.Rest(s)
	if len(b) > 0 {
		behind, _, e = decoder.Step(s, b)
	}
	if e != api.OK {
		panic("bytes that are not heard")
	}
	return behind
}

// runOf is the chapter's words, by those of Step.
func runOf(t api.Talk, l []api.Pcm) (api.Talk, []string, api.Errno) {
	if !mayOf(t) {
		return api.Talk{}, nil, 1
	}
	var all []string
	for _, p := range l {
		a := stepOf(t, p)
		if a.e != api.OK {
			return api.Talk{}, nil, a.e
		}
		t, all = a.t, append(all, a.b)
	}
	return t, all, api.OK
}

func bytesOf(f api.Frame, prev api.Levels) []byte {
	b, e := frame.Write(f, prev)
	if e != api.OK {
		panic("a frame that may not be")
	}
	return b
}

// kindOf is I of an Intra's bytes, i of an Inter's, s of a Sid's, and a point of none.
func kindOf(b []byte) string {
	if len(b) == 0 {
		return "."
	}
	n, e := frame.Kind(b)
	if e != api.OK {
		return "?"
	}
	return "Iis"[n : n+1]
}

// want holds what Step told of t and p against what is to be told, and answers the state behind, t itself behind an error.
func want(t *testing.T, what any, s api.Talk, p api.Pcm) api.Talk {
	t.Helper()
	got, want := told(Step(s, p)), stepOf(s, p)
	if got != want {
		t.Errorf("%v: of %v, %v: got %v; want %v", what, s, p, got, want)
	}
	if got.e != api.OK {
		return s
	}
	return got.t
}

// wantKind is want, and holds the kind of what is sent against that which is told.
func wantKind(t *testing.T, what any, s api.Talk, p api.Pcm, kind string) api.Talk {
	t.Helper()
	behind := want(t, what, s, p)
	if b := sentOf(s, p); kindOf(b) != kind {
		t.Errorf("%v: of %v, %v: got %x, of kind %s; want kind %s", what, s, p, b, kindOf(b), kind)
	}
	return behind
}

// kindsOf are the kinds of all that is sent of l behind s, and the state behind.
func kindsOf(t *testing.T, s api.Talk, l []api.Pcm) (string, api.Talk) {
	t.Helper()
	kinds := ""
	for i, p := range l {
		kinds += kindOf(sentOf(s, p))
		s = want(t, i, s, p)
	}
	return kinds, s
}

// dice are numbers that are the same in each run.
type dice uint64

func (d *dice) next() uint64 {
	*d = *d*6364136223846793005 + 1442695040888963407
	x := uint64(*d)
	return x ^ x>>29
}

func (d *dice) between(least, most int) int {
	return least + int((d.next()>>1)%uint64(most-least+1))
}

// number is one from least to most: at an end, near 0, or anywhere.
func (d *dice) number(least, most int) int {
	switch d.between(0, 9) {
	case 0:
		return least
	case 1:
		return most
	case 2:
		return max(least, min(d.between(-3, 3), most))
	}
	return d.between(least, most)
}

// noise are samples of any kind, none beyond most.
func (d *dice) noise(most int) (p api.Pcm) {
	for n := range p {
		p[n] = d.number(-most, most)
	}
	return p
}

// scaled is p, louder or less so, by parts of 100.
func scaled(p api.Pcm, by int) api.Pcm {
	for n, v := range p {
		p[n] = max(-32768, min(v*by/100, 32767))
	}
	return p
}

// tone goes from -3 to 3 times by, each 16 samples the same.
func tone(by int) (p api.Pcm) {
	for n := range p {
		p[n] = by * ((n/2)%4*2 - 3)
	}
	return p
}

// samples are of any kind: silence, noise that is quiet, about where it is loud, or loud, and what has one that is not 0.
func (d *dice) samples() api.Pcm {
	switch d.between(0, 7) {
	case 0:
		return api.Pcm{}
	case 1:
		return d.noise(d.between(1, 60))
	case 2, 3:
		return d.noise(d.between(60, 500))
	case 4:
		return even(d.number(-32768, 32767))
	case 5:
		return with(api.Pcm{}, d.between(0, 15), d.number(-32768, 32767))
	}
	return d.noise(d.between(500, 32767))
}

// pair are two frames' samples: of many both are quiet.
func (d *dice) pair() (api.Pcm, api.Pcm) {
	if d.between(0, 1) == 0 {
		return d.noise(d.between(0, 60)), d.noise(d.between(0, 60))
	}
	return d.samples(), d.samples()
}

// talk are n frames' samples: now and then loud ones, quiet ones, silence, or such as change; of those that follow each other many are nearly the same.
func (d *dice) talk(n int) []api.Pcm {
	most := []int{0, 20, 150, 300, 500, 3000, 30000}
	var l []api.Pcm
	for len(l) < n {
		about := d.noise(most[d.between(0, len(most)-1)])
		how := d.between(0, 4)
		for range d.between(1, 22) {
			switch how {
			case 0:
				about = d.noise(most[d.between(0, len(most)-1)])
			case 1:
				about = with(about, d.between(0, 15), d.between(-200, 200))
			}
			l = append(l, scaled(about, d.between(80, 120)))
		}
	}
	return l[:n]
}

// loudTalk are n frames' samples, all of them loud.
func (d *dice) loudTalk(n int) []api.Pcm {
	var l []api.Pcm
	for range n {
		if len(l) == 0 || d.between(0, 3) == 0 {
			l = append(l, d.noise(d.between(2000, 32767)))
			continue
		}
		l = append(l, scaled(l[len(l)-1], d.between(90, 110)))
	}
	for i := range l {
		l[i][d.between(0, 15)] = 2000 + d.between(0, 30000)
	}
	return l
}

// quietTalk are n frames' samples, none of them loud.
func (d *dice) quietTalk(n int) []api.Pcm {
	l := make([]api.Pcm, n)
	for i := range l {
		l[i] = d.noise(d.between(1, 50))
	}
	return l
}

func (d *dice) levels() (l api.Levels) {
	about := d.between(0, 255)
	for b := range l {
		l[b] = max(0, min(about+d.number(-24, 24), 255))
	}
	return l
}

// synth is what one who hears may have: Live, Hush, or neither.
func (d *dice) synth() api.Synth {
	most := 1 << d.between(0, 40)
	s := api.Synth{L: d.levels(), Seed: uint32(d.next() >> 8)}
	for n := range s.T {
		s.T[n] = d.number(-most, most)
	}
	how := d.between(0, 2)
	s.Live, s.Hush = how == 1, how == 2
	return s
}

// count is how many frames may have been counted: about what Fresh divides, at the bound, or any.
func (d *dice) count() int {
	counts := []int{0, 1, 7, 8, 9, 15, 16, 17, most - 9, most - 8, most - 1, most}
	if i := d.between(0, 2*len(counts)); i < len(counts) {
		return counts[i]
	}
	return d.between(0, most)
}

// state is one that may be; of many nothing hangs on.
func (d *dice) state() api.Talk {
	return api.Talk{Prev: d.samples(), Hang: max(0, d.between(-3, 4)), Sent: d.count(), Quiet: d.count(), Local: d.synth()}
}

// stateNear is one that may be, and p: of many of these the levels are near those that were heard.
func (d *dice) stateNear() (api.Talk, api.Pcm) {
	s, p := d.state(), api.Pcm{}
	s.Prev, p = d.pair()
	if d.between(0, 2) == 0 {
		return s, p
	}
	s.Local.L = levelsOf(s.Prev, p)
	for b, v := range s.Local.L {
		s.Local.L[b] = max(0, min(v+d.between(-7, 8), 255))
	}
	s.Local.Live, s.Local.Hush = d.between(0, 3) > 0, false
	return s, p
}

// most is 2^40.
const most = 1099511627776

// states are those at the ends of what may be, and drawn ones.
func states() []api.Talk {
	d := dice(1)
	var l []api.Talk
	for i, v := range []int{0, 1, -1, 32767, -32768} {
		for k, n := range []int{0, 1, 7, 8, most} {
			s := api.Talk{Prev: even(v), Hang: k, Sent: n, Quiet: most - n, Local: d.synth()}
			switch (i + k) % 3 {
			case 1:
				s.Local = api.Synth{T: tailOf(most), L: api.Levels{255, 255, 255, 255, 255, 255}, Live: true, Seed: math.MaxUint32}
			case 2:
				s.Local = api.Synth{T: tailOf(-most), Hush: true}
			}
			l = append(l, s)
		}
	}
	for range 60 {
		l = append(l, d.state())
	}
	return append(l, Start(), api.Talk{})
}

// wrongStates are those that may not be, by what is wrong with them.
func wrongStates() map[string][]api.Talk {
	wrong := map[string][]api.Talk{}
	for i, s := range states() {
		if i%4 != 0 {
			continue
		}
		for what, spoil := range spoils() {
			spoilt := s
			spoil(&spoilt)
			wrong[what] = append(wrong[what], spoilt)
		}
	}
	return wrong
}

// spoils are what makes a state one that may not be.
func spoils() map[string]func(t *api.Talk) {
	return map[string]func(t *api.Talk){
		"the first sample ahead, below": func(t *api.Talk) { t.Prev[0] = -32769 },
		"the first sample ahead, above": func(t *api.Talk) { t.Prev[0] = 32768 },
		"the last sample ahead, below":  func(t *api.Talk) { t.Prev[15] = -32769 },
		"the last sample ahead, above":  func(t *api.Talk) { t.Prev[15] = 32768 },
		"the least sample ahead":        func(t *api.Talk) { t.Prev[7] = math.MinInt },
		"the greatest sample ahead":     func(t *api.Talk) { t.Prev[8] = math.MaxInt },
		"Hang below":                    func(t *api.Talk) { t.Hang = -1 },
		"Hang above":                    func(t *api.Talk) { t.Hang = 5 },
		"the least Hang":                func(t *api.Talk) { t.Hang = math.MinInt },
		"the greatest Hang":             func(t *api.Talk) { t.Hang = math.MaxInt },
		"Sent below":                    func(t *api.Talk) { t.Sent = -1 },
		"Sent above":                    func(t *api.Talk) { t.Sent = most + 1 },
		"Sent far below":                func(t *api.Talk) { t.Sent = -8 },
		"the least Sent":                func(t *api.Talk) { t.Sent = math.MinInt },
		"the greatest Sent":             func(t *api.Talk) { t.Sent = math.MaxInt },
		"Quiet below":                   func(t *api.Talk) { t.Quiet = -1 },
		"Quiet above":                   func(t *api.Talk) { t.Quiet = most + 1 },
		"Quiet far below":               func(t *api.Talk) { t.Quiet = -8 },
		"the least Quiet":               func(t *api.Talk) { t.Quiet = math.MinInt },
		"the greatest Quiet":            func(t *api.Talk) { t.Quiet = math.MaxInt },
		"the tail's first, below":       func(t *api.Talk) { t.Local.T[0] = -most - 1 },
		"the tail's last, above":        func(t *api.Talk) { t.Local.T[15] = most + 1 },
		"the first level, below":        func(t *api.Talk) { t.Local.L[0] = -1 },
		"the last level, above":         func(t *api.Talk) { t.Local.L[5] = 256 },
		"Live and Hush":                 func(t *api.Talk) { t.Local.Live, t.Local.Hush = true, true },
		"Sent and Quiet":                func(t *api.Talk) { t.Sent, t.Quiet = -1, most+1 },
		"Hang, and a sample":            func(t *api.Talk) { t.Hang, t.Prev[3] = 5, 40000 },
		"all": func(t *api.Talk) {
			*t = api.Talk{Prev: even(-32769), Hang: 5, Sent: -1, Quiet: most + 1, Local: api.Synth{T: tailOf(most + 1), L: api.Levels{256, -1}, Live: true, Hush: true}}
		},
	}
}

// wrongSamples are such as may not be.
func wrongSamples() []api.Pcm {
	var l []api.Pcm
	for _, n := range []int{0, 1, 8, 15} {
		for _, v := range []int{-32769, 32768, 40000, math.MinInt, math.MaxInt} {
			l = append(l, with(api.Pcm{}, n, v), with(tone(3000), n, v))
		}
	}
	return append(l, even(32768), even(-32769), even(math.MinInt), with(with(api.Pcm{}, 0, 32768), 15, -32769))
}

// even is v at each place.
func even(v int) (p api.Pcm) {
	for n := range p {
		p[n] = v
	}
	return p
}

func tailOf(v int) api.Tail { return api.Tail(even(v)) }

// with is p, but v at that place.
func with(p api.Pcm, at, v int) api.Pcm {
	p[at] = v
	return p
}
