package listen

import (
	"bytes"
	"encoding/hex"
	"fmt"
	"math"
	"slices"
	"testing"

	"squelch/api"
	"squelch/bands"
	"squelch/decoder"
	"squelch/encoder"
	"squelch/frame"
	"squelch/jitter"
	"squelch/quant"
)

// most is 2^40.
const most = 1099511627776

// textOf is all of an ear as a text, so that two can be held against each other, their packets' bytes too.
func textOf(e api.Ear) string {
	s := fmt.Appendf(nil, "epoch %d, from %d, on %v, miss %d, synth %v; on %v, next %d, depth %d, dry %d:", e.Epoch, e.From, e.On, e.Miss, e.S, e.J.On, e.J.Next, e.J.Depth, e.J.Dry)
	for _, p := range e.J.Q {
		s = fmt.Appendf(s, " %d=", p.Seq)
		s = hex.AppendEncode(s, p.B)
	}
	return string(s)
}

// mayOf is the chapter's words, with the bounds as numbers.
func mayOf(e api.Ear) bool {
	if e.Epoch < 0 || e.Epoch > most || e.From < 0 || e.From > most || e.Miss < 0 || e.Miss > most {
		return false
	}
	return jitter.Check(e.J) == 0 && decoder.Check(e.S) == 0
}

// copyOf is e, with packets of its own.
func copyOf(e api.Ear) api.Ear {
	var q []api.Packet
	for _, p := range e.J.Q {
		q = append(q, api.Packet{Seq: p.Seq, B: bytes.Clone(p.B)})
	}
	e.J.Q = q
	return e
}

// How a frame's bytes, or none, were heard.
const (
	first   = "the first Intra"
	goes    = "On, a frame"
	silent  = "not On, none"
	refused = "not On, but a frame"
	unheard = "On, bytes that are not heard"
	rested  = "On, none, Hush"
	faded   = "On, none, not Hush"
)

// soundOf is the chapter's words of what is heard of a frame's bytes, or none, and how.
func soundOf(e api.Ear, b []byte) (api.Ear, api.Pcm, string) {
	how := ""
	if len(b) > 0 {
		s, p, errno := decoder.Step(e.S, b)
		if errno == 0 {
			f, _ := frame.Read(b, e.S.L)
			switch {
			case e.On:
				e.S, e.Miss = s, 0
				return e, p, goes
			case f.Kind == 0:
				e.S, e.On, e.Miss = s, true, 0
				return e, p, first
			}
			how = refused
		} else if e.On {
			how = unheard
		}
	}
	e.Miss = e.Miss + 1
	if !e.On {
		return e, api.Pcm{}, either(how, silent)
	}
	s, p := coverOf(e.S, e.Miss)
	how = either(how, map[bool]string{true: rested, false: faded}[e.S.Hush])
	e.S = s
	return e, p, how
}

// coverOf is what is heard where so many frames were missed in a row.
func coverOf(s api.Synth, miss int) (api.Synth, api.Pcm) {
	behind, p, errno := decoder.Rest(s)
	if !s.Hush {
		by := 255
		if miss < 16 {
			by = 16 * miss
		}
		behind, p, errno = decoder.Fade(s, by)
	}
	if errno != 0 {
		panic("a synth that is not covered")
	}
	return behind, p
}

func either(a, b string) string {
	if a != "" {
		return a
	}
	return b
}

// turn is all that a tick tells.
type turn struct {
	e     api.Ear
	p     api.Pcm
	what  int
	errno api.Errno
}

func told(e api.Ear, p api.Pcm, what int, errno api.Errno) turn { return turn{e, p, what, errno} }

func (x turn) String() string {
	return fmt.Sprintf("%s; %v, %d, %d", textOf(x.e), x.p, x.what, x.errno)
}

// tickOf is the chapter's words, and how the bytes were heard, if there was a turn.
func tickOf(e api.Ear) (turn, string) {
	if !mayOf(e) {
		return turn{errno: 1}, ""
	}
	j, what, b, errno := jitter.Pull(e.J)
	if errno != 0 {
		panic("what waits is not pulled")
	}
	switch what {
	case 0:
		return turn{e: copyOf(e), what: 0}, ""
	case 3:
		return turn{e: opened(e.Epoch, e.From, e.J.Depth), what: 3}, ""
	case 2:
		b = nil
	}
	e.J = j
	e, p, how := soundOf(e, b)
	return turn{e: e, p: p, what: what}, how
}

// ticksOf is the chapter's words, by those of Tick.
func ticksOf(e api.Ear, many int) (api.Ear, []api.Pcm, api.Errno) {
	if !mayOf(e) || many < 0 || many > 1000 {
		return api.Ear{}, nil, 1
	}
	e = copyOf(e)
	var l []api.Pcm
	for range many {
		x, _ := tickOf(e)
		if x.errno != 0 {
			return api.Ear{}, nil, x.errno
		}
		e, l = x.e, append(l, x.p)
	}
	return e, l, 0
}

// hearOf is the chapter's words.
func hearOf(e api.Ear, epoch, from int, p api.Packet) (api.Ear, bool, api.Errno) {
	if !mayOf(e) {
		return api.Ear{}, false, 1
	}
	if epoch != e.Epoch || from != e.From {
		return copyOf(e), false, 0
	}
	j, became, errno := jitter.Put(e.J, p)
	if errno != 0 {
		return api.Ear{}, false, errno
	}
	e.J = j
	return e, became[0] == 0, 0
}

// plainOf is the chapter's words; the ear is what one has who heard all of it.
func plainOf(l [][]byte) (api.Ear, []api.Pcm) {
	e := api.Ear{S: api.Synth{Seed: 1}}
	var all []api.Pcm
	for _, b := range l {
		next, p, _ := soundOf(e, b)
		e, all = next, append(all, p)
	}
	return e, all
}

// opened is what Open is to make.
func opened(epoch, from, depth int) api.Ear {
	return api.Ear{Epoch: epoch, From: from, J: api.Jitter{Depth: depth}, S: api.Synth{Seed: 1}}
}

// wantTick holds Tick against the chapter's words, and against what was handed in; it answers the ear behind, what came, its samples, and how they were heard.
func wantTick(t *testing.T, what any, e api.Ear) (api.Ear, api.Pcm, int, string) {
	t.Helper()
	was := textOf(e)
	want, how := tickOf(e)
	got := told(Tick(e))
	if got.String() != want.String() {
		t.Errorf("%v: Tick of %s: got %v; want %v", what, was, got, want)
	}
	if got.errno == api.OK && Check(got.e) != api.OK && got.e.Miss <= most && got.e.J.Next <= 2*most {
		t.Errorf("%v: Tick of %s: %s may not be", what, was, textOf(got.e))
	}
	if textOf(e) != was {
		t.Errorf("%v: Tick changed %s to %s", what, was, textOf(e))
	}
	return got.e, got.p, got.what, how
}

// wantHow is wantTick, and holds what came, and how it was heard, against what is to.
func wantHow(t *testing.T, what any, e api.Ear, wantWhat int, wantHow string) (api.Ear, api.Pcm) {
	t.Helper()
	got, p, came, how := wantTick(t, what, e)
	if came != wantWhat || how != wantHow {
		t.Errorf("%v: Tick of %s: got %d, %q; want %d, %q", what, textOf(e), came, how, wantWhat, wantHow)
	}
	return got, p
}

// wantTicks holds Ticks against the chapter's words.
func wantTicks(t *testing.T, what any, e api.Ear, many int) (api.Ear, []api.Pcm, api.Errno) {
	t.Helper()
	was := textOf(e)
	wantE, wantL, wantErrno := ticksOf(e, many)
	got, l, errno := Ticks(e, many)
	if textOf(got) != textOf(wantE) || !slices.Equal(l, wantL) || errno != wantErrno {
		t.Errorf("%v: Ticks of %s, %d: got %s, %v, %d; want %s, %v, %d", what, was, many, textOf(got), l, errno, textOf(wantE), wantL, wantErrno)
	}
	if textOf(e) != was {
		t.Errorf("%v: Ticks changed %s to %s", what, was, textOf(e))
	}
	return got, l, errno
}

// wantHear holds Hear against the chapter's words, and whether the packet is taken against what is to be; it answers the ear behind.
func wantHear(t *testing.T, what any, e api.Ear, epoch, from int, p api.Packet, want bool) api.Ear {
	t.Helper()
	got, took := hearBoth(t, what, e, epoch, from, p)
	if took != want {
		t.Errorf("%v: Hear of %s, %d, %d, %v: got %v", what, textOf(e), epoch, from, p, took)
	}
	return got
}

// hearBoth holds Hear against the chapter's words.
func hearBoth(t *testing.T, what any, e api.Ear, epoch, from int, p api.Packet) (api.Ear, bool) {
	t.Helper()
	was, wasB := textOf(e), bytes.Clone(p.B)
	wantE, wantTook, wantErrno := hearOf(e, epoch, from, p)
	got, took, errno := Hear(e, epoch, from, p)
	if textOf(got) != textOf(wantE) || took != wantTook || errno != wantErrno {
		t.Errorf("%v: Hear of %s, %d, %d, %v: got %s, %v, %d; want %s, %v, %d", what, was, epoch, from, p, textOf(got), took, errno, textOf(wantE), wantTook, wantErrno)
	}
	if textOf(e) != was || !bytes.Equal(p.B, wasB) {
		t.Errorf("%v: Hear changed %s, %x to %s, %x", what, was, wasB, textOf(e), p.B)
	}
	return got, took
}

// wantPlain holds Plain against the chapter's words.
func wantPlain(t *testing.T, what any, l ...[]byte) []api.Pcm {
	t.Helper()
	var was [][]byte
	for _, b := range l {
		was = append(was, bytes.Clone(b))
	}
	_, want := plainOf(was)
	got := Plain(l...)
	if !slices.Equal(got, want) {
		t.Errorf("%v: Plain of %x: got %v; want %v", what, was, got, want)
	}
	if !slices.EqualFunc(l, was, bytes.Equal) {
		t.Errorf("%v: Plain changed %x to %x", what, was, l)
	}
	return got
}

// heardAll is e, behind all of the packets of its talk.
func heardAll(t *testing.T, what any, e api.Ear, l ...api.Packet) api.Ear {
	t.Helper()
	for _, p := range l {
		e, _ = hearBoth(t, what, e, e.Epoch, e.From, p)
	}
	return e
}

// packets are the frames that have bytes, numbered from one on.
func packets(from int, frames [][]byte) []api.Packet {
	var l []api.Packet
	for i, b := range frames {
		if len(b) > 0 {
			l = append(l, api.Packet{Seq: from + i, B: bytes.Clone(b)})
		}
	}
	return l
}

// bytesOf are a frame's bytes.
func bytesOf(f api.Frame, prev api.Levels) []byte {
	b, errno := frame.Write(f, prev)
	if errno != api.OK {
		panic("a frame that may not be")
	}
	return b
}

// sent are the frames that are sent of l, from a talk's beginning on.
func sent(l []api.Pcm) [][]byte {
	_, frames, errno := encoder.Run(encoder.Start(), l...)
	if errno != api.OK {
		panic("samples that are not sent")
	}
	return frames
}

// kindsOf is I of an Intra's bytes, i of an Inter's, s of a Sid's, a point of none, and a question mark of any others.
func kindsOf(frames [][]byte) string {
	kinds := ""
	for _, b := range frames {
		k, errno := frame.Kind(b)
		switch {
		case len(b) == 0:
			kinds += "."
		case errno != api.OK:
			kinds += "?"
		default:
			kinds += "Iis"[k : k+1]
		}
	}
	return kinds
}

// voice are levels that are neither quiet nor as loud as may be.
var voice = api.Levels{160, 148, 140, 150, 130, 120}

func intra() []byte { return voiced(api.Intra, voice, api.Levels{}) }

// inter goes on from the levels of intra.
func inter() []byte { return voiced(api.Inter, api.Levels{158, 150, 140, 152, 129, 121}, voice) }

// voiced is a frame of these levels, and of numbers that are about as great.
func voiced(kind int, l, prev api.Levels) []byte {
	var x api.Spec
	for n := range x {
		x[n] = (n%5 - 2) * 100000 / (n + 1)
	}
	q, _, errno := quant.Small(x, l)
	if errno != api.OK {
		panic("levels that may not be")
	}
	return bytesOf(api.Frame{Kind: kind, L: l, Q: q}, prev)
}

func sid() []byte {
	return bytesOf(api.Frame{Kind: api.Sid, L: api.Levels{60, 50, 70, 40, 30, 90}}, api.Levels{})
}

// noFrames are bytes that are no frame, whatever was heard ahead.
func noFrames() [][]byte {
	long := append(intra(), 0)
	return [][]byte{{1}, {0}, {0xff}, {0, 0}, {0xff, 0xff, 0xff}, long, intra()[:3], sid()[:2], bytes.Repeat([]byte{0xaa}, 40), make([]byte, 40), bytes.Repeat([]byte{0xff}, 40)}
}

// dice are numbers that are the same in each run.
type dice uint64

func (d *dice) next() uint64 {
	*d = *d*6364136223846793005 + 1442695040888963407
	x := uint64(*d)
	return x ^ x>>29
}

func (d *dice) between(least, most int) int {
	return least + int((d.next()>>1)%uint64(most-least+1))
}

// of draws one of l.
func of[T any](d *dice, l ...T) T { return l[d.between(0, len(l)-1)] }

// shuffled is l in another order.
func shuffled[T any](d *dice, l []T) []T {
	l = slices.Clone(l)
	for i := range l {
		k := d.between(0, i)
		l[i], l[k] = l[k], l[i]
	}
	return l
}

// count is a number that is 0 to 2^40: at an end, near one, or anywhere.
func (d *dice) count() int {
	switch d.between(0, 3) {
	case 0:
		return d.between(0, 3)
	case 1:
		return most - d.between(0, 3)
	case 2:
		return d.between(0, 300)
	}
	return d.between(0, most)
}

// samples are noise, none of it beyond far.
func (d *dice) samples(far int) (p api.Pcm) {
	for n := range p {
		p[n] = d.between(-far, far)
	}
	return p
}

// talk are n frames' samples: a while loud, a while quiet, a while silence; some follow each other nearly the same.
func (d *dice) talk(n int) []api.Pcm {
	var l []api.Pcm
	for len(l) < n {
		far := of(d, 0, 20, 300, 500, 3000, 30000)
		about, changes := d.samples(far), d.between(0, 2) == 0
		for range d.between(2, 22) {
			if changes {
				about = d.samples(far)
			}
			l = append(l, about)
		}
	}
	return l[:n]
}

// voice are n frames' samples that are loud, many of them nearly as those ahead.
func (d *dice) voice(n int) []api.Pcm {
	var l []api.Pcm
	for range n {
		if len(l) == 0 || d.between(0, 4) == 0 {
			l = append(l, d.samples(of(d, 3000, 9000, 32767)))
			continue
		}
		l = append(l, l[len(l)-1])
	}
	return l
}

func (d *dice) levels() (l api.Levels) {
	about := d.between(0, 255)
	for b := range l {
		l[b] = max(0, min(about+d.between(-24, 24), 255))
	}
	return l
}

// small are numbers that may be for the levels.
func (d *dice) small(l api.Levels) (q [api.Hop]int) {
	a, errno := bands.Share(l, 120)
	if errno != api.OK {
		panic("levels that may not be")
	}
	for n := range q {
		b, _ := bands.Of(n)
		q[n] = d.between(-quant.Most(a[b]), quant.Most(a[b]))
	}
	return q
}

func (d *dice) intra() []byte {
	l := d.levels()
	return bytesOf(api.Frame{Kind: api.Intra, L: l, Q: d.small(l)}, api.Levels{})
}

// inter is one that may be behind the levels prev.
func (d *dice) inter(prev api.Levels) []byte {
	l := prev
	for b := range l {
		l[b] = max(0, min(prev[b]+d.between(-8, 7), 255))
	}
	return bytesOf(api.Frame{Kind: api.Inter, L: l, Q: d.small(l)}, prev)
}

func (d *dice) sid() []byte {
	return bytesOf(api.Frame{Kind: api.Sid, L: d.levels()}, api.Levels{})
}

// noise are 1 to MaxFrame bytes of any kind.
func (d *dice) noise() []byte {
	b := make([]byte, of(d, 1, 2, 3, 40, d.between(1, 40)))
	for i := range b {
		b[i] = byte(d.next() >> 20)
	}
	return b
}

// frame is a frame's bytes, such as may follow the levels prev, or bytes that are none.
func (d *dice) frame(prev api.Levels) []byte {
	switch d.between(0, 6) {
	case 0, 1:
		return d.intra()
	case 2, 3:
		return d.inter(prev)
	case 4:
		return d.sid()
	case 5:
		return of(d, noFrames()...)
	}
	return d.noise()
}

// synth is what one who hears may have: Live, Hush, or neither.
func (d *dice) synth() api.Synth {
	far := 1 << d.between(0, 40)
	s := api.Synth{L: d.levels(), Seed: uint32(d.next() >> 8)}
	for n := range s.T {
		s.T[n] = d.between(-far, far)
	}
	how := d.between(0, 2)
	s.Live, s.Hush = how == 1, how == 2
	return s
}

// jitter is what may wait: of the numbers there some are missed, and of the packets many may be heard behind the levels prev.
func (d *dice) jitter(prev api.Levels) api.Jitter {
	j := api.Jitter{Depth: of(d, 1, 2, 3, 16, d.between(1, 16))}
	from := d.count()
	if d.between(0, 3) > 0 {
		j.On, j.Next, j.Dry = true, from, of(d, 0, 1, 10, 11, d.between(0, 11))
	}
	share := d.between(0, 4)
	for seq := from; seq < from+of(d, 0, 2, 8, 64) && seq <= most; seq++ {
		if d.between(1, 4) <= share {
			j.Q = append(j.Q, api.Packet{Seq: seq, B: d.frame(prev)})
		}
	}
	return j
}

// ear is one that may be.
func (d *dice) ear() api.Ear {
	s := d.synth()
	return api.Ear{Epoch: d.count(), From: d.count(), J: d.jitter(s.L), S: s, On: d.between(0, 3) > 0, Miss: of(d, 0, 0, 1, 14, 15, 16, d.count())}
}

// going is an ear that is On, and so is what waits: the next number is 100.
func going(s api.Synth, miss int, frames ...[]byte) api.Ear {
	return api.Ear{Epoch: 4, From: 1, J: api.Jitter{On: true, Next: 100, Depth: 2, Q: packets(100, frames)}, S: s, On: true, Miss: miss}
}

// waiting is an ear to which nothing was told but those frames.
func waiting(depth int, frames ...[]byte) api.Ear {
	return api.Ear{Epoch: 4, From: 1, J: api.Jitter{Depth: depth, Q: packets(100, frames)}, S: api.Synth{Seed: 1}}
}

// far is a synth whose tail and levels are as great as may be.
func far(hush bool) api.Synth {
	s := api.Synth{L: api.Levels{255, 255, 255, 255, 255, 255}, Live: !hush, Hush: hush, Seed: math.MaxUint32}
	for n := range s.T {
		s.T[n] = most * (n%2*2 - 1)
	}
	return s
}

// ears are those at the ends of what may be, and drawn ones.
func ears() []api.Ear {
	l := []api.Ear{
		opened(0, 0, 1), opened(most, most, 16), opened(0, most, 16), opened(most, 0, 1),
		waiting(2, intra()), waiting(2, intra(), inter()), waiting(16, sid(), inter(), nil, intra()), waiting(1, []byte{1}, intra(), nil, sid()),
		going(far(false), 0), going(far(true), most), going(far(false), most-1, intra()), going(far(true), 3, nil, intra(), sid()),
		{J: api.Jitter{Depth: 1}}, {J: api.Jitter{Depth: 16}, On: true, Miss: most}, {Epoch: most, From: most, J: api.Jitter{On: true, Next: 2 * most, Depth: 3, Dry: 11}, S: far(true), On: true, Miss: most},
		{J: api.Jitter{On: true, Next: most, Depth: 3, Q: packets(most, [][]byte{intra()})}, S: far(false), Miss: 5},
	}
	d := dice(1)
	for range 120 {
		l = append(l, d.ear())
	}
	return l
}

// spoils are what makes an ear one that may not be.
func spoils() map[string]func(e *api.Ear) {
	return map[string]func(e *api.Ear){
		"Epoch of -1":              func(e *api.Ear) { e.Epoch = -1 },
		"Epoch above":              func(e *api.Ear) { e.Epoch = most + 1 },
		"the least Epoch":          func(e *api.Ear) { e.Epoch = math.MinInt },
		"the greatest Epoch":       func(e *api.Ear) { e.Epoch = math.MaxInt },
		"From of -1":               func(e *api.Ear) { e.From = -1 },
		"From above":               func(e *api.Ear) { e.From = most + 1 },
		"the least From":           func(e *api.Ear) { e.From = math.MinInt },
		"the greatest From":        func(e *api.Ear) { e.From = math.MaxInt },
		"Miss of -1":               func(e *api.Ear) { e.Miss = -1 },
		"Miss above":               func(e *api.Ear) { e.Miss = most + 1 },
		"the least Miss":           func(e *api.Ear) { e.Miss = math.MinInt },
		"the greatest Miss":        func(e *api.Ear) { e.Miss = math.MaxInt },
		"Miss above, not On":       func(e *api.Ear) { e.On, e.Miss = false, most+1 },
		"a tail above":             func(e *api.Ear) { e.S.T[0] = most + 1 },
		"a tail below":             func(e *api.Ear) { e.S.T[15] = -most - 1 },
		"a level below":            func(e *api.Ear) { e.S.L[5] = -1 },
		"a level above":            func(e *api.Ear) { e.S.L[0] = 256 },
		"Live and Hush":            func(e *api.Ear) { e.S.Live, e.S.Hush = true, true },
		"Live and Hush, not On":    func(e *api.Ear) { e.S.Live, e.S.Hush, e.On = true, true, false },
		"depth of 0":               func(e *api.Ear) { e.J.Depth = 0 },
		"depth of 17":              func(e *api.Ear) { e.J.Depth = 17 },
		"Next below":               func(e *api.Ear) { e.J.Next = -1 },
		"Next above":               func(e *api.Ear) { e.J = api.Jitter{On: true, Next: 2*most + 1, Depth: 1} },
		"Dry of DryFor":            func(e *api.Ear) { e.J.Dry = 12 },
		"Next, though not On":      func(e *api.Ear) { e.J = api.Jitter{Next: 1, Depth: 1} },
		"a packet's number below":  func(e *api.Ear) { e.J = api.Jitter{Depth: 1, Q: packets(-1, [][]byte{intra()})} },
		"a packet's number above":  func(e *api.Ear) { e.J = api.Jitter{Depth: 1, Q: packets(most+1, [][]byte{intra()})} },
		"a packet without bytes":   func(e *api.Ear) { e.J = api.Jitter{Depth: 1, Q: []api.Packet{{Seq: 3}}} },
		"a packet of 41 bytes":     func(e *api.Ear) { e.J = api.Jitter{Depth: 1, Q: []api.Packet{{Seq: 3, B: make([]byte, 41)}}} },
		"packets of one number":    func(e *api.Ear) { e.J.Q = append(packets(most, [][]byte{sid()}), packets(most, [][]byte{sid()})...) },
		"packets that do not rise": func(e *api.Ear) { e.J.Q = append(packets(9, [][]byte{sid()}), packets(8, [][]byte{sid()})...) },
		"packets too far off": func(e *api.Ear) {
			e.J = api.Jitter{Depth: 1, Q: append(packets(0, [][]byte{sid()}), packets(64, [][]byte{sid()})...)}
		},
		"Epoch and From": func(e *api.Ear) { e.Epoch, e.From = -1, most+1 },
		"all of it": func(e *api.Ear) {
			*e = api.Ear{Epoch: -1, From: -1, J: api.Jitter{Depth: 17}, S: api.Synth{Live: true, Hush: true}, Miss: -1}
		},
		"nothing": func(e *api.Ear) { *e = api.Ear{} },
	}
}

// wrongEars are those that may not be, by what is wrong with them.
func wrongEars() map[string][]api.Ear {
	wrong := map[string][]api.Ear{}
	for i, e := range ears() {
		if i%6 != 0 && i > 16 {
			continue
		}
		for what, spoil := range spoils() {
			spoilt := copyOf(e)
			spoil(&spoilt)
			wrong[what] = append(wrong[what], spoilt)
		}
	}
	return wrong
}

// wrongPackets are such as may not be put.
func wrongPackets() []api.Packet {
	b := intra()
	return []api.Packet{
		{Seq: -1, B: b}, {Seq: -2, B: b}, {Seq: math.MinInt, B: b}, {Seq: most + 1, B: b}, {Seq: math.MaxInt, B: b},
		{Seq: 100}, {Seq: 100, B: []byte{}}, {Seq: 0}, {Seq: most}, {Seq: 100, B: make([]byte, 41)}, {Seq: 101, B: make([]byte, 1000)},
		{Seq: -1}, {Seq: most + 1, B: make([]byte, 41)}, {},
	}
}
