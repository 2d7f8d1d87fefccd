package listen

import (
	"fmt"
	"slices"
	"testing"

	"squelch/api"
	"squelch/decoder"
	"squelch/encoder"
)

// P14.5

// A talk whose packets are all put ahead is heard as what is plain of the same frames, with those left out that were not there.
func TestATalkIsHeardAsItIsPlain(t *testing.T) {
	for part := range 4 {
		t.Run(fmt.Sprint(part), func(t *testing.T) {
			t.Parallel()
			d := dice(20 + part)
			missed := 0
			for i := range 24 {
				frames := d.frames(of(&d, 64, 64, d.between(1, 20)))
				if d.between(0, 3) > 0 {
					frames = withGaps(&d, frames)
				}
				frames = withoutLongGaps(frames)
				missed += count(frames, nil)
				wantAsPlain(t, i, &d, frames)
			}
			if missed < 100 {
				t.Errorf("of all frames %d were missed", missed)
			}
		})
	}
}

// frames are what is sent of n frames' samples.
func (d *dice) frames(n int) [][]byte { return sent(of(d, d.talk, d.voice)(n)) }

// withoutLongGaps begins where frames does, ends where it does, or where so many in a row are not there that all ends.
func withoutLongGaps(frames [][]byte) [][]byte {
	for len(frames) > 0 && len(frames[0]) == 0 {
		frames = frames[1:]
	}
	dry := 0
	for i, b := range frames {
		dry++
		if len(b) > 0 {
			dry = 0
		}
		if dry == api.DryFor {
			return frames[:i]
		}
	}
	return frames
}

// count is how many of frames are b.
func count(frames [][]byte, b []byte) int {
	n := 0
	for _, f := range frames {
		if string(f) == string(b) {
			n++
		}
	}
	return n
}

// wantAsPlain puts all of frames in another order, and some of them twice, and holds what is heard of them against Plain.
func wantAsPlain(t *testing.T, what any, d *dice, frames [][]byte) {
	t.Helper()
	want := wantPlain(t, what, frames...)
	from := of(d, 0, 1, d.between(0, 5000), most-63)
	l := packets(from, frames)
	if len(l) == 0 {
		return
	}
	e := heardAll(t, what, opened(4, 1, d.between(1, min(16, len(l)))), append(shuffled(d, l), shuffled(d, l)...)...)
	plain, _ := plainOf(frames)
	got, samples, errno := wantTicks(t, what, e, len(frames))
	if !slices.Equal(samples, want) || got.S != plain.S || got.On != plain.On || got.Miss != plain.Miss || errno != api.OK {
		t.Errorf("%v: of %s: got %s, %v, %d; plain is %s, %v", what, kindsOf(frames), textOf(got), samples, errno, textOf(plain), want)
	}
}

// A talk of which nothing was lost is heard as one hears it who has all of it, and that as one who talks says.
func TestATalkOfWhichAllIsThere(t *testing.T) {
	d := dice(30)
	for i := range 20 {
		behind, frames, _ := encoder.Run(encoder.Start(), d.voice(64)...)
		e := heardAll(t, i, opened(0, most, 16), packets(0, frames)...)
		_, want, _ := decoder.All(decoder.Start(), frames...)
		got, samples, errno := wantTicks(t, i, e, 64)
		if !slices.Equal(samples, want) || got.S != behind.Local || errno != api.OK {
			t.Errorf("%d: got %s, %v; want %v, %v", i, textOf(got), samples, behind.Local, want)
		}
	}
}

// whose is a packet, and under which epoch it comes, of whom, and at which tick.
type whose struct {
	at, epoch, from int
	p               api.Packet
}

// coming is how frames come: some in order, some out of order, some twice, late, or not at all, some of them spoilt.
func (d *dice) coming(from int, frames [][]byte, off int) []whose {
	var l []whose
	for i, p := range packets(from, frames) {
		x := whose{at: i + d.between(0, off), epoch: 4, from: 1, p: p}
		switch d.between(0, 15) {
		case 0: // lost
			continue
		case 1: // twice
			again := x
			again.at += d.between(0, 8)
			l = append(l, again)
		case 2: // late
			x.at += d.between(10, 30)
		case 3: // spoilt
			p.B[d.between(0, len(p.B)-1)] ^= byte(1 << d.between(0, 7))
		}
		l = append(l, x)
	}
	slices.SortStableFunc(l, func(a, b whose) int { return a.at - b.at })
	return l
}

// Talks whose packets come while they are heard, each step held against the chapter's words, and all of it against what is plain of what was there in time.
func TestScripts(t *testing.T) {
	for part := range 4 {
		t.Run(fmt.Sprint(part), func(t *testing.T) {
			t.Parallel()
			d := dice(40 + part)
			came, heard, took := map[int]int{}, map[string]int{}, map[bool]int{}
			for i := range 14 {
				// One begins anywhere in a talk, so some hear it without its first Intra, or a Sid first.
				frames := slices.Concat(make([][]byte, 20), d.frames(120))[d.between(0, 40):]
				from := []int{0, d.between(0, 5000), most - 400}[i%3]
				d.script(t, d.between(1, 8), d.coming(from, frames, d.between(0, 6)), came, heard, took)
			}
			if came[api.Waits] < 100 || came[api.Comes] < 500 || came[api.Lost] < 100 || came[api.Ended] < 5 {
				t.Errorf("there came %v", came)
			}
			if heard[first] < 5 || heard[goes] < 500 || heard[silent] < 3 || heard[refused] < 1 || heard[unheard] < 5 || heard[rested] < 50 || heard[faded] < 20 {
				t.Errorf("there was heard %v", heard)
			}
			if took[true] < 500 || took[false] < 50 {
				t.Errorf("there were taken %v", took)
			}
		})
	}
}

// script tells an ear all of l, each at its tick, and ticks between; what came, and how it was heard, is counted.
func (d *dice) script(t *testing.T, depth int, l []whose, came map[int]int, heard map[string]int, took map[bool]int) {
	t.Helper()
	e := opened(4, 1, depth)
	var there [][]byte
	var samples []api.Pcm
	for at := 0; len(l) > 0 || at%40 != 0; at++ {
		for len(l) > 0 && l[0].at <= at {
			next, taken := hearBoth(t, at, e, l[0].epoch, l[0].from, l[0].p)
			e, l = next, l[1:]
			took[taken]++
		}
		b := turnBytes(e)
		next, p, what, how := wantTick(t, at, e)
		came[what]++
		heard[how]++
		if what == api.Comes || what == api.Lost {
			there, samples = append(there, b), append(samples, p)
		} else if p != (api.Pcm{}) {
			t.Errorf("%d: %d: got %v", at, what, p)
		}
		if what == api.Ended || len(l) == 0 && at%40 == 39 {
			if want := wantPlain(t, at, there...); !slices.Equal(samples, want) {
				t.Errorf("%d: of %s: heard %v; plain is %v", at, kindsOf(there), samples, want)
			}
		}
		if what == api.Ended {
			there, samples = nil, nil
		}
		e = next
	}
}

// turnBytes are the bytes whose turn is next, if they are there.
func turnBytes(e api.Ear) []byte {
	for i, p := range e.J.Q {
		if e.J.On && p.Seq == e.J.Next || !e.J.On && i == 0 {
			return p.B
		}
	}
	return nil
}

// A talk is heard alone: packets of another epoch, of another one, or both, between its own change nothing.
func TestOtherTalksBetween(t *testing.T) {
	t.Parallel()
	d := dice(60)
	others := 0
	for i := range 12 {
		from := d.between(0, 1000)
		l := d.coming(from, sent(d.talk(120)), d.between(0, 4))
		alone, mixed := opened(4, 1, 3), opened(4, 1, 3)
		var other []api.Packet
		for _, x := range d.coming(from, sent(d.voice(120)), 0) {
			other = append(other, x.p)
		}
		other = append(other, wrongPackets()...)
		for at := range 150 {
			for ; len(l) > 0 && l[0].at <= at; l = l[1:] {
				alone = heardAll(t, i, alone, l[0].p)
				mixed = d.hearOthers(t, mixed, other, &others)
				mixed = heardAll(t, i, mixed, l[0].p)
			}
			mixed = d.hearOthers(t, mixed, other, &others)
			nextA, a, whatA, _ := wantTick(t, i, alone)
			nextM, m, whatM, _ := wantTick(t, i, mixed)
			if a != m || whatA != whatM || textOf(nextA) != textOf(nextM) {
				t.Fatalf("%d: at %d: alone %s, %v, %d; with others %s, %v, %d", i, at, textOf(nextA), a, whatA, textOf(nextM), m, whatM)
			}
			alone, mixed = nextA, nextM
		}
	}
	if others < 1000 {
		t.Errorf("there were %d others", others)
	}
}

// hearOthers tells e a few packets that are not of its talk.
func (d *dice) hearOthers(t *testing.T, e api.Ear, l []api.Packet, n *int) api.Ear {
	t.Helper()
	for range d.between(0, 3) {
		x := of(d, whose{epoch: 3, from: 1}, whose{epoch: 5, from: 1}, whose{epoch: 4, from: 2}, whose{epoch: 4, from: 0}, whose{epoch: 1, from: 4}, whose{epoch: 5, from: 7})
		e = wantHear(t, "another talk", e, x.epoch, x.from, of(d, l...), false)
		*n++
	}
	return e
}

// In whatever order packets come between two ticks, and however often, the ear is the same.
func TestNoOrder(t *testing.T) {
	d := dice(70)
	for i := range 60 {
		frames := withGaps(&d, sent(d.talk(40)))
		l := packets(200, frames)
		e := of(&d, opened(4, 1, d.between(1, 16)), going(d.synth(), d.between(0, 20)), going(d.synth(), 0, intra()))
		if e.J.On {
			l = packets(100, frames)
		}
		want := heardAll(t, i, e, l...)
		wantE, wantL, _ := wantTicks(t, i, want, 60)
		for range 4 {
			got := heardAll(t, i, e, shuffled(&d, append(slices.Clone(l), l...))...)
			gotE, gotL, errno := Ticks(got, 60)
			if textOf(got) != textOf(want) || textOf(gotE) != textOf(wantE) || !slices.Equal(gotL, wantL) || errno != api.OK {
				t.Errorf("%d: got %s, %s; want %s, %s", i, textOf(got), textOf(gotE), textOf(want), textOf(wantE))
			}
		}
	}
}

// One who comes into a talk hears silence up to the first Intra, and from then on what is plain from there.
func TestWhoComesIntoATalk(t *testing.T) {
	d := dice(80)
	silence, long := 0, 0
	for i := range 40 {
		frames := sent(d.voice(60))
		at := d.between(1, 40)
		kinds := kindsOf(frames)
		e := heardAll(t, i, opened(4, 1, 1), packets(at, frames[at:])...)
		_, samples, errno := wantTicks(t, i, e, 60-at)
		if errno != api.OK {
			t.Fatalf("%d: got %d", i, errno)
		}
		begins := at
		for kinds[begins] != 'I' {
			if samples[begins-at] != (api.Pcm{}) {
				t.Errorf("%d: at %d of %s: got %v", i, begins, kinds, samples[begins-at])
			}
			begins++
			silence++
		}
		if want := Plain(frames[begins:]...); !slices.Equal(samples[begins-at:], want) {
			t.Errorf("%d: from %d of %s on: got %v; want %v", i, begins, kinds, samples[begins-at:], want)
		}
		long += len(samples)
	}
	if silence < 20 || long < 500 {
		t.Errorf("there were %d of silence, of %d", silence, long)
	}
}

// The example of the chapter.
func TestTheExample(t *testing.T) {
	e, errno := Open(0, 0, 1)
	if errno != api.OK {
		t.Fatalf("got %d", errno)
	}
	if _, p, what, errno := Tick(e); p != (api.Pcm{}) || what != api.Waits || errno != api.OK {
		t.Errorf("got %v, %d, %d", p, what, errno)
	}
}

// What was asked of other ears, or of the same ahead, tells nothing.
func TestNothingIsKept(t *testing.T) {
	d := dice(90)
	for i := range 100 {
		e, p := d.ear(), packet(d.between(0, 300), d.noise())
		for range 2 {
			wantTick(t, i, e)
			hearBoth(t, i, e, e.Epoch, e.From, p)
			wantTicks(t, i, e, 3)
			other := d.ear()
			Tick(other)
			Hear(other, other.Epoch, other.From, p)
			Plain(p.B, intra(), p.B)
		}
	}
}
