package listen

import (
	"math"
	"testing"

	"squelch/api"
)

// P14.2

func packet(seq int, b []byte) api.Packet { return api.Packet{Seq: seq, B: b} }

// Ahead of the first turn: what comes is taken once, in any order, as long as it is not too far off.
func TestHear(t *testing.T) {
	e := wantHear(t, "the first", opened(4, 1, 2), 4, 1, packet(70, intra()), true)
	e = wantHear(t, "again", e, 4, 1, packet(70, intra()), false)
	e = wantHear(t, "again, with other bytes", e, 4, 1, packet(70, sid()), false)
	e = wantHear(t, "ahead of it", e, 4, 1, packet(7, sid()), true)
	e = wantHear(t, "too far ahead", e, 4, 1, packet(6, sid()), false)
	e = wantHear(t, "too far behind", e, 4, 1, packet(71, sid()), false)
	e = wantHear(t, "between", e, 4, 1, packet(8, inter()), true)
	want := opened(4, 1, 2)
	want.J.Q = []api.Packet{packet(7, sid()), packet(8, inter()), packet(70, intra())}
	if !Same(e, want) {
		t.Errorf("got %s", textOf(e))
	}
}

// From the first turn on there are late ones, too.
func TestHearBehindATurn(t *testing.T) {
	e := heardAll(t, "two", opened(4, 1, 1), packet(100, intra()), packet(102, sid()))
	e, _ = wantHow(t, "100", e, api.Comes, first)
	e = wantHear(t, "late", e, 4, 1, packet(100, intra()), false)
	e = wantHear(t, "far", e, 4, 1, packet(101+64, intra()), false)
	e = wantHear(t, "just not far", e, 4, 1, packet(101+63, intra()), true)
	e = wantHear(t, "far, the greatest", e, 4, 1, packet(most, intra()), false)
	e = wantHear(t, "the least", e, 4, 1, packet(0, intra()), false)
	e = wantHear(t, "twice", e, 4, 1, packet(102, sid()), false)
	e = wantHear(t, "the next one", e, 4, 1, packet(101, sid()), true)
	e, _ = wantHow(t, "101", e, api.Comes, goes)
	e, _ = wantHow(t, "102", e, api.Comes, goes)
	e, _ = wantHow(t, "103", e, api.Lost, rested)
	e = wantHear(t, "late behind a lost one", e, 4, 1, packet(103, intra()), false)
	wantHear(t, "in time", e, 4, 1, packet(104, intra()), true)
}

func TestHearAtTheBounds(t *testing.T) {
	for _, epoch := range []int{0, 1, most} {
		for _, from := range []int{0, 1, most} {
			for _, depth := range []int{1, 16} {
				for _, seq := range []int{0, 1, most - 1, most} {
					for _, b := range [][]byte{{0}, make([]byte, 40), intra()} {
						e := wantHear(t, "an end", opened(epoch, from, depth), epoch, from, packet(seq, b), true)
						wantHear(t, "another epoch", e, epoch^1, from, packet(seq, b), false)
						wantHear(t, "another one", e, epoch, from^1, packet(seq, b), false)
					}
				}
			}
		}
	}
}

// Another epoch, another one, or both: no, and the ear is as it is.
func TestHearOfOtherTalks(t *testing.T) {
	for i, e := range ears() {
		for _, x := range []struct{ epoch, from int }{
			{e.Epoch + 1, e.From}, {e.Epoch - 1, e.From}, {e.Epoch, e.From + 1}, {e.Epoch, e.From - 1}, {e.Epoch + 1, e.From + 1}, {e.From, e.Epoch},
			{-e.Epoch - 1, e.From}, {e.Epoch, -e.From - 1}, {math.MinInt, e.From}, {e.Epoch, math.MaxInt}, {math.MaxInt, math.MinInt}, {-1, -1}, {e.Epoch + 1<<32, e.From}, {e.Epoch, e.From + 1<<32},
		} {
			if x.epoch == e.Epoch && x.from == e.From {
				continue
			}
			for _, p := range append(wrongPackets(), packet(e.J.Next, intra()), packet(e.J.Next+1, sid())) {
				if got := wantHear(t, i, e, x.epoch, x.from, p, false); !Same(got, e) {
					t.Errorf("%d: %s, %d, %d, %v: got %s", i, textOf(e), x.epoch, x.from, p, textOf(got))
				}
			}
		}
	}
}

// What becomes of a packet is not the frame's business: bytes that are no frame are taken, too.
func TestHearOfNoFrame(t *testing.T) {
	e := opened(4, 1, 2)
	for i, b := range noFrames() {
		e = wantHear(t, i, e, 4, 1, packet(50+i, b), true)
	}
}

func TestHearByTheWords(t *testing.T) {
	d := dice(3)
	took := map[bool]int{}
	for i, e := range ears() {
		at := e.J.Next
		if !e.J.On && len(e.J.Q) > 0 {
			at = e.J.Q[0].Seq
		}
		for range 30 {
			p := packet(max(0, min(at+of(&d, d.between(-70, 140), d.between(-2, 12), 63, 64), most)), d.frame(e.S.L))
			_, taken := hearBoth(t, i, e, e.Epoch, e.From, p)
			took[taken]++
		}
	}
	if took[true] < 500 || took[false] < 500 {
		t.Errorf("there were %v", took)
	}
}

func wantWrongHear(t *testing.T, what any, e api.Ear, epoch, from int, p api.Packet) {
	t.Helper()
	if got, took, errno := Hear(e, epoch, from, p); textOf(got) != textOf(api.Ear{}) || took || errno != api.ErrArg {
		t.Errorf("%v: %s, %d, %d, %v: got %s, %v, %d", what, textOf(e), epoch, from, p, textOf(got), took, errno)
	}
}

func TestHearOfWrongPackets(t *testing.T) {
	for i, e := range ears() {
		for _, p := range wrongPackets() {
			wantWrongHear(t, i, e, e.Epoch, e.From, p)
		}
	}
}

// An ear that may not be is wrong, whosever the packet is.
func TestHearOfWrongEars(t *testing.T) {
	for what, l := range wrongEars() {
		for _, e := range l {
			for _, p := range []api.Packet{packet(100, intra()), packet(e.J.Next, sid()), packet(-1, nil), packet(3, make([]byte, 41))} {
				wantWrongHear(t, what, e, e.Epoch, e.From, p)
				wantWrongHear(t, what, e, e.Epoch+1, e.From, p)
				wantWrongHear(t, what, e, e.Epoch, e.From-1, p)
				wantWrongHear(t, what, e, 4, 1, p)
			}
		}
	}
}

// spoilBytes turns each byte of what waits.
func spoilBytes(e api.Ear) {
	for _, p := range e.J.Q {
		for i := range p.B {
			p.B[i] ^= 0xff
		}
	}
	for i := range e.J.Q {
		e.J.Q[i].Seq += 1000
	}
}

// What is told is the caller's own, and so is what was handed in.
func TestHearSharesNothing(t *testing.T) {
	for i, e := range ears() {
		for _, x := range []struct{ epoch, from int }{{e.Epoch, e.From}, {e.Epoch + 1, e.From}, {e.Epoch, e.From + 1}} {
			mine := copyOf(e)
			p := packet(e.J.Next, intra())
			got, _, errno := Hear(mine, x.epoch, x.from, p)
			if errno != api.OK {
				continue
			}
			text := textOf(got)
			spoilBytes(mine)
			spoilBytes(api.Ear{J: api.Jitter{Q: []api.Packet{p}}})
			if textOf(got) != text {
				t.Errorf("%d: what was told became %s; it was %s", i, textOf(got), text)
			}
			mine, p = copyOf(e), packet(e.J.Next, intra())
			got, _, _ = Hear(mine, x.epoch, x.from, p)
			spoilBytes(got)
			if textOf(mine) != textOf(e) || string(p.B) != string(intra()) {
				t.Errorf("%d: what was handed in became %s, %x; it was %s", i, textOf(mine), p.B, textOf(e))
			}
		}
	}
}
