package jitter

import (
	"bytes"
	"fmt"
	"slices"
	"testing"

	"squelch/api"
)

// P13.2

// The chapter's example, and behind it the document's: one that comes behind its turn.
func TestExample(t *testing.T) {
	j, e := New(2)
	if e != api.OK {
		t.Fatalf("got %d", e)
	}
	j = wantBecame(t, "5", j, []int{api.Taken}, packet(5))
	j = wantPulled(t, "5", j, api.Waits, nil)
	j = wantBecame(t, "4", j, []int{api.Taken}, packet(4))
	j = wantPulled(t, "4", j, api.Comes, packet(4).B)
	j = wantPulled(t, "5", j, api.Comes, packet(5).B)
	j = wantPulled(t, "6", j, api.Lost, nil)
	j = wantBecame(t, "behind its turn", j, []int{api.Late, api.Taken}, packet(6), packet(7))
	wantPulled(t, "7", j, api.Comes, packet(7).B)
}

func TestPutOfNothing(t *testing.T) {
	for i, j := range states() {
		got := wantBecame(t, i, j, nil)
		if !Same(got, j) {
			t.Errorf("of %s: got %s", textOf(j), textOf(got))
		}
		if got, became, e := Put(j, []api.Packet{}...); !Same(got, j) || len(became) != 0 || e != api.OK {
			t.Errorf("of %s: got %s, %v, %d", textOf(j), textOf(got), became, e)
		}
	}
}

// The numbers at both ends, and the fewest bytes, and the most.
func TestPutAtTheBounds(t *testing.T) {
	for _, seq := range []int{0, 1, maxSeq - 1, maxSeq} {
		for _, n := range []int{1, 2, 39, 40} {
			p := api.Packet{Seq: seq, B: bytes.Repeat([]byte{9}, n)}
			what := fmt.Sprint(seq, " of ", n, " bytes")
			for _, depth := range []int{1, 16} {
				j := wantBecame(t, what, waiting(depth), []int{api.Taken}, p)
				if len(j.Q) != 1 || j.Q[0].Seq != seq || len(j.Q[0].B) != n {
					t.Errorf("%s: got %s", what, textOf(j))
				}
			}
			wantBecame(t, what, going(max(0, seq-5), 3), []int{api.Taken}, p)
		}
	}
	wantBecame(t, "both ends", waiting(1, 0), []int{api.Far}, packet(maxSeq))
	wantBecame(t, "both ends", waiting(1, maxSeq), []int{api.Far}, packet(0))
	wantBecame(t, "above MaxSeq", going(maxSeq+1, 3), []int{api.Late, api.Late}, packet(maxSeq), packet(0))
	wantBecame(t, "far above MaxSeq", going(maxNext, 3), []int{api.Late, api.Late}, packet(maxSeq), packet(0))
}

// What is ahead of Next is Late, what is not below Next and Window Far.
func TestPutAroundNext(t *testing.T) {
	for _, next := range []int{0, 1, 64, 500, maxSeq - 64, maxSeq - 63, maxSeq} {
		for _, seqs := range [][]int{nil, {next + 2}, {next + 1, next + 62}} {
			j := going(next, 2)
			for _, seq := range seqs {
				if seq <= maxSeq {
					j.Q = append(j.Q, packet(seq))
				}
			}
			for off, want := range map[int]int{-65: api.Late, -64: api.Late, -2: api.Late, -1: api.Late, 0: api.Taken, 10: api.Taken, 63: api.Taken, 64: api.Far, 65: api.Far, 128: api.Far, 1000: api.Far} {
				if seq := next + off; seq >= 0 && seq <= maxSeq {
					wantBecame(t, fmt.Sprint(next, " and ", off), j, []int{want}, packet(seq))
				}
			}
			for _, seq := range []int{0, maxSeq} {
				wantPut(t, next, j, packet(seq))
			}
		}
	}
}

// Not On, what counts is how far the first and the last one stand apart then.
func TestPutAroundTheFirstOne(t *testing.T) {
	for _, from := range []int{64, 65, 500, maxSeq - 100} {
		for off, want := range map[int]int{1: api.Taken, 62: api.Taken, 63: api.Taken, 64: api.Far, 65: api.Far, 100: api.Far} {
			wantBecame(t, fmt.Sprint("behind, by ", off), waiting(1, from), []int{want}, packet(from+off))
			wantBecame(t, fmt.Sprint("behind another one, by ", off), waiting(16, from, from+20), []int{[]int{want, api.Twice}[one(off == 20)]}, packet(from+off))
			if off <= 64 {
				wantBecame(t, fmt.Sprint("ahead, by ", off), waiting(1, from), []int{want}, packet(from-off))
			}
			if off > 1 && off <= 64 {
				wantBecame(t, fmt.Sprint("ahead of one that has another one behind, by ", off), waiting(16, from-off+1, from), []int{want}, packet(from-off))
			}
		}
		wantBecame(t, "ahead of all", waiting(2, from, from+30), []int{api.Taken}, packet(from-33))
		wantBecame(t, "ahead of all, too far from the last one", waiting(2, from, from+30), []int{api.Far}, packet(from-34))
		wantBecame(t, "behind all", waiting(2, from, from+30), []int{api.Taken}, packet(from+63))
		wantBecame(t, "behind all, too far from the first one", waiting(2, from, from+30), []int{api.Far}, packet(from+64))
		wantBecame(t, "between", waiting(2, from, from+63), []int{api.Taken, api.Taken, api.Taken}, packets(from+1, from+62, from+30)...)
		wantBecame(t, "at both ends", waiting(2, from, from+63), []int{api.Twice, api.Twice, api.Far, api.Far}, packets(from, from+63, from-1, from+64)...)
		// The window is laid by what was taken ahead: what was Far lays none.
		wantBecame(t, "in order", waiting(2), []int{api.Taken, api.Far, api.Taken, api.Far, api.Taken, api.Far}, packets(from, from+64, from+40, from-24, from-23, from+41)...)
	}
}

func one(yes bool) int {
	if yes {
		return 1
	}
	return 0
}

// What is there stays there, whatever bytes come under its number.
func TestPutTwice(t *testing.T) {
	other := func(seq int) api.Packet { return api.Packet{Seq: seq, B: []byte{1, 2, 3}} }
	for i, j := range states() {
		for _, p := range j.Q {
			if got := wantBecame(t, i, j, []int{api.Twice, api.Twice}, other(p.Seq), p); !Same(got, j) {
				t.Errorf("of %s: got %s", textOf(j), textOf(got))
			}
		}
	}
	j := wantBecame(t, "in one Put", waiting(1), []int{api.Taken, api.Twice, api.Taken, api.Twice, api.Twice}, packet(7), other(7), packet(6), packet(6), packet(7))
	if !Same(j, waiting(1, 6, 7)) {
		t.Errorf("got %s", textOf(j))
	}
	// What was Late, or Far, isn't there.
	wantBecame(t, "Late twice", going(5, 0), []int{api.Late, api.Late}, packet(4), packet(4))
	wantBecame(t, "Far twice", going(5, 0), []int{api.Far, api.Far}, packet(69), packet(69))
	wantBecame(t, "Far twice, not On", waiting(5, 1), []int{api.Far, api.Far}, packet(65), packet(65))
	// Taken again behind its turn: it was there once, and is Late now.
	on := wantPulled(t, "7", j, api.Comes, packet(6).B)
	wantBecame(t, "behind its turn", on, []int{api.Late, api.Twice}, packet(6), packet(7))
}

// A packet is at its place: at each one there is.
func TestPutAtEachPlace(t *testing.T) {
	for at := 0; at <= 63; at++ {
		var seqs []int
		for seq := 200; seq < 264; seq++ {
			if seq != 200+at {
				seqs = append(seqs, seq)
			}
		}
		for _, j := range []api.Jitter{waiting(2, seqs...), going(200, 4, seqs...)} {
			got := wantBecame(t, at, j, []int{api.Taken}, packet(200+at))
			if len(got.Q) != 64 || got.Q[at].Seq != 200+at || got.Dry != j.Dry || got.Next != j.Next || got.On != j.On {
				t.Errorf("at %d: got %s", at, textOf(got))
			}
		}
	}
}

// Put of several at once is Put one by one, wherever it is cut.
func TestPutOfSeveral(t *testing.T) {
	t.Parallel()
	d := dice(20)
	of := map[int]int{}
	for i := range 600 {
		j := d.state()
		l := d.near(j, d.between(1, 30))
		all, became := wantPut(t, i, j, l...)
		step := copyOf(j)
		var steps []int
		for _, p := range l {
			next, one := wantPut(t, i, step, p)
			step, steps = next, append(steps, one...)
		}
		if !Same(all, step) || !slices.Equal(became, steps) {
			t.Errorf("%d: of %s, %v: got %s, %v; one by one %s, %v", i, textOf(j), l, textOf(all), became, textOf(step), steps)
		}
		cut := d.between(0, len(l))
		first, ahead := wantPut(t, i, j, l[:cut]...)
		second, behind := wantPut(t, i, first, l[cut:]...)
		if !Same(all, second) || !slices.Equal(became, slices.Concat(ahead, behind)) {
			t.Errorf("%d: of %s, %v: got %s, %v; cut at %d %s, %v, %v", i, textOf(j), l, textOf(all), became, cut, textOf(second), ahead, behind)
		}
		for _, what := range became {
			of[what]++
		}
	}
	if of[api.Taken] < 1500 || of[api.Late] < 300 || of[api.Twice] < 1500 || of[api.Far] < 800 || len(of) != 4 {
		t.Errorf("there were %v", of)
	}
}

// near are n packets, most of them about where those of j are.
func (d *dice) near(j api.Jitter, n int) []api.Packet {
	from := d.seq()
	if j.On {
		from = j.Next
	} else if len(j.Q) > 0 {
		from = j.Q[d.between(0, len(j.Q)-1)].Seq
	}
	var l []api.Packet
	for range n {
		seq := from + d.between(-20, 80)
		if d.between(0, 20) == 0 {
			seq = d.seq()
		}
		l = append(l, d.packet(max(0, min(seq, maxSeq))))
	}
	return l
}

// wantWrongPut holds that Put tells ErrArg, and nothing else.
func wantWrongPut(t *testing.T, what any, j api.Jitter, l ...api.Packet) {
	t.Helper()
	if got, became := wantPut(t, what, j, l...); textOf(got) != textOf(api.Jitter{}) || len(became) != 0 {
		t.Errorf("%v: Put of %s, %v: got %s, %v", what, textOf(j), l, textOf(got), became)
	}
	if _, _, e := Put(j, l...); e != api.ErrArg {
		t.Errorf("%v: Put of %s, %v: got %d", what, textOf(j), l, e)
	}
}

func TestPutOfWrongStates(t *testing.T) {
	for what, l := range wrongStates() {
		for _, j := range l {
			wantWrongPut(t, what, j)
			wantWrongPut(t, what, j, packet(5))
			wantWrongPut(t, what, j, packet(6), packet(7), packet(5))
			wantWrongPut(t, what, j, packet(-1))
			wantWrongPut(t, what, j, packet(6), api.Packet{Seq: 7})
		}
	}
}

// An error is told wherever it is, whatever would become of the others, and of it.
func TestPutOfWrongPackets(t *testing.T) {
	good := goodPackets()
	for i, p := range wrongPackets() {
		for k, j := range states() {
			if k%3 != i%3 && k > 25 {
				continue
			}
			wantWrongPut(t, "alone", j, p)
			wantWrongPut(t, "first", j, slices.Concat([]api.Packet{p}, good)...)
			wantWrongPut(t, "last", j, slices.Concat(good, []api.Packet{p})...)
			wantWrongPut(t, "between", j, good[0], p, good[1])
			wantWrongPut(t, "two of them", j, p, good[2], p)
			wantWrongPut(t, "another one", j, wrongPackets()[(i+5)%16], p)
		}
	}
	for i, j := range states() {
		if _, became := wantPut(t, i, j, good...); len(became) != len(good) {
			t.Errorf("of %s: got %v", textOf(j), became)
		}
	}
}

// R2: what is handed in may be written into behind the call, and so may what is answered.
func TestPutSharesNothing(t *testing.T) {
	d := dice(21)
	for i := range 300 {
		j := d.state()
		l := d.near(j, 12)
		givenJ, givenL := copyOf(j), copiesOf(l)
		givenJ.Q, givenL = slices.Grow(givenJ.Q, 20), slices.Grow(givenL, 20)
		got, became, _ := Put(givenJ, givenL...)
		want, wantL, _ := putOf(j, l)
		spoil(givenJ.Q)
		spoil(givenL)
		if textOf(got) != textOf(want) || !slices.Equal(became, wantL) {
			t.Fatalf("%d: what was answered changes with what was handed in: %s", i, textOf(got))
		}
		givenJ = copyOf(j)
		got, _, _ = Put(givenJ)
		spoil(got.Q)
		if textOf(givenJ) != textOf(j) {
			t.Fatalf("%d: what was handed in changes with what was answered: %s", i, textOf(givenJ))
		}
	}
}

// Each packet's bytes are the state's own, also where the same bytes are put under two numbers.
func TestPutOfTheSameBytes(t *testing.T) {
	b := []byte{1, 2, 3, 4}
	j, _, _ := Put(waiting(1), api.Packet{Seq: 1, B: b}, api.Packet{Seq: 2, B: b}, api.Packet{Seq: 3, B: b[:2]})
	j.Q[0].B[0] = 9
	_ = append(j.Q[2].B, 8)
	if got := textOf(j); got != "on false, next 0, depth 1, dry 0: 1=09020304 2=01020304 3=0102" || !bytes.Equal(b, []byte{1, 2, 3, 4}) {
		t.Errorf("got %s, %x", got, b)
	}
}

// spoil writes into all that l has, and behind it.
func spoil(l []api.Packet) {
	for i, p := range l {
		for k := range p.B {
			p.B[k] ^= 255
		}
		_ = append(p.B, 255)
		l[i] = api.Packet{Seq: -7, B: []byte{77}}
	}
	_ = append(l, api.Packet{Seq: -8})
}
