package jitter

import (
	"fmt"
	"math"
	"slices"
	"testing"

	"squelch/api"
)

// P13.1

func TestNew(t *testing.T) {
	for depth := 1; depth <= 16; depth++ {
		j, e := New(depth)
		if textOf(j) != fmt.Sprintf("on false, next 0, depth %d, dry 0:", depth) || e != api.OK || Check(j) != api.OK {
			t.Errorf("%d: got %s, %d", depth, textOf(j), e)
		}
	}
	for _, depth := range []int{0, -1, -16, 17, 18, 32, 257, 65537, 1<<32 + 1, math.MinInt, math.MaxInt} {
		if j, e := New(depth); textOf(j) != textOf(api.Jitter{}) || e != api.ErrArg {
			t.Errorf("%d: got %s, %d", depth, textOf(j), e)
		}
	}
}

func TestCheck(t *testing.T) {
	for _, j := range states() {
		was := textOf(j)
		if e := Check(j); e != api.OK || !mayOf(j) || textOf(j) != was {
			t.Errorf("%s: got %d", was, e)
		}
	}
	for what, l := range wrongStates() {
		for _, j := range l {
			if e := Check(j); e != api.ErrArg || mayOf(j) {
				t.Errorf("%s: %s: got %d", what, textOf(j), e)
			}
		}
	}
}

func wantCheck(t *testing.T, j api.Jitter, may bool) {
	t.Helper()
	want := api.ErrArg
	if may {
		want = api.OK
	}
	if e := Check(j); e != want || mayOf(j) != may {
		t.Errorf("%s: got %d; want %d", textOf(j), e, want)
	}
}

// Each number of a state about the bounds of what may be.
func TestCheckNumbers(t *testing.T) {
	for depth, may := range map[int]bool{-1: false, 0: false, 1: true, 2: true, 15: true, 16: true, 17: false, 18: false} {
		wantCheck(t, api.Jitter{Depth: depth}, may)
		wantCheck(t, api.Jitter{On: true, Depth: depth, Next: 7, Dry: 3, Q: packets(8)}, may)
	}
	for next, may := range map[int]bool{-2: false, -1: false, 0: true, 1: true, maxSeq: true, maxSeq + 1: true, maxNext - 1: true, maxNext: true, maxNext + 1: false, maxNext + 2: false, math.MaxInt: false} {
		for _, dry := range []int{0, 11} {
			wantCheck(t, going(next, dry), may)
			wantCheck(t, api.Jitter{Depth: 2, Next: next, Dry: dry}, next == 0 && dry == 0)
		}
	}
	for dry, may := range map[int]bool{-12: false, -1: false, 0: true, 1: true, 10: true, 11: true, 12: false, 13: false} {
		wantCheck(t, going(0, dry), may)
		wantCheck(t, going(20, dry, 20, 22), may)
		wantCheck(t, api.Jitter{Depth: 2, Dry: dry}, dry == 0)
	}
}

func TestCheckPackets(t *testing.T) {
	for n, may := range map[int]bool{0: false, 1: true, 2: true, 39: true, 40: true, 41: false, 100: false} {
		p := api.Packet{Seq: 5, B: make([]byte, n)}
		for _, l := range [][]api.Packet{{p}, {p, packet(6)}, {packet(4), p}, {packet(4), p, packet(6)}} {
			wantCheck(t, api.Jitter{Depth: 1, Q: l}, may)
			wantCheck(t, api.Jitter{On: true, Depth: 1, Q: l}, may)
		}
	}
	for seq, may := range map[int]bool{-1: false, 0: true, 1: true, maxSeq - 1: true, maxSeq: true, maxSeq + 1: false} {
		wantCheck(t, waiting(3, seq), may)
		wantCheck(t, going(max(0, seq-3), 2, seq), may)
	}
	// Of three, two that are the same, or change places.
	for a := 10; a < 13; a++ {
		for b := 10; b < 13; b++ {
			for c := 10; c < 13; c++ {
				wantCheck(t, waiting(3, a, b, c), a < b && b < c)
				wantCheck(t, going(10, 0, a, b, c), a < b && b < c)
			}
		}
	}
}

// How far packets may stand from Next, and from each other.
func TestCheckWindow(t *testing.T) {
	for _, next := range []int{0, 1, 63, 64, 1000, maxSeq - 64, maxSeq - 63, maxSeq - 1, maxSeq, maxSeq + 1} {
		for _, off := range []int{-64, -2, -1, 0, 1, 2, 62, 63, 64, 65, 127, 128} {
			seq := next + off
			there := seq >= 0 && seq <= maxSeq
			wantCheck(t, going(next, 0, seq), there && off >= 0 && off < 64)
			if off > 1 && next+1 <= maxSeq {
				wantCheck(t, going(next, 0, next, next+1, seq), there && off < 64)
				wantCheck(t, waiting(2, next, next+1, seq), there && off < 64)
				wantCheck(t, waiting(2, next+1, seq), there && off < 65)
			}
			wantCheck(t, waiting(2, seq), there)
		}
	}
}

func TestSame(t *testing.T) {
	l := states()
	for i, a := range l {
		if !Same(a, a) || !Same(a, copyOf(a)) || !Same(copyOf(a), a) {
			t.Errorf("%s is not the same as itself", textOf(a))
		}
		for k, b := range l {
			if same := Same(a, b); same != (textOf(a) == textOf(b)) {
				t.Errorf("%d, %d: %s, %s: got %v", i, k, textOf(a), textOf(b), same)
			}
		}
	}
}

func TestSameOfNoPackets(t *testing.T) {
	for _, j := range []api.Jitter{waiting(3), going(4, 5)} {
		empty := j
		empty.Q = []api.Packet{}
		if !Same(j, empty) || !Same(empty, j) || !Same(empty, empty) {
			t.Errorf("%s: none is not the same as none", textOf(j))
		}
	}
}

// Two that differ in one field each, and may be both.
func TestSameOfOthers(t *testing.T) {
	j := api.Jitter{On: true, Next: 5, Depth: 2, Dry: 3, Q: packets(6, 8, 9)}
	for what, change := range map[string]func(j *api.Jitter){
		"Next":                    func(j *api.Jitter) { j.Next = 4 },
		"Depth":                   func(j *api.Jitter) { j.Depth = 3 },
		"Dry":                     func(j *api.Jitter) { j.Dry = 2 },
		"Next and Dry":            func(j *api.Jitter) { j.Next, j.Dry = 3, 5 },
		"no packets":              func(j *api.Jitter) { j.Q = nil },
		"the first one less":      func(j *api.Jitter) { j.Q = j.Q[1:] },
		"the last one less":       func(j *api.Jitter) { j.Q = j.Q[:2] },
		"one more":                func(j *api.Jitter) { j.Q = append(j.Q, packet(10)) },
		"the first one's number":  func(j *api.Jitter) { j.Q[0].Seq = 5 },
		"the second one's number": func(j *api.Jitter) { j.Q[1].Seq = 7 },
		"the last one's number":   func(j *api.Jitter) { j.Q[2].Seq = 10 },
		"the first byte":          func(j *api.Jitter) { j.Q[0].B[0]++ },
		"the last byte":           func(j *api.Jitter) { j.Q[2].B[5]++ },
		"a byte less":             func(j *api.Jitter) { j.Q[1].B = j.Q[1].B[:5] },
		"a byte more":             func(j *api.Jitter) { j.Q[1].B = append(j.Q[1].B, 0) },
	} {
		other := copyOf(j)
		change(&other)
		if Check(other) != api.OK || Same(j, other) || Same(other, j) || !Same(other, other) {
			t.Errorf("%s: %s, %s: got %v, %v", what, textOf(j), textOf(other), Same(j, other), Same(other, j))
		}
	}
	on, off := api.Jitter{On: true, Depth: 2, Q: packets(6)}, api.Jitter{Depth: 2, Q: packets(6)}
	if Same(on, off) || Same(off, on) || !Same(on, on) || !Same(off, off) {
		t.Errorf("On and not On are the same")
	}
}

func TestSameOfWrongStates(t *testing.T) {
	good := states()
	for what, l := range wrongStates() {
		for i, j := range l {
			for _, other := range []api.Jitter{j, copyOf(j), l[(i+1)%len(l)], good[i%len(good)], {}} {
				if Same(j, other) || Same(other, j) {
					t.Errorf("%s: %s, %s: are the same", what, textOf(j), textOf(other))
				}
			}
		}
	}
}

func TestFlush(t *testing.T) {
	for i, j := range states() {
		was := textOf(j)
		got := Flush(j)
		want, _ := New(j.Depth)
		if textOf(got) != textOf(want) || got.Depth != j.Depth || textOf(j) != was {
			t.Errorf("%d: of %s: got %s", i, was, textOf(got))
		}
		if again := Flush(got); textOf(again) != textOf(want) {
			t.Errorf("%d: of %s: again %s", i, was, textOf(again))
		}
	}
	for what, l := range wrongStates() {
		for _, j := range l {
			if got := Flush(j); textOf(got) != textOf(api.Jitter{}) {
				t.Errorf("%s: of %s: got %s", what, textOf(j), textOf(got))
			}
		}
	}
}

func wantGaps(t *testing.T, j api.Jitter, want ...int) {
	t.Helper()
	was := textOf(j)
	if got := Gaps(j); !slices.Equal(got, want) || !slices.Equal(gapsOf(j), want) || textOf(j) != was {
		t.Errorf("of %s: got %v; want %v", was, got, want)
	}
}

func TestGaps(t *testing.T) {
	wantGaps(t, waiting(2))
	wantGaps(t, waiting(2, 0))
	wantGaps(t, waiting(2, 5))
	wantGaps(t, waiting(2, maxSeq))
	wantGaps(t, waiting(2, 5, 6, 7))
	wantGaps(t, waiting(2, 5, 7), 6)
	wantGaps(t, waiting(2, 0, 3, 4, 7), 1, 2, 5, 6)
	wantGaps(t, waiting(1, maxSeq-3, maxSeq), maxSeq-2, maxSeq-1)
	wantGaps(t, going(0, 0))
	wantGaps(t, going(5, 3))
	wantGaps(t, going(maxNext, 3))
	wantGaps(t, going(0, 0, 0))
	wantGaps(t, going(5, 0, 5))
	wantGaps(t, going(5, 0, 5, 6))
	wantGaps(t, going(5, 0, 6), 5)
	wantGaps(t, going(5, 0, 8), 5, 6, 7)
	wantGaps(t, going(5, 2, 7, 9), 5, 6, 8)
	wantGaps(t, going(5, 2, 5, 7, 8, 10), 6, 9)
	wantGaps(t, going(maxSeq-1, 2, maxSeq), maxSeq-1)
	var all []int
	for seq := 100; seq < 163; seq++ {
		all = append(all, seq)
	}
	wantGaps(t, going(100, 0, 163), all...)
	wantGaps(t, waiting(1, 99, 162), all[:62]...)
	for _, j := range states() {
		wantGaps(t, j, gapsOf(j)...)
	}
	for what, l := range wrongStates() {
		for _, j := range l {
			// A program that counted on here, in a state that stands far apart, would not come to an end.
			if !isWide(j) {
				if got := Gaps(j); len(got) != 0 {
					t.Errorf("%s: of %s: got %v", what, textOf(j), got)
				}
			}
		}
	}
}

// isWide tells whether numbers of a state stand far apart.
func isWide(j api.Jitter) bool {
	for _, p := range j.Q {
		if j.Next < -1000 || p.Seq < -1000 || p.Seq-j.Next > 1000 || p.Seq-j.Q[0].Seq > 1000 {
			return true
		}
	}
	return false
}
