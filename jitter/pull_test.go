package jitter

import (
	"bytes"
	"fmt"
	"testing"

	"squelch/api"
)

// P13.3

// Not On, it waits as long as there are fewer packets than Depth.
func TestPullWaits(t *testing.T) {
	for depth := 1; depth <= 16; depth++ {
		for _, from := range []int{0, 1, 1000, maxSeq - 60} {
			j := waiting(depth)
			for i := range depth {
				if got := wantPulled(t, depth, j, api.Waits, nil); !Same(got, j) || got.On {
					t.Errorf("of %s: got %s", textOf(j), textOf(got))
				}
				// The later ones come first, so Next is told by the one that was put last.
				j = wantBecame(t, depth, j, []int{api.Taken}, packet(from+3*(depth-1-i)))
			}
			got := wantPulled(t, depth, j, api.Comes, packet(from).B)
			if !got.On || got.Next != from+1 || got.Depth != depth || got.Dry != 0 || len(got.Q) != depth-1 {
				t.Errorf("of %s: got %s", textOf(j), textOf(got))
			}
		}
	}
}

// As many packets as Depth are enough, and so are more; those that were Twice, or Far, don't count.
func TestPullBegins(t *testing.T) {
	j := wantBecame(t, "3", waiting(3), []int{api.Taken, api.Twice, api.Far, api.Taken}, packets(100, 100, 164, 99)...)
	j = wantPulled(t, "2 of 3", j, api.Waits, nil)
	j = wantBecame(t, "3", j, []int{api.Taken, api.Taken}, packets(103, 97)...)
	j = wantPulled(t, "4 of 3", j, api.Comes, packet(97).B)
	j = wantPulled(t, "98", j, api.Lost, nil)
	j = wantPulled(t, "99", j, api.Comes, packet(99).B)
	if !Same(j, api.Jitter{On: true, Next: 100, Depth: 3, Q: packets(100, 103)}) {
		t.Errorf("got %s", textOf(j))
	}
	// On, it goes on with fewer packets than Depth, and with none.
	j = wantPulled(t, "100", j, api.Comes, packet(100).B)
	j = wantPulled(t, "101", j, api.Lost, nil)
	j = wantPulled(t, "102", j, api.Lost, nil)
	j = wantPulled(t, "103", j, api.Comes, packet(103).B)
	if got := wantPulled(t, "104", j, api.Lost, nil); !Same(got, api.Jitter{On: true, Next: 105, Depth: 3, Dry: 1}) {
		t.Errorf("got %s", textOf(got))
	}
}

func TestPullOfAFullOne(t *testing.T) {
	var seqs []int
	for seq := 30; seq < 94; seq++ {
		seqs = append(seqs, seq)
	}
	for _, j := range []api.Jitter{waiting(16, seqs...), waiting(1, seqs...), going(30, 11, seqs...)} {
		for _, seq := range seqs {
			j = wantPulled(t, seq, j, api.Comes, packet(seq).B)
			if j.Next != seq+1 || j.Dry != 0 || len(j.Q) != 93-seq {
				t.Errorf("%d: got %s", seq, textOf(j))
			}
		}
		wantPulled(t, "behind", j, api.Lost, nil)
	}
}

// The DryFor-th in a row that is not there ends it, with whatever waits.
func TestPullEnds(t *testing.T) {
	for _, seqs := range [][]int{nil, {112}, {112, 140}, {163}} {
		for _, depth := range []int{1, 2, 16} {
			j := api.Jitter{On: true, Next: 100, Depth: depth, Q: packets(seqs...)}
			for i := range 11 {
				j = wantPulled(t, i, j, api.Lost, nil)
				if j.Dry != i+1 || j.Next != 101+i || !j.On || len(j.Q) != len(seqs) {
					t.Errorf("%d: got %s", i, textOf(j))
				}
			}
			j = wantPulled(t, "the twelfth", j, api.Ended, nil)
			if fresh, _ := New(depth); !Same(j, fresh) {
				t.Errorf("got %s", textOf(j))
			}
			j = wantPulled(t, "behind", j, api.Waits, nil)
			wantBecame(t, "behind", j, []int{api.Taken, api.Taken}, packets(4, 67)...)
		}
	}
}

func TestPullWhileDry(t *testing.T) {
	for dry := range 12 {
		for _, next := range []int{0, 5, maxSeq - 1, maxSeq} {
			what := fmt.Sprint("Dry ", dry)
			there := going(next, dry, next)
			if got := wantPulled(t, what, there, api.Comes, packet(next).B); got.Dry != 0 || got.Next != next+1 || !got.On {
				t.Errorf("of %s: got %s", textOf(there), textOf(got))
			}
			want := api.Lost
			if dry == 11 {
				want = api.Ended
			}
			for _, j := range []api.Jitter{going(next, dry), going(min(next, maxSeq-1), dry, min(next, maxSeq-1)+1)} {
				got := wantPulled(t, what, j, want, nil)
				if dry < 11 && (got.Dry != dry+1 || got.Next != j.Next+1 || len(got.Q) != len(j.Q)) || dry == 11 && !Same(got, waiting(2)) {
					t.Errorf("of %s: got %s", textOf(j), textOf(got))
				}
			}
		}
	}
}

// One that comes while some are lost begins their count anew; one that stands behind only waits.
func TestPullBetweenLostOnes(t *testing.T) {
	j := wantPulled(t, "0", waiting(1, 0), api.Comes, packet(0).B)
	for seq := 1; seq < 12; seq++ {
		j = wantPulled(t, seq, j, api.Lost, nil)
	}
	j = wantBecame(t, "in time", j, []int{api.Late, api.Taken, api.Taken}, packets(11, 12, 14)...)
	if j.Dry != 11 || j.Next != 12 {
		t.Errorf("got %s", textOf(j))
	}
	j = wantPulled(t, 12, j, api.Comes, packet(12).B)
	j = wantPulled(t, 13, j, api.Lost, nil)
	j = wantPulled(t, 14, j, api.Comes, packet(14).B)
	for seq := 15; seq < 26; seq++ {
		j = wantPulled(t, seq, j, api.Lost, nil)
	}
	j = wantBecame(t, "too late by one", j, []int{api.Taken, api.Late}, packets(27, 25)...)
	j = wantPulled(t, 26, j, api.Ended, nil)
	// What ended begins anew, with numbers that were pulled already.
	j = wantBecame(t, "anew", j, []int{api.Taken}, packet(3))
	wantPulled(t, "anew", j, api.Comes, packet(3).B)
}

// The last number there is, and what is behind it.
func TestPullBehindTheLastNumber(t *testing.T) {
	j := waiting(1, maxSeq)
	j = wantPulled(t, "the last one", j, api.Comes, packet(maxSeq).B)
	for i := range 11 {
		j = wantPulled(t, i, j, api.Lost, nil)
	}
	wantPulled(t, "behind", j, api.Ended, nil)
	// Next is one more than may be then: the turn behind it is wrong, this one is not.
	for dry := range 11 {
		j := wantPulled(t, dry, going(maxNext, dry), api.Lost, nil)
		if j.Next != maxNext+1 || Check(j) != api.ErrArg {
			t.Errorf("got %s", textOf(j))
		}
		wantWrongPull(t, dry, j)
	}
	wantPulled(t, "the last one there is", going(maxNext, 11), api.Ended, nil)
}

func TestPullOfStates(t *testing.T) {
	d := dice(30)
	of := map[int]int{}
	for i, j := range states() {
		_, what, _ := wantPull(t, i, j)
		of[what]++
	}
	for i := range 3000 {
		j := d.state()
		for range d.between(1, 5) {
			next, what, _ := wantPull(t, i, j)
			of[what]++
			j = next
		}
	}
	if of[api.Waits] < 1000 || of[api.Comes] < 1000 || of[api.Lost] < 500 || of[api.Ended] < 100 || len(of) != 4 {
		t.Errorf("there were %v", of)
	}
}

// wantWrongPull holds that Pull tells ErrArg, and nothing else.
func wantWrongPull(t *testing.T, what any, j api.Jitter) {
	t.Helper()
	if got, c, b, e := Pull(j); textOf(got) != textOf(api.Jitter{}) || c != 0 || len(b) != 0 || e != api.ErrArg {
		t.Errorf("%v: Pull of %s: got %s, %d, %x, %d", what, textOf(j), textOf(got), c, b, e)
	}
}

func TestPullOfWrongStates(t *testing.T) {
	for what, l := range wrongStates() {
		for _, j := range l {
			wantPull(t, what, j)
			wantWrongPull(t, what, j)
		}
	}
}

// R2: neither the state nor the bytes that are answered are those that were handed in, nor each other's.
func TestPullSharesNothing(t *testing.T) {
	d := dice(31)
	for i := range 600 {
		j := d.state()
		given := copyOf(j)
		got, _, b, _ := Pull(given)
		want, _, wantB, _ := pullOf(j)
		spoil(given.Q)
		if textOf(got) != textOf(want) || !bytes.Equal(b, wantB) {
			t.Fatalf("%d: what was answered changes with what was handed in: %s, %x", i, textOf(got), b)
		}
		given = copyOf(j)
		got, _, b, _ = Pull(given)
		for k := range b {
			b[k] ^= 255
		}
		_ = append(b, 255)
		if textOf(got) != textOf(want) || textOf(given) != textOf(j) {
			t.Fatalf("%d: states change with the bytes that were answered: %s, %s", i, textOf(got), textOf(given))
		}
		spoil(got.Q)
		if textOf(given) != textOf(j) {
			t.Fatalf("%d: what was handed in changes with what was answered: %s", i, textOf(given))
		}
	}
}
