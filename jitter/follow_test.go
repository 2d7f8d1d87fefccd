package jitter

import (
	"bytes"
	"fmt"
	"slices"
	"testing"

	"squelch/api"
)

// P13.4

// pulled is all that came between two beginnings, by number.
type pulled struct {
	last int
	came map[int]bool
}

// wantOnce holds that what comes in this turn came not yet, and that numbers rise; behind an end all begins anew.
func (p *pulled) wantOnce(t *testing.T, what any, j api.Jitter, c int) {
	t.Helper()
	switch c {
	case api.Comes:
		seq := j.Next - 1
		if p.came[seq] || len(p.came) > 0 && seq <= p.last {
			t.Errorf("%v: %d came behind %d, of %v", what, seq, p.last, p.came)
		}
		if p.came == nil {
			p.came = map[int]bool{}
		}
		p.came[seq], p.last = true, seq
	case api.Ended:
		*p = pulled{}
	}
}

// sent are the packets of a talk as they come: of n, some lost, some twice, some late, some far; how many stand between a packet's place and where it comes is told by off.
func (d *dice) sent(from, n, off int) []api.Packet {
	type coming struct {
		at int
		p  api.Packet
	}
	var l []coming
	for i := range n {
		p := d.packet(min(from+i, maxSeq))
		switch d.between(0, 11) {
		case 0: // lost
			continue
		case 1: // twice
			l = append(l, coming{i + d.between(0, off+8), p})
		case 2: // late
			l = append(l, coming{i + d.between(10, 30), p})
			continue
		case 3: // too early
			l = append(l, coming{i - d.between(50, 90), p})
			continue
		}
		l = append(l, coming{i + d.between(0, off), p})
	}
	slices.SortStableFunc(l, func(a, b coming) int { return a.at - b.at })
	var out []api.Packet
	for _, c := range l {
		out = append(out, c.p)
	}
	return out
}

// Scripts of many puts and pulls, each step held against the chapter's words.
func TestScripts(t *testing.T) {
	for part := range 8 {
		t.Run(fmt.Sprint(part), func(t *testing.T) {
			t.Parallel()
			d := dice(40 + part)
			became, came := map[int]int{}, map[int]int{}
			for i := range 30 {
				from := []int{0, d.between(0, 100), d.seq(), maxSeq - d.between(0, 150)}[i%4]
				depth := []int{1, 2, 16, d.between(1, 16)}[d.between(0, 3)]
				d.script(t, depth, d.sent(from, 200, d.between(0, 12)), became, came)
			}
			if became[api.Taken] < 1000 || became[api.Late] < 100 || became[api.Twice] < 50 || became[api.Far] < 100 || len(became) != 4 {
				t.Errorf("there became %v", became)
			}
			if came[api.Waits] < 100 || came[api.Comes] < 500 || came[api.Lost] < 300 || came[api.Ended] < 20 || len(came) != 4 {
				t.Errorf("there came %v", came)
			}
		})
	}
}

// script puts all of l, a few at a time, and pulls between; what became, and came, is counted.
func (d *dice) script(t *testing.T, depth int, l []api.Packet, became, came map[int]int) {
	t.Helper()
	j, e := New(depth)
	if e != api.OK {
		t.Fatalf("got %d", e)
	}
	var once pulled
	for step := 0; len(l) > 0 || step < 20; step++ {
		n := min(d.between(0, 2), len(l))
		if d.between(0, 40) == 0 {
			n = min(d.between(0, 20), len(l))
		}
		next, what := wantPut(t, step, j, l[:n]...)
		j, l = next, l[n:]
		for _, w := range what {
			became[w]++
		}
		turns := 1
		if d.between(0, 60) == 0 {
			turns = d.between(0, 14)
		}
		for range turns {
			next, c, _ := wantPull(t, step, j)
			once.wantOnce(t, step, next, c)
			came[c]++
			j = next
		}
		if got := Gaps(j); !slices.Equal(got, gapsOf(j)) {
			t.Errorf("%d: of %s: got %v", step, textOf(j), got)
		}
	}
}

// A talk of which all comes in order is pulled as it is.
func TestAllInOrder(t *testing.T) {
	for depth := 1; depth <= 16; depth++ {
		j := waiting(depth)
		var came []int
		for seq := 500; seq < 620; seq++ {
			j = wantBecame(t, seq, j, []int{api.Taken}, packet(seq))
			next, c, b := wantPull(t, seq, j)
			want := api.Comes
			if seq < 500+depth-1 {
				want = api.Waits
			}
			if c != want || c == api.Comes && !bytes.Equal(b, packet(seq-depth+1).B) {
				t.Errorf("%d: at %d: got %d, %x", depth, seq, c, b)
			}
			if j = next; c == api.Comes {
				came = append(came, j.Next-1)
			}
		}
		if len(came) != 120-depth+1 || came[0] != 500 {
			t.Errorf("%d: came %v", depth, came)
		}
	}
}

// turnOf is what a turn told.
type turnOf struct {
	c int
	b string
}

// heard is all that many turns tell, and the state behind; ok is false, if one of the packets was Far.
func heard(j api.Jitter, puts [][]api.Packet, turns []int) (l []turnOf, behind api.Jitter, ok bool) {
	for i, p := range puts {
		next, became, e := Put(j, p...)
		if e != api.OK || slices.Contains(became, api.Far) {
			return nil, api.Jitter{}, false
		}
		j = next
		for range turns[i] {
			next, c, b, e := Pull(j)
			if e != api.OK {
				return nil, api.Jitter{}, false
			}
			l, j = append(l, turnOf{c, string(b)}), next
		}
	}
	return l, j, true
}

// In whatever order packets are put between two pulls, what is pulled is the same.
func TestOrders(t *testing.T) {
	for part := range 6 {
		t.Run(fmt.Sprint(part), func(t *testing.T) {
			t.Parallel()
			d := dice(60 + part)
			held, comes := 0, 0
			for i := range 150 {
				j, puts, turns := d.orders()
				want, behind, ok := heard(j, puts, turns)
				if !ok {
					continue
				}
				held++
				for _, x := range want {
					comes += one(x.c == api.Comes)
				}
				for range 8 {
					others := make([][]api.Packet, len(puts))
					for k, p := range puts {
						others[k] = d.shuffled(p)
					}
					if got, b, ok := heard(j, others, turns); !slices.Equal(got, want) || textOf(b) != textOf(behind) || !ok {
						t.Errorf("%d: of %s, %v: got %v, %s; of %v %v, %s", i, textOf(j), others, got, textOf(b), puts, want, textOf(behind))
					}
				}
			}
			if held < 100 || comes < 500 {
				t.Errorf("of 150 there were %d, in which %d came", held, comes)
			}
		})
	}
}

// orders are packets that are put at once, and how often is pulled behind each; those of one number have the same bytes.
func (d *dice) orders() (api.Jitter, [][]api.Packet, []int) {
	j := waiting(d.between(1, 6))
	at := []int{0, d.between(0, 1000), maxSeq - 100}[d.between(0, 2)]
	if d.between(0, 1) == 0 {
		j = going(at, d.between(0, 11))
	}
	var puts [][]api.Packet
	var turns []int
	for range d.between(1, 8) {
		var l []api.Packet
		for range d.between(0, 9) {
			l = append(l, packet(max(0, min(at+d.between(-4, 14), maxSeq))))
		}
		n := d.between(0, 8)
		at += n
		puts, turns = append(puts, l), append(turns, n)
	}
	return j, puts, turns
}

// All orders there are of a few packets, some of them twice, or Late.
func TestAllOrders(t *testing.T) {
	l := packets(12, 15, 9, 10, 10)
	for _, j := range []api.Jitter{waiting(1), waiting(3), waiting(16), going(10, 4), going(8, 11), going(12, 0, 13, 16)} {
		want, behind, ok := heard(j, [][]api.Packet{l}, []int{9})
		if !ok {
			t.Fatalf("of %s: one was Far", textOf(j))
		}
		n := 0
		orders(l, func(other []api.Packet) {
			n++
			if got, b, ok := heard(j, [][]api.Packet{other}, []int{9}); !slices.Equal(got, want) || !Same(b, behind) || !ok {
				t.Errorf("of %s, %v: got %v, %s; want %v, %s", textOf(j), other, got, textOf(b), want, textOf(behind))
			}
		})
		if n != 120 {
			t.Errorf("there were %d orders", n)
		}
	}
}

// orders tells each order of l.
func orders(l []api.Packet, tell func([]api.Packet)) {
	var from func(i int)
	from = func(i int) {
		if i == len(l) {
			tell(slices.Clone(l))
			return
		}
		for k := i; k < len(l); k++ {
			l[i], l[k] = l[k], l[i]
			from(i + 1)
			l[i], l[k] = l[k], l[i]
		}
	}
	from(0)
}

// Where one is Far, the order does tell: what came first is there.
func TestOrdersWithAFarOne(t *testing.T) {
	j := wantBecame(t, "0 first", waiting(1), []int{api.Taken, api.Far}, packets(0, 64)...)
	wantPulled(t, "0 first", j, api.Comes, packet(0).B)
	j = wantBecame(t, "64 first", waiting(1), []int{api.Taken, api.Far}, packets(64, 0)...)
	wantPulled(t, "64 first", j, api.Comes, packet(64).B)
}

// What was asked of other states, or of the same ahead, tells nothing.
func TestNothingIsKept(t *testing.T) {
	d := dice(80)
	for i := range 200 {
		j := d.state()
		l := d.near(j, 6)
		for range 3 {
			wantPut(t, i, j, l...)
			wantPull(t, i, j)
			Put(d.state(), l...)
			Pull(d.state())
			Flush(j)
		}
	}
}
