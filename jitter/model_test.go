package jitter

import (
	"bytes"
	"encoding/hex"
	"fmt"
	"maps"
	"math"
	"slices"
	"strconv"
	"testing"

	"squelch/api"
)

// maxSeq is 2^40, maxNext 2^41.
const (
	maxSeq  = 1099511627776
	maxNext = 2199023255552
)

// textOf is all of a state as a text, so that two can be held against each other, their bytes too.
func textOf(j api.Jitter) string {
	s := fmt.Appendf(nil, "on %v, next %d, depth %d, dry %d:", j.On, j.Next, j.Depth, j.Dry)
	for _, p := range j.Q {
		s = strconv.AppendInt(append(s, ' '), int64(p.Seq), 10)
		s = hex.AppendEncode(append(s, '='), p.B)
	}
	return string(s)
}

// mayOf is the chapter's words, with all bounds as numbers.
func mayOf(j api.Jitter) bool {
	if j.Depth < 1 || j.Depth > 16 || j.Next < 0 || j.Next > maxNext || j.Dry < 0 || j.Dry > 11 {
		return false
	}
	for i, p := range j.Q {
		if !packetOf(p) || i > 0 && p.Seq <= j.Q[i-1].Seq {
			return false
		}
		if j.On && (p.Seq < j.Next || p.Seq >= j.Next+64) {
			return false
		}
	}
	if j.On {
		return true
	}
	return j.Next == 0 && j.Dry == 0 && (len(j.Q) == 0 || j.Q[len(j.Q)-1].Seq < j.Q[0].Seq+64)
}

// packetOf tells whether a packet may be put.
func packetOf(p api.Packet) bool {
	return p.Seq >= 0 && p.Seq <= maxSeq && len(p.B) >= 1 && len(p.B) <= 40
}

// copyOf is j, with bytes of its own.
func copyOf(j api.Jitter) api.Jitter {
	j.Q = copiesOf(j.Q)
	return j
}

func copiesOf(l []api.Packet) []api.Packet {
	var q []api.Packet
	for _, p := range l {
		q = append(q, api.Packet{Seq: p.Seq, B: bytes.Clone(p.B)})
	}
	return q
}

// putOf is the chapter's words: what waits is a map, and is put in order at the end alone.
func putOf(j api.Jitter, l []api.Packet) (api.Jitter, []int, api.Errno) {
	if !mayOf(j) {
		return api.Jitter{}, nil, 1
	}
	for _, p := range l {
		if !packetOf(p) {
			return api.Jitter{}, nil, 1
		}
	}
	there := map[int][]byte{}
	for _, p := range j.Q {
		there[p.Seq] = p.B
	}
	var became []int
	for _, p := range l {
		what := becomesOf(j, there, p.Seq)
		if what == 0 {
			there[p.Seq] = p.B
		}
		became = append(became, what)
	}
	j.Q = nil
	for _, seq := range slices.Sorted(maps.Keys(there)) {
		j.Q = append(j.Q, api.Packet{Seq: seq, B: bytes.Clone(there[seq])})
	}
	return j, became, 0
}

// becomesOf is what becomes of a packet of that number.
func becomesOf(j api.Jitter, there map[int][]byte, seq int) int {
	if j.On && seq < j.Next {
		return 1
	}
	if _, twice := there[seq]; twice {
		return 2
	}
	if j.On {
		if seq >= j.Next+64 {
			return 3
		}
		return 0
	}
	for other := range there {
		if seq-other >= 64 || other-seq >= 64 {
			return 3
		}
	}
	return 0
}

// pullOf is the chapter's words.
func pullOf(j api.Jitter) (api.Jitter, int, []byte, api.Errno) {
	if !mayOf(j) {
		return api.Jitter{}, 0, nil, 1
	}
	j = copyOf(j)
	if !j.On {
		if len(j.Q) < j.Depth {
			return j, 0, nil, 0
		}
		j.On = true
		j.Next = j.Q[0].Seq
	}
	if len(j.Q) > 0 && j.Q[0].Seq == j.Next {
		b := j.Q[0].B
		return api.Jitter{On: true, Next: j.Next + 1, Depth: j.Depth, Q: j.Q[1:]}, 1, b, 0
	}
	if j.Dry == 11 {
		return api.Jitter{Depth: j.Depth}, 3, nil, 0
	}
	j.Next++
	j.Dry++
	return j, 2, nil, 0
}

// gapsOf is the chapter's words, number by number.
func gapsOf(j api.Jitter) []int {
	if !mayOf(j) || len(j.Q) == 0 {
		return nil
	}
	from := j.Q[0].Seq
	if j.On {
		from = j.Next
	}
	var gaps []int
	for seq := from; seq < j.Q[len(j.Q)-1].Seq; seq++ {
		if !slices.ContainsFunc(j.Q, func(p api.Packet) bool { return p.Seq == seq }) {
			gaps = append(gaps, seq)
		}
	}
	return gaps
}

// wantPut is Put as one who goes on with what it answers asks it: held against the chapter's words, and against what was handed in.
func wantPut(t *testing.T, what any, j api.Jitter, l ...api.Packet) (api.Jitter, []int) {
	t.Helper()
	was, wasL := textOf(j), textOf(api.Jitter{Q: l})
	wantJ, wantL, wantE := putOf(j, l)
	got, became, e := Put(j, l...)
	if textOf(got) != textOf(wantJ) || !slices.Equal(became, wantL) || e != wantE {
		t.Errorf("%v: Put of %s, %v: got %s, %v, %d; want %s, %v, %d", what, was, l, textOf(got), became, e, textOf(wantJ), wantL, wantE)
	}
	if e == api.OK && Check(got) != api.OK {
		t.Errorf("%v: Put of %s, %v: %s may not be", what, was, l, textOf(got))
	}
	if textOf(j) != was || textOf(api.Jitter{Q: l}) != wasL {
		t.Errorf("%v: Put changed %s, %s to %s, %v", what, was, wasL, textOf(j), l)
	}
	return got, became
}

// wantPull is Pull, held so too.
func wantPull(t *testing.T, what any, j api.Jitter) (api.Jitter, int, []byte) {
	t.Helper()
	was := textOf(j)
	wantJ, wantC, wantB, wantE := pullOf(j)
	got, c, b, e := Pull(j)
	if textOf(got) != textOf(wantJ) || c != wantC || !bytes.Equal(b, wantB) || e != wantE {
		t.Errorf("%v: Pull of %s: got %s, %d, %x, %d; want %s, %d, %x, %d", what, was, textOf(got), c, b, e, textOf(wantJ), wantC, wantB, wantE)
	}
	if e == api.OK && got.Next <= maxNext && Check(got) != api.OK {
		t.Errorf("%v: Pull of %s: %s may not be", what, was, textOf(got))
	}
	if textOf(j) != was {
		t.Errorf("%v: Pull changed %s to %s", what, was, textOf(j))
	}
	return got, c, b
}

// wantBecame is wantPut, and holds what became of all against what is to.
func wantBecame(t *testing.T, what any, j api.Jitter, want []int, l ...api.Packet) api.Jitter {
	t.Helper()
	got, became := wantPut(t, what, j, l...)
	if !slices.Equal(became, want) {
		t.Errorf("%v: Put of %s, %v: got %v; want %v", what, textOf(j), l, became, want)
	}
	return got
}

// wantPulled is wantPull, and holds what comes, and its bytes, against what is to.
func wantPulled(t *testing.T, what any, j api.Jitter, want int, b []byte) api.Jitter {
	t.Helper()
	got, c, gotB := wantPull(t, what, j)
	if c != want || !bytes.Equal(gotB, b) {
		t.Errorf("%v: Pull of %s: got %d, %x; want %d, %x", what, textOf(j), c, gotB, want, b)
	}
	return got
}

// packet has bytes that tell its number.
func packet(seq int) api.Packet {
	return api.Packet{Seq: seq, B: []byte{byte(seq), byte(seq >> 8), byte(seq >> 16), byte(seq >> 24), byte(seq >> 32), byte(seq >> 40)}}
}

func packets(seqs ...int) []api.Packet {
	var l []api.Packet
	for _, seq := range seqs {
		l = append(l, packet(seq))
	}
	return l
}

// waiting is a state that is not On, with packets of these numbers.
func waiting(depth int, seqs ...int) api.Jitter {
	return api.Jitter{Depth: depth, Q: packets(seqs...)}
}

// going is a state that is On.
func going(next, dry int, seqs ...int) api.Jitter {
	return api.Jitter{On: true, Next: next, Depth: 2, Dry: dry, Q: packets(seqs...)}
}

// dice are numbers that are the same in each run.
type dice uint64

func (d *dice) next() uint64 {
	*d = *d*6364136223846793005 + 1442695040888963407
	x := uint64(*d)
	return x ^ x>>29
}

func (d *dice) between(least, most int) int {
	return least + int((d.next()>>1)%uint64(most-least+1))
}

// shuffled is l in another order.
func (d *dice) shuffled(l []api.Packet) []api.Packet {
	l = slices.Clone(l)
	for i := range l {
		k := d.between(0, i)
		l[i], l[k] = l[k], l[i]
	}
	return l
}

// packet has that number, and 1 to MaxFrame bytes.
func (d *dice) packet(seq int) api.Packet {
	n := []int{1, 2, 5, 39, 40, d.between(1, 40)}[d.between(0, 5)]
	p := api.Packet{Seq: seq, B: make([]byte, n)}
	for i := range p.B {
		p.B[i] = byte(d.next() >> 8)
	}
	return p
}

// seq is a number of a packet: at an end, near one, or anywhere.
func (d *dice) seq() int {
	switch d.between(0, 5) {
	case 0:
		return d.between(0, 3)
	case 1:
		return maxSeq - d.between(0, 3)
	case 2:
		return d.between(0, 200)
	case 3:
		return maxSeq - d.between(0, 200)
	}
	return d.between(0, maxSeq)
}

// some are packets of a few of the numbers from one on, less than wide of them, rising; none above MaxSeq.
func (d *dice) some(from, wide int) []api.Packet {
	var l []api.Packet
	share := d.between(0, 4)
	for seq := from; seq < from+wide && seq <= maxSeq; seq++ {
		if d.between(1, 4) <= share {
			l = append(l, d.packet(seq))
		}
	}
	return l
}

// state is one that may be.
func (d *dice) state() api.Jitter {
	j := api.Jitter{Depth: []int{1, 2, 3, 16, d.between(1, 16)}[d.between(0, 4)]}
	from := d.seq()
	wide := []int{0, 1, 2, 64, d.between(0, 64)}[d.between(0, 4)]
	if d.between(0, 1) == 0 {
		j.On, j.Next, j.Dry = true, from, []int{0, 1, 10, 11, d.between(0, 11)}[d.between(0, 4)]
	}
	j.Q = d.some(from, wide)
	return j
}

// states are those at the ends of what may be, and drawn ones.
func states() []api.Jitter {
	long, short := bytes.Repeat([]byte{7}, 40), []byte{0}
	l := []api.Jitter{
		waiting(1), waiting(16), waiting(2, 0), waiting(1, maxSeq), waiting(1, 0, 63), waiting(3, maxSeq-63, maxSeq), waiting(16, 5, 6, 7, 9),
		going(0, 0), going(maxNext, 11), going(maxNext, 0), going(maxSeq+1, 3), going(maxSeq, 11, maxSeq), going(maxSeq, 0),
		going(0, 0, 0), going(0, 0, 63), going(1, 11, 64), going(100, 10, 100, 163), going(100, 1, 101, 103),
		{Depth: 1, Q: []api.Packet{{Seq: 3, B: long}, {Seq: 4, B: short}}},
		{On: true, Depth: 16, Next: 3, Q: []api.Packet{{Seq: 3, B: short}, {Seq: 66, B: long}}},
	}
	var full []int
	for i := range 64 {
		full = append(full, 1000+i)
	}
	l = append(l, waiting(16, full...), going(1000, 0, full...), going(1000, 11, full[1:]...))
	d := dice(1)
	for range 150 {
		l = append(l, d.state())
	}
	return l
}

// wrongStates are those that may not be, by what is wrong with them.
func wrongStates() map[string][]api.Jitter {
	many := bytes.Repeat([]byte{1}, 41)
	long, none := api.Packet{Seq: 5, B: many}, api.Packet{Seq: 5}
	wrong := map[string][]api.Jitter{
		"nothing":                      {{}, {On: true}, {Q: packets(1)}},
		"numbers that do not rise":     {waiting(2, 2, 1), waiting(2, 1, 3, 2), going(0, 0, 2, 1), going(0, 0, 5, 6, 4, 7)},
		"numbers that are twice":       {waiting(2, 1, 1), waiting(2, 0, 1, 1), going(0, 0, 2, 2), going(3, 0, 3, 4, 4), going(3, 0, 3, 3, 4)},
		"a number below 0":             {waiting(1, -1), waiting(1, -1, 0, 3), waiting(1, math.MinInt), going(0, 0, -1), going(0, 0, math.MinInt, 1)},
		"a number above MaxSeq":        {waiting(1, maxSeq+1), waiting(1, maxSeq, maxSeq+1), waiting(1, math.MaxInt), going(maxSeq, 0, maxSeq, maxSeq+1), going(maxSeq+1, 0, maxSeq+1), going(maxNext, 0, maxNext), going(maxNext, 0, math.MaxInt)},
		"bytes":                        {{Depth: 1, Q: []api.Packet{long}}, {Depth: 1, Q: []api.Packet{none}}, {Depth: 1, Q: []api.Packet{{Seq: 5, B: []byte{}}}}, {On: true, Depth: 1, Q: []api.Packet{packet(4), none, packet(6)}}, {On: true, Depth: 1, Q: []api.Packet{packet(3), long}}, {Depth: 1, Q: []api.Packet{long, packet(6)}}},
		"On, a number below Next":      {going(1, 0, 0), going(50, 3, 49, 50), going(maxSeq+1, 0, maxSeq), going(maxNext, 0, 0)},
		"On, one at Next and Window":   {going(0, 0, 64), going(50, 0, 50, 114), going(50, 0, 51, 52, 300), going(1, 0, maxSeq), going(maxSeq-64, 0, maxSeq)},
		"not On, Next":                 {{Depth: 1, Next: 1}, {Depth: 2, Next: 5, Q: packets(5)}, {Depth: 2, Next: maxNext}, {Depth: 2, Next: -1}},
		"not On, Dry":                  {{Depth: 1, Dry: 1}, {Depth: 2, Dry: 11, Q: packets(5)}, {Depth: 2, Dry: -1}},
		"not On, Next and Dry":         {{Depth: 1, Next: 5, Dry: 1, Q: packets(5)}},
		"not On, the last one Window":  {waiting(1, 0, 64), waiting(1, 5, 6, 69), waiting(2, 5, 400), waiting(2, 0, maxSeq), waiting(1, maxSeq-64, maxSeq)},
		"several":                      {{Depth: 0, Next: -1, Dry: 12}, {Depth: 17, Next: 3, Dry: -1, Q: []api.Packet{packet(7), packet(-1), none, long}}, {On: true, Depth: 17, Next: 70, Dry: 12, Q: packets(3, 2, 2)}},
		"the greatest and the least":   {{On: true, Depth: math.MaxInt}, {On: true, Depth: 1, Next: math.MaxInt, Q: packets(3)}, {On: true, Depth: 1, Dry: math.MaxInt}, {On: true, Depth: 1, Next: math.MinInt, Q: packets(3)}, {On: true, Depth: 1, Dry: math.MinInt}, {Depth: math.MinInt}},
		"wrong numbers beyond the sum": {waiting(1, 0, math.MaxInt), waiting(1, math.MaxInt-10, math.MaxInt), waiting(1, math.MinInt, math.MaxInt)},
	}
	for i, j := range states() {
		if i%5 != 0 && i > 22 {
			continue
		}
		for what, spoil := range spoils() {
			spoilt := copyOf(j)
			spoil(&spoilt)
			wrong[what] = append(wrong[what], spoilt)
		}
	}
	return wrong
}

// spoils are what makes a state one that may not be.
func spoils() map[string]func(j *api.Jitter) {
	return map[string]func(j *api.Jitter){
		"Depth of 0":         func(j *api.Jitter) { j.Depth = 0 },
		"Depth of -1":        func(j *api.Jitter) { j.Depth = -1 },
		"Depth above":        func(j *api.Jitter) { j.Depth = 17 },
		"Next below":         func(j *api.Jitter) { j.Next = -1 },
		"Next above":         func(j *api.Jitter) { j.Next, j.Q = maxNext+1, nil },
		"Next above, On":     func(j *api.Jitter) { j.On, j.Next, j.Q = true, maxNext+1, nil },
		"Dry below":          func(j *api.Jitter) { j.Dry = -1 },
		"Dry of DryFor":      func(j *api.Jitter) { j.Dry = 12 },
		"Dry above":          func(j *api.Jitter) { j.Dry = 13 },
		"one more of twice":  func(j *api.Jitter) { j.Q = append(j.Q, packet(maxSeq), packet(maxSeq)) },
		"one ahead below 0":  func(j *api.Jitter) { j.Q = append(packets(-1), j.Q...) },
		"one above MaxSeq":   func(j *api.Jitter) { j.Q = append(j.Q, packet(maxSeq+1)) },
		"one without bytes":  func(j *api.Jitter) { j.Q = append(j.Q, api.Packet{Seq: j.Next}) },
		"not On, but Next":   func(j *api.Jitter) { j.On, j.Next = false, max(1, j.Next) },
		"not On, but Dry":    func(j *api.Jitter) { j.On, j.Dry = false, max(1, j.Dry) },
		"Depth, and Dry":     func(j *api.Jitter) { j.Depth, j.Dry = 0, 12 },
		"wrong packets only": func(j *api.Jitter) { j.Q = []api.Packet{{}} },
	}
}

// wrongPackets are such as may not be put.
func wrongPackets() []api.Packet {
	b := []byte{1, 2}
	return []api.Packet{
		{Seq: -1, B: b}, {Seq: -2, B: b}, {Seq: -64, B: b}, {Seq: math.MinInt, B: b}, {Seq: maxSeq + 1, B: b}, {Seq: maxNext, B: b}, {Seq: math.MaxInt, B: b},
		{Seq: 5}, {Seq: 5, B: []byte{}}, {Seq: 5, B: make([]byte, 41)}, {Seq: 5, B: make([]byte, 1000)}, {Seq: 0}, {Seq: maxSeq},
		{Seq: -1}, {Seq: maxSeq + 1, B: make([]byte, 41)}, {},
	}
}

// goodPackets may be put, whatever the state is.
func goodPackets() []api.Packet {
	return append(packets(0, 1, 2, 63, 64, 65, 100, 1063, 1064, maxSeq-64, maxSeq-63, maxSeq-1, maxSeq), api.Packet{Seq: 5, B: []byte{0}}, api.Packet{Seq: 5, B: make([]byte, 40)})
}
