package jitter

import (
	"slices"

	"squelch/api"
)

func fresh(depth int) api.Jitter { return api.Jitter{Depth: depth} }

// numbers are a state's: Next, Depth, Dry.
type numbers [3]int

func numbersOf(j api.Jitter) numbers { return numbers{j.Next, j.Depth, j.Dry} }

// least are the numbers of any state at the least.
func least() numbers { return numbers{0, 1, 0} }

// most are the numbers of a state at the most: nothing comes next, and nothing was missed, ahead of the first packet that is heard.
func most(on bool) numbers {
	if !on {
		return numbers{0, api.MaxWait, 0}
	}
	return numbers{2 * api.MaxSeq, api.MaxWait, api.DryFor - 1}
}

// held are n, each brought to its bounds.
func (n numbers) held(most numbers) numbers {
	for i, low := range least() {
		n[i] = max(low, min(n[i], most[i]))
	}
	return n
}

// isWrong tells whether p may be in no state.
func isWrong(p api.Packet) bool {
	return p.Seq < 0 || p.Seq > api.MaxSeq || len(p.B) < 1 || len(p.B) > api.MaxFrame
}

// fits tells whether packets from one number to another may stand in j.
func fits(j api.Jitter, from, to int) bool {
	if j.On {
		return from >= j.Next && to < j.Next+api.Window
	}
	return to < from+api.Window
}

// first is the number with which the next turn begins; there must be a packet where j is not On.
func first(j api.Jitter) int {
	if j.On {
		return j.Next
	}
	return j.Q[0].Seq
}

// last is the last packet's number; there must be one.
func last(j api.Jitter) int { return j.Q[len(j.Q)-1].Seq }

// find answers the place of the packet of seq in q, or where it would be, and whether it is there.
func find(q []api.Packet, seq int) (int, bool) {
	at := slices.IndexFunc(q, func(p api.Packet) bool { return p.Seq >= seq })
	if at < 0 {
		return len(q), false
	}
	return at, q[at].Seq == seq
}

// put answers what becomes of p.
func put(j *api.Jitter, p api.Packet) int {
	at, there := find(j.Q, p.Seq)
	switch {
	case j.On && p.Seq < j.Next:
		return api.Late
	case there:
		return api.Twice
	case isFar(*j, p.Seq):
		return api.Far
	}
	j.Q = slices.Insert(j.Q, at, ownPacket(p))
	return api.Taken
}

// isFar tells whether a packet of seq would stand too far from where it is heard, or from the others.
func isFar(j api.Jitter, seq int) bool {
	if len(j.Q) == 0 {
		return !fits(j, seq, seq)
	}
	return !fits(j, min(seq, j.Q[0].Seq), max(seq, last(j)))
}

// turn answers what comes of Next, and its bytes, and takes it out.
func turn(j *api.Jitter) (int, []byte) {
	at, there := find(j.Q, j.Next)
	j.Next++
	if there {
		b := j.Q[at].B
		j.Q, j.Dry = slices.Delete(j.Q, at, at+1), 0
		return api.Comes, b
	}
	j.Dry++
	if j.Dry == api.DryFor {
		*j = fresh(j.Depth)
		return api.Ended, nil
	}
	return api.Lost, nil
}

// own is j with packets of its own, so that nobody else's bytes are in what is answered.
func own(j api.Jitter) api.Jitter {
	q := make([]api.Packet, len(j.Q))
	for i, p := range j.Q {
		q[i] = ownPacket(p)
	}
	j.Q = q
	return j
}

func ownPacket(p api.Packet) api.Packet {
	p.B = slices.Clone(p.B)
	return p
}
