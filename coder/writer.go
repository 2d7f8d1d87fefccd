package coder

import (
	"squelch/api"
	"squelch/bits"
)

const wordBits = 64

// writer keeps what is out in pieces, so that not all of it is copied with each symbol.
type writer struct {
	interval
	wait   int
	pieces []api.Bits
	n      int
}

// resume answers the writer that goes on from e.
func resume(e api.Enc) (*writer, api.Errno) {
	w := &writer{
		interval: interval{low: e.Low, high: e.High},
		wait:     e.Wait,
		pieces:   []api.Bits{e.Out},
		n:        e.Out.N,
	}
	if _, wide := w.excess(); wide || e.Wait < 0 || e.Wait > api.MaxBits || bits.Check(e.Out) != api.OK {
		return nil, api.ErrArg
	}
	return w, api.OK
}

func (w *writer) put(f api.Freq, s int) api.Errno {
	if e := w.narrow(f, s); e != api.OK {
		return e
	}
	w.widen()
	if w.n > api.MaxBits || w.wait > api.MaxBits {
		return api.ErrLong
	}
	return api.OK
}

func (w *writer) widen() {
	for {
		excess, wide := w.excess()
		if !wide {
			return
		}
		if excess == quarter {
			w.wait++
		} else {
			w.send(uint64(excess / half))
		}
		w.double(excess)
	}
}

// send lets a bit go out, and those that wait behind it.
func (w *writer) send(bit uint64) {
	w.lay(bit, 1)
	w.lay(1-bit, w.wait)
	w.wait = 0
}

// lay lays the same bit n times behind what is out.
func (w *writer) lay(bit uint64, n int) {
	w.n += n
	for n > 0 {
		width := min(n, wordBits)
		ones := ^uint64(0) >> (wordBits - width)
		piece, _ := bits.Put(api.Bits{}, bit*ones, width)
		w.pieces = append(w.pieces, piece)
		n -= width
	}
}

// end sends as much as tells a number of the interval, whatever is read behind it.
func (w *writer) end() (api.Bits, api.Errno) {
	w.wait++
	if w.low < quarter {
		w.send(0)
	} else {
		w.send(1)
	}
	return bits.Join(w.pieces...)
}

// state answers what the writer is to go on from.
func (w *writer) state() (api.Enc, api.Errno) {
	out, e := bits.Join(w.pieces...)
	if e != api.OK {
		return api.Enc{}, e
	}
	return api.Enc{Low: w.low, High: w.high, Wait: w.wait, Out: out}, api.OK
}
