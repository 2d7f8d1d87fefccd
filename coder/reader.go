package coder

import (
	"squelch/api"
	"squelch/bits"
	"squelch/freq"
)

const (
	codeBits = 32
	maxAt    = api.MaxBits + 64
)

// reader reads the bits where they are; they are the caller's, and only read.
type reader struct {
	interval
	code uint32
	in   api.Bits
	at   int
}

// open answers the reader that begins at b's first bit.
func open(b api.Bits) (*reader, api.Errno) {
	there := min(b.N, codeBits)
	first, e := bits.Get(b, 0, there)
	if e != api.OK {
		return nil, e
	}
	return &reader{interval: whole(), code: uint32(first << (codeBits - there)), in: b, at: codeBits}, api.OK
}

// reopen answers the reader that goes on from d.
func reopen(d api.Dec) (*reader, api.Errno) {
	r := &reader{interval: interval{low: d.Low, high: d.High}, code: d.Code, in: d.In, at: d.At}
	_, wide := r.excess()
	if wide || r.code < r.low || r.code > r.high || r.at < codeBits || r.at > maxAt || bits.Check(r.in) != api.OK {
		return nil, api.ErrArg
	}
	return r, api.OK
}

func (r *reader) next(f api.Freq) (int, api.Errno) {
	if e := freq.Check(f); e != api.OK {
		return 0, e
	}
	if r.at > r.in.N+codeBits {
		return 0, api.ErrShort
	}
	ahead := uint64(r.code-r.low) + 1
	x := (ahead*uint64(freq.Total(f)) - 1) / r.size()
	s, e := freq.Find(f, int(x))
	if e != api.OK {
		return 0, e
	}
	r.narrow(f, s)
	r.widen()
	return s, api.OK
}

func (r *reader) widen() {
	for {
		excess, wide := r.excess()
		if !wide {
			return
		}
		r.double(excess)
		r.code = (r.code-excess)*2 + r.bit()
		r.at++
	}
}

// bit answers the next bit, 0 behind the end.
func (r *reader) bit() uint32 {
	b, _ := bits.Get(r.in, r.at, 1)
	return uint32(b)
}

// state answers what the reader is to go on from.
func (r *reader) state() (api.Dec, api.Errno) {
	in, e := bits.Join(r.in)
	if e != api.OK {
		return api.Dec{}, e
	}
	return api.Dec{Low: r.low, High: r.high, Code: r.code, In: in, At: r.at}, api.OK
}
