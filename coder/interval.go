package coder

import (
	"squelch/api"
	"squelch/freq"
)

const (
	top     = 1<<32 - 1
	half    = 1 << 31
	quarter = 1 << 30
)

// interval goes from low to high, both in it.
type interval struct {
	low, high uint32
}

func whole() interval { return interval{high: top} }

// size is told in 64 bits: the whole interval has one number more than 32 bits can tell.
func (v interval) size() uint64 { return uint64(v.high) - uint64(v.low) + 1 }

// excess answers what is taken from both ends ahead of doubling them, and whether the interval needs that.
// One that needs none has low below half, and high not below it, so that low is below high.
func (v interval) excess() (uint32, bool) {
	switch {
	case v.high < half:
		return 0, true
	case v.low >= half:
		return half, true
	case v.low >= quarter && v.high < half+quarter:
		return quarter, true
	}
	return 0, false
}

func (v *interval) double(excess uint32) {
	v.low = (v.low - excess) * 2
	v.high = (v.high-excess)*2 + 1
}

// narrow leaves of the interval the part of the symbol s.
// An interval that needs no widening has more than 2^30 numbers, a table 2^14 at the most: no part is empty.
func (v *interval) narrow(f api.Freq, s int) api.Errno {
	a, b, e := freq.Span(f, s)
	if e != api.OK {
		return e
	}
	size, total, low := v.size(), uint64(freq.Total(f)), v.low
	v.high = low + uint32(size*uint64(b)/total-1)
	v.low = low + uint32(size*uint64(a)/total)
	return api.OK
}
