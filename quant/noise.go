package quant

import (
	"squelch/api"
	"squelch/bands"
	"squelch/fixed"
)

const (
	seedTimes = 1664525
	seedPlus  = 1013904223
	seedHalf  = 16
	noiseBy   = 18
)

// Noise answers numbers made up by a seed that are as great as the levels l say, and the seed behind them.
func Noise(seed uint32, l api.Levels) (api.Spec, uint32, api.Errno) {
	if bands.Check(l) != api.OK {
		return api.Spec{}, 0, api.ErrArg
	}
	var x api.Spec
	for n, peak := range peaks(l) {
		seed = next(seed)
		// The product is not fixed.Mul's, which holds its factors to less than the greatest peak is.
		x[n] = fixed.Round(swing(seed)*peak, noiseBy)
	}
	return bounded(x), seed, api.OK
}

// peaks answers how great each number's noise is, 0 in a band of level 0.
func peaks(l api.Levels) [api.Hop]int {
	var each [api.Bands]int
	for b, level := range l {
		if level > 0 {
			each[b], _ = Peak(level)
		}
	}
	return spread(each)
}

// next answers the seed that follows, which goes around in its 32 bits.
func next(seed uint32) uint32 { return seed*seedTimes + seedPlus }

// swing answers the seed's upper half, as a number on either side of 0: the lower half repeats itself too soon.
func swing(seed uint32) int { return int(seed>>seedHalf) - 1<<(seedHalf-1) }
