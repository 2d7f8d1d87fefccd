package quant

import (
	"squelch/api"
	"squelch/bands"
)

const mostNumber = 1 << 26

// spread answers what each band has at the place of each of its numbers.
func spread(each [api.Bands]int) [api.Hop]int {
	var l [api.Hop]int
	for n := range l {
		b, _ := bands.Of(n)
		l[n] = each[b]
	}
	return l
}

// steps answers the step of each number, 0 in a band without bits.
func steps(l api.Levels, a api.Alloc) [api.Hop]int {
	var each [api.Bands]int
	for b, wide := range a {
		if wide > 0 {
			each[b], _ = Step(l[b], wide)
		}
	}
	return spread(each)
}

// mosts answers how far from 0 each small number may be.
func mosts(a api.Alloc) [api.Hop]int {
	var each [api.Bands]int
	for b, wide := range a {
		each[b] = Most(wide)
	}
	return spread(each)
}

// held answers l, each number held to its most, on both sides of 0.
func held(l, most [api.Hop]int) [api.Hop]int {
	for n, m := range most {
		l[n] = max(-m, min(l[n], m))
	}
	return l
}

// bounded answers x, each number held to what a frame's may be.
func bounded(x api.Spec) api.Spec {
	var most [api.Hop]int
	for n := range most {
		most[n] = mostNumber
	}
	return held(x, most)
}

// fits tells whether small numbers are no greater than their bits can tell.
func fits(q [api.Hop]int, a api.Alloc) bool { return held(q, mosts(a)) == q }
