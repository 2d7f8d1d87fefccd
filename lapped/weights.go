package lapped

import (
	"squelch/api"
	"squelch/fixed"
	"squelch/table"
)

const weighBy = 16

// pair is two frames' samples, the one ahead first.
type pair [2 * api.Hop]int

// weigh answers both frames' samples, each by its weight.
func weigh(prev, cur api.Pcm) pair {
	var p pair
	copy(p[:api.Hop], prev[:])
	copy(p[api.Hop:], cur[:])
	for n, v := range p {
		p[n] = fixed.Mul(v, window(n), weighBy)
	}
	return p
}

// share answers how much of the k-th number is in p.
func share(p pair, k int) int {
	sum := 0
	for n, part := range kernels(k) {
		sum += p[n] * part
	}
	return sum
}

// mix answers what all numbers together come to at each sample.
func mix(x api.Spec) api.Wave {
	var w api.Wave
	for k, v := range x {
		for n, part := range kernels(k) {
			w[n] += v * part
		}
	}
	return w
}

// window answers the n-th sample's weight. Its error is none, since n is always a sample's place.
func window(n int) int {
	v, _ := table.Window(n)
	return v
}

// kernels answers how much of the k-th number each sample has. Its error is none, since k is always a number's place.
func kernels(k int) []int {
	row, _ := table.Row(k)
	return row
}
