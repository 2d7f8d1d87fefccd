package quant

import (
	"math/big"
	"testing"

	"squelch/api"
	"squelch/bands"
)

func wide(v int) *big.Int { return big.NewInt(int64(v)) }

func times(a, b *big.Int) *big.Int { return new(big.Int).Mul(a, b) }

// narrow is v as an int, which all of these answers are.
func narrow(v *big.Int) int {
	if !v.IsInt64() {
		panic("an answer of more than 64 bits")
	}
	return int(v.Int64())
}

// bandOf are the words of chapter 8: which band has the number.
func bandOf(n int) int { return [16]int{0, 1, 2, 2, 3, 3, 4, 4, 4, 4, 5, 5, 5, 5, 5, 5}[n] }

// shareOf is what layer 8 shares the levels of a budget that stands here as a number.
func shareOf(l api.Levels) api.Alloc {
	a, e := bands.Share(l, 120)
	if e != api.OK {
		panic("levels that may not be")
	}
	return a
}

// mostOf is the chapter's words: two as often by itself as there are bits, less 1.
func mostOf(bits int) int {
	v := 1
	for i := 0; i < bits && i < 7; i++ {
		v = v + v
	}
	return v - 1
}

// peakOf is the chapter's words: 8 and what is left of the level, doubled for each 8 that were taken away.
func peakOf(level int) *big.Int {
	doublings := 0
	for level >= 8 {
		level, doublings = level-8, doublings+1
	}
	v := wide(8 + level)
	for range doublings {
		v.Add(v, v)
	}
	v.Quo(v, wide(8))
	return v.Add(v, wide(1))
}

// stepOf is the chapter's words: what is left over makes one more.
func stepOf(level, bits int) *big.Int {
	whole, rest := new(big.Int).QuoRem(peakOf(level), wide(mostOf(bits)), new(big.Int))
	if rest.Sign() > 0 {
		whole.Add(whole, wide(1))
	}
	return whole
}

// nearestOf is a by b to the nearest whole number, halves away from 0.
func nearestOf(a, b *big.Int) *big.Int {
	plain := new(big.Int).Abs(a)
	plain.Add(plain, plain)
	plain.Add(plain, b)
	plain.Quo(plain, new(big.Int).Add(b, b))
	if a.Sign() < 0 {
		plain.Neg(plain)
	}
	return plain
}

// heldOf is v, or the end that is nearer, of those from -most to most.
func heldOf(v *big.Int, most int) int {
	switch {
	case v.Cmp(wide(most)) > 0:
		return most
	case v.Cmp(wide(-most)) < 0:
		return -most
	}
	return narrow(v)
}

func smallOf(x api.Spec, l api.Levels) (q [16]int) {
	a := shareOf(l)
	for n := range 16 {
		b := bandOf(n)
		if a[b] == 0 {
			continue
		}
		q[n] = heldOf(nearestOf(wide(x[n]), stepOf(l[b], a[b])), mostOf(a[b]))
	}
	return q
}

func greatOf(q [16]int, l api.Levels) (x api.Spec) {
	a := shareOf(l)
	for n := range 16 {
		b := bandOf(n)
		if a[b] == 0 {
			continue
		}
		x[n] = heldOf(times(wide(q[n]), stepOf(l[b], a[b])), 67108864)
	}
	return x
}

// endsOf are how far from 0 each small number may be for the levels.
func endsOf(l api.Levels) (ends [16]int) {
	a := shareOf(l)
	for n := range 16 {
		ends[n] = mostOf(a[bandOf(n)])
	}
	return ends
}

// seedOf is the seed behind so many numbers.
func seedOf(seed uint32, numbers int) uint32 {
	v := new(big.Int).SetUint64(uint64(seed))
	for range numbers {
		v = times(v, wide(1664525))
		v.Add(v, wide(1013904223))
		v.Mod(v, wide(1<<32))
	}
	return uint32(v.Uint64())
}

// roundOf is v by 2^by, to the nearest whole number, halves up.
func roundOf(v *big.Int, by uint) *big.Int {
	twice := new(big.Int).Add(v, v)
	twice.Add(twice, new(big.Int).Lsh(wide(1), by))
	// Div is Euclid's: of a divisor above 0 it goes down.
	return twice.Div(twice, new(big.Int).Lsh(wide(1), by+1))
}

// noiseOf is the chapter's words, each number by itself from the first seed on.
func noiseOf(seed uint32, l api.Levels) (x api.Spec) {
	for n := range 16 {
		level := l[bandOf(n)]
		if level == 0 {
			continue
		}
		upper := int(seedOf(seed, n+1)/65536) - 32768
		x[n] = heldOf(roundOf(times(wide(upper), peakOf(level)), 18), 67108864)
	}
	return x
}

// dice are numbers that are the same in each run.
type dice uint64

func (d *dice) next() uint64 {
	*d = *d*6364136223846793005 + 1442695040888963407
	x := uint64(*d)
	return x ^ x>>29
}

func (d *dice) between(least, most int) int {
	return least + int((d.next()>>1)%uint64(most-least+1))
}

// number is one from least to most: at an end, near 0, or anywhere.
func (d *dice) number(least, most int) int {
	switch d.between(0, 9) {
	case 0:
		return least
	case 1:
		return most
	case 2:
		return max(least, min(d.between(-3, 3), most))
	}
	return d.between(least, most)
}

func (d *dice) numbers(most int) (x api.Spec) {
	for n := range x {
		x[n] = d.number(-most, most)
	}
	return x
}

// small are numbers that may be for the levels.
func (d *dice) small(l api.Levels) (q [16]int) {
	for n, end := range endsOf(l) {
		q[n] = d.number(-end, end)
	}
	return q
}

// levels are of any kind, so that bands with every number of bits, and masked ones, are among them.
func (d *dice) levels(most int) (l api.Levels) {
	about := d.between(0, most)
	for b := range l {
		switch d.between(0, 5) {
		case 0:
			l[b] = d.number(0, most)
		case 1:
			l[b] = 0
		default:
			l[b] = max(0, min(about+d.between(-24, 24), most))
		}
	}
	return l
}

// manyLevels are levels up to most: all bands the same, each band alone, and many others.
func manyLevels(most int) []api.Levels {
	// These are shared more bits than others are.
	many := []api.Levels{{41, 13, 37, 30, 0, 52}, {most, most - 16, most - 7, most - 18, most - 77, most}}
	for v := range most + 1 {
		many = append(many, even[api.Levels](v))
		for b := range api.Bands {
			many = append(many, alone[api.Levels](b, v))
		}
	}
	d := dice(1)
	for i := range 2000 {
		many = append(many, d.levels(1+i%most))
	}
	return many
}

// measured are x's own levels, the small numbers of x by these, and the bits.
func measured(t *testing.T, x api.Spec) (api.Levels, [16]int, api.Alloc) {
	t.Helper()
	l, e1 := bands.Measure(x)
	q, a, e2 := Small(x, l)
	if e1 != api.OK || e2 != api.OK || !May(q, l) {
		t.Errorf("%v: got %v, %v, %v, %d, %d", x, l, q, a, e1, e2)
	}
	return l, q, a
}

// line is any of the arrays that the calls take.
type line interface {
	api.Spec | api.Levels | [16]int
}

// even is v at each place.
func even[L line](v int) (l L) {
	for i := range len(l) {
		l[i] = v
	}
	return l
}

// with is l, but v at that place.
func with[L line](l L, at, v int) L {
	l[at] = v
	return l
}

// alone is v at that place, and 0 else.
func alone[L line](at, v int) (l L) { return with(l, at, v) }

// turned is l, each with the other sign.
func turned(l [16]int) [16]int {
	for n, v := range l {
		l[n] = -v
	}
	return l
}
