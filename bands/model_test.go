package bands

import (
	"math/big"

	"squelch/api"
)

// numbersOf are the chapter's words: which numbers each band has.
func numbersOf(b int) []int {
	switch b {
	case 0:
		return []int{0}
	case 1:
		return []int{1}
	case 2:
		return []int{2, 3}
	case 3:
		return []int{4, 5}
	case 4:
		return []int{6, 7, 8, 9}
	}
	return []int{10, 11, 12, 13, 14, 15}
}

// logOf is the greatest k with 2^k not above the eighth power of v, which is above 0.
func logOf(v *big.Int) int {
	power := new(big.Int).Exp(v, big.NewInt(8), nil)
	return power.BitLen() - 1
}

// measureOf is the chapter's words, in unbounded numbers.
func measureOf(x api.Spec) (l api.Levels) {
	for b := range 6 {
		sum := new(big.Int)
		for _, n := range numbersOf(b) {
			v := big.NewInt(int64(x[n]))
			sum.Add(sum, v.Mul(v, v))
		}
		if sum.Sign() == 0 {
			continue
		}
		l[b] = logOf(sum)/2 + 1
		if l[b] > 255 {
			l[b] = 255
		}
	}
	return l
}

// maskOf is the chapter's words: of each other band, twelve less for each step to it, and eight less.
func maskOf(l api.Levels) (mask api.Levels) {
	for b := range 6 {
		for left, v := b-1, 20; left >= 0; left, v = left-1, v+12 {
			if l[left]-v > mask[b] {
				mask[b] = l[left] - v
			}
		}
		for right, v := b+1, 20; right < 6; right, v = right+1, v+12 {
			if l[right]-v > mask[b] {
				mask[b] = l[right] - v
			}
		}
	}
	return mask
}

func costOf(a api.Alloc) int {
	sum := 0
	for b := range 6 {
		for range numbersOf(b) {
			sum += a[b]
		}
	}
	return sum
}

// firstOf is what the bands have ahead of any budget.
func firstOf(l api.Levels) (a api.Alloc) {
	mask := maskOf(l)
	for b := range 6 {
		// A bit for each eight levels, and for those left over.
		for above := l[b] - mask[b]; above > 0 && a[b] < 7; above -= 8 {
			a[b]++
		}
	}
	return a
}

// shareOf is the chapter's words: the bits are taken back one by one.
func shareOf(l api.Levels, budget int) api.Alloc {
	a := firstOf(l)
	for costOf(a) > budget {
		widest := 0
		for b := range 6 {
			if a[b] >= a[widest] {
				widest = b
			}
		}
		a[widest]--
	}
	return a
}

// dice are numbers that are the same in each run.
type dice uint64

func (d *dice) next() uint64 {
	*d = *d*6364136223846793005 + 1442695040888963407
	x := uint64(*d)
	return x ^ x>>29
}

func (d *dice) between(least, most int) int {
	return least + int((d.next()>>1)%uint64(most-least+1))
}

// number is one from least to most: at an end, near 0, or anywhere.
func (d *dice) number(least, most int) int {
	switch d.between(0, 9) {
	case 0:
		return least
	case 1:
		return most
	case 2:
		return max(least, min(d.between(-3, 3), most))
	}
	return d.between(least, most)
}

// numbers are a frame's, some of its bands all 0.
func (d *dice) numbers(most int) (x api.Spec) {
	for b := range 6 {
		if d.between(0, 4) == 0 {
			continue
		}
		for _, n := range numbersOf(b) {
			x[n] = d.number(-most, most)
		}
	}
	return x
}

func (d *dice) levels(most int) (l api.Levels) {
	for b := range l {
		l[b] = d.number(0, most)
	}
	return l
}

// line is any of the arrays that the calls take.
type line interface {
	api.Spec | api.Levels | api.Alloc
}

// even is v at each place.
func even[L line](v int) (l L) {
	for i := range len(l) {
		l[i] = v
	}
	return l
}

// with is l, but v at that place.
func with[L line](l L, at, v int) L {
	l[at] = v
	return l
}

// alone is v at that place, and 0 else.
func alone[L line](at, v int) (l L) { return with(l, at, v) }

// grid are all levels whose each one is among those given.
func grid(some ...int) []api.Levels {
	all := []api.Levels{{}}
	for b := range api.Bands {
		var longer []api.Levels
		for _, l := range all {
			for _, v := range some {
				longer = append(longer, with(l, b, v))
			}
		}
		all = longer
	}
	return all
}
