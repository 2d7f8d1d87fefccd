package lapped

import (
	"math/big"

	"squelch/api"
	"squelch/table"
)

func wide(v int) *big.Int { return big.NewInt(int64(v)) }

func powerOfTwo(i int) *big.Int { return new(big.Int).Lsh(big.NewInt(1), uint(i)) }

func times(a, b *big.Int) *big.Int { return new(big.Int).Mul(a, b) }

func plus(a, b *big.Int) *big.Int { return new(big.Int).Add(a, b) }

// narrow is v as an int, which all of these answers are.
func narrow(v *big.Int) int {
	if !v.IsInt64() {
		panic("an answer of more than 64 bits")
	}
	return int(v.Int64())
}

// roundOf is v by 2^by, to the nearest whole number, halves up.
func roundOf(v *big.Int, by int) *big.Int {
	sum := plus(v, powerOfTwo(by-1))
	// Div is Euclid's: of a divisor above 0 it goes down.
	return sum.Div(sum, powerOfTwo(by))
}

func windowAt(n int) *big.Int {
	v, e := table.Window(n)
	if e != api.OK {
		panic("no window there")
	}
	return wide(v)
}

func kernelAt(n, k int) *big.Int {
	v, e := table.Kernel(n, k)
	if e != api.OK {
		panic("no kernel there")
	}
	return wide(v)
}

// forwardSum is the chapter's words of the k-th number, but for the last rounding.
func forwardSum(prev, cur api.Pcm, k int) *big.Int {
	sum := new(big.Int)
	for n := range 32 {
		v := prev[n%16]
		if n >= 16 {
			v = cur[n%16]
		}
		weighed := roundOf(times(wide(v), windowAt(n)), 16)
		sum = plus(sum, times(weighed, kernelAt(n, k)))
	}
	return sum
}

func forwardOf(prev, cur api.Pcm) api.Spec {
	var x api.Spec
	for k := range 16 {
		x[k] = narrow(roundOf(forwardSum(prev, cur, k), 28))
	}
	return x
}

// inverseSum is the chapter's words of the wave's n-th, up to the first rounding.
func inverseSum(x api.Spec, n int) *big.Int {
	sum := new(big.Int)
	for k := range 16 {
		sum = plus(sum, times(wide(x[k]), kernelAt(n, k)))
	}
	return sum
}

// inverseProduct is the chapter's words of the wave's n-th, up to the last rounding.
func inverseProduct(x api.Spec, n int) *big.Int {
	return times(roundOf(inverseSum(x, n), 20), windowAt(n))
}

func inverseOf(x api.Spec) api.Wave {
	var w api.Wave
	for n := range 32 {
		w[n] = narrow(roundOf(inverseProduct(x, n), 27))
	}
	return w
}

func heldTo16(v *big.Int) int {
	switch {
	case v.Cmp(wide(32767)) > 0:
		return 32767
	case v.Cmp(wide(-32768)) < 0:
		return -32768
	}
	return narrow(v)
}

func lapOf(t api.Tail, w api.Wave) (api.Pcm, api.Tail) {
	var p api.Pcm
	var left api.Tail
	for n := range 16 {
		p[n] = heldTo16(roundOf(plus(wide(t[n]), wide(w[n])), 8))
		left[n] = w[n+16]
	}
	return p, left
}

func backOf(t api.Tail, l []api.Spec) ([]api.Pcm, api.Tail) {
	var frames []api.Pcm
	for _, x := range l {
		var p api.Pcm
		p, t = lapOf(t, inverseOf(x))
		frames = append(frames, p)
	}
	return frames, t
}

func energyOf(x api.Spec) *big.Int {
	sum := new(big.Int)
	for _, v := range x {
		sum = plus(sum, times(wide(v), wide(v)))
	}
	return sum
}

// dice are numbers that are the same in each run.
type dice uint64

func (d *dice) next() uint64 {
	*d = *d*6364136223846793005 + 1442695040888963407
	x := uint64(*d)
	return x ^ x>>29
}

func (d *dice) between(least, most int) int {
	return least + int((d.next()>>1)%uint64(most-least+1))
}

// number is one from least to most: at an end, near 0, or anywhere.
func (d *dice) number(least, most int) int {
	switch d.between(0, 9) {
	case 0:
		return least
	case 1:
		return most
	case 2:
		return d.between(-3, 3)
	}
	return d.between(least, most)
}

func (d *dice) fill(l []int, least, most int) {
	for i := range l {
		l[i] = d.number(least, most)
	}
}

func (d *dice) samples() (p api.Pcm) {
	d.fill(p[:], -32768, 32767)
	return p
}

func (d *dice) numbers(most int) (x api.Spec) {
	d.fill(x[:], -most, most)
	return x
}

func (d *dice) wave(most int) (w api.Wave) {
	d.fill(w[:], -most, most)
	return w
}

func (d *dice) tail(most int) (t api.Tail) {
	d.fill(t[:], -most, most)
	return t
}

// line is any of the arrays that the calls take.
type line interface {
	api.Pcm | api.Spec | api.Wave | api.Tail
}

// even is v at each place.
func even[L line](v int) (l L) {
	for i := range len(l) {
		l[i] = v
	}
	return l
}

// with is l, but v at that place.
func with[L line](l L, at, v int) L {
	l[at] = v
	return l
}

// alone is v at that place, and 0 else.
func alone[L line](at, v int) (l L) { return with(l, at, v) }

// loudest are the two frames whose k-th number is as great, or as far below 0, as it ever is.
func loudest(k, sign int) (prev, cur api.Pcm) {
	for n := range 32 {
		v := 32767
		if kernelAt(n, k).Sign()*sign < 0 {
			v = -32768
		}
		if n < 16 {
			prev[n] = v
		} else {
			cur[n-16] = v
		}
	}
	return prev, cur
}

// farthest are the numbers whose wave is, at its n-th, as great, or as far below 0, as it ever is.
func farthest(n, sign int) (x api.Spec) {
	for k := range x {
		x[k] = 1 << 26
		if kernelAt(n, k).Sign()*sign < 0 {
			x[k] = -1 << 26
		}
	}
	return x
}

// talk is samples of several frames, one behind the other.
type talk struct {
	what   string
	frames []api.Pcm
}

func newTalk(what string, sample func(i int) int) talk {
	frames := make([]api.Pcm, 40)
	for i := range frames {
		for n := range frames[i] {
			frames[i][n] = sample(16*i + n)
		}
	}
	return talk{what, frames}
}

// talks are of many kinds: quiet, loud, steady, rising, turning over.
func talks() []talk {
	d := dice(5)
	ends := [2]int{-32768, 32767}
	return []talk{
		newTalk("silence", func(int) int { return 0 }),
		newTalk("the greatest", func(int) int { return 32767 }),
		newTalk("the least", func(int) int { return -32768 }),
		newTalk("ones", func(int) int { return 1 }),
		newTalk("turning over each", func(i int) int { return ends[i%2] }),
		newTalk("turning over each third", func(i int) int { return ends[i/3%2] }),
		newTalk("turning over each frame", func(i int) int { return ends[i/16%2] }),
		newTalk("rising", func(i int) int { return (i*997+5)%65536 - 32768 }),
		newTalk("one of 16", func(i int) int { return max(0, 1-i%16) * 32767 }),
		newTalk("one of 17", func(i int) int { return max(0, 1-i%17) * -32768 }),
		newTalk("steps", func(i int) int { return i%5 - 2 }),
		newTalk("any", func(int) int { return d.number(-32768, 32767) }),
		newTalk("both ends", func(int) int { return ends[d.between(0, 1)] }),
		newTalk("small", func(int) int { return d.number(-30, 30) }),
	}
}
