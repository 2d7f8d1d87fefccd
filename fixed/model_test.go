package fixed

import (
	"math"
	"math/big"
	"slices"
)

// dice are numbers that are the same in each run.
type dice uint64

func (d *dice) next() uint64 {
	*d = *d*6364136223846793005 + 1442695040888963407
	x := uint64(*d)
	return x ^ x>>29
}

// wide is a number of any length up to 64 bits, small ones as often as great ones.
func (d *dice) wide() uint64 { return (d.next() ^ d.next()<<32) >> (d.next() >> 20 % 64) }

// number is one of either sign, of any length.
func (d *dice) number() int {
	v := int(d.wide())
	if d.next()>>20&1 == 1 {
		return -v
	}
	return v
}

// numbers are those about 0 and about each power of two, of both signs, the ends of an int, and some others.
func numbers() []int {
	l := []int{math.MinInt, math.MinInt + 1, math.MinInt + 2, math.MaxInt, math.MaxInt - 1}
	for v := -40; v <= 40; v++ {
		l = append(l, v)
	}
	for i := range 63 {
		for _, beside := range []int{-1, 0, 1} {
			v := 1<<i + beside
			l = append(l, v, -v, v+v/2, -v-v/2)
		}
	}
	d := dice(1)
	for range 200 {
		l = append(l, d.number())
	}
	return l
}

// rising are the same, from the least on, each of them once.
func rising() []int {
	l := numbers()
	slices.Sort(l)
	return slices.Compact(l)
}

// naturals are such without a sign, from 0 on, each of them once; the ends of 64 bits are among them.
func naturals() []uint64 {
	l := []uint64{math.MaxUint64, math.MaxUint64 - 1}
	for v := range uint64(300) {
		l = append(l, v)
	}
	for i := range 64 {
		v := uint64(1) << i
		l = append(l, v-1, v, v+1, v+v/2)
	}
	d := dice(2)
	for range 1000 {
		l = append(l, d.wide())
	}
	slices.Sort(l)
	return slices.Compact(l)
}

// widths are those that may be, and those beyond both ends.
func widths() []int {
	l := []int{math.MinInt, math.MinInt + 1, -1 << 32, -64, -62, -1, 64, 65, 100, 127, 128, 256, 1<<32 + 1, math.MaxInt - 1, math.MaxInt}
	for i := range 64 {
		l = append(l, i)
	}
	return l
}

func wide(v int) *big.Int { return big.NewInt(int64(v)) }

func wideOf(n uint64) *big.Int { return new(big.Int).SetUint64(n) }

// narrow is v as an int; what is none, is no answer of this layer either.
func narrow(v *big.Int) int {
	if !v.IsInt64() {
		panic("beyond an int: " + v.String())
	}
	return int(v.Int64())
}

func powerOfTwo(i int) *big.Int { return new(big.Int).Lsh(big.NewInt(1), uint(i)) }

// satOf is the chapter's words: v, or the nearer end.
func satOf(v *big.Int, bits int) *big.Int {
	bits = max(1, min(bits, 62))
	least := new(big.Int).Neg(powerOfTwo(bits - 1))
	most := new(big.Int).Sub(powerOfTwo(bits-1), big.NewInt(1))
	switch {
	case v.Cmp(least) < 0:
		return least
	case v.Cmp(most) > 0:
		return most
	}
	return v
}

func addOf(bits int, l []int) int {
	sum := new(big.Int)
	for _, v := range l {
		sum = satOf(new(big.Int).Add(sum, satOf(wide(v), 62)), bits)
	}
	return narrow(sum)
}

// roundOf is the chapter's words: the greatest whole number not above v by 2^by and a half.
func roundOf(v *big.Int, by int) int {
	if by < 1 {
		return narrow(v)
	}
	if by > 62 {
		return 0
	}
	doubled := new(big.Int).Lsh(v, 1)
	doubled.Add(doubled, powerOfTwo(by))
	// Div is Euclid's: of a divisor above 0 it goes down.
	return narrow(doubled.Div(doubled, powerOfTwo(by+1)))
}

func mulOf(a, b, by int) int {
	a = max(-1<<31, min(a, 1<<31))
	b = max(-1<<31, min(b, 1<<31))
	return roundOf(new(big.Int).Mul(wide(a), wide(b)), by)
}

// logOf is the chapter's words: the greatest k with 2^k not above the eighth power of n.
func logOf(n uint64) int {
	if n == 0 {
		return 0
	}
	eighth := new(big.Int).Exp(wideOf(n), big.NewInt(8), nil)
	k := 0
	for powerOfTwo(k+1).Cmp(eighth) <= 0 {
		k++
	}
	return k
}

// divOf is a by b of the number without its sign, halves up, and the sign again.
func divOf(a, b int) int {
	plain := new(big.Int).Abs(wide(a))
	plain.Lsh(plain, 1)
	plain.Add(plain, wide(b))
	plain.Div(plain, new(big.Int).Lsh(wide(b), 1))
	if a < 0 {
		plain.Neg(plain)
	}
	return narrow(plain)
}
