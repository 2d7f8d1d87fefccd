package fixed

import "math/bits"

const wordBits = 64

// power is a number of 512 bits, the lowest word first: the eighth power of a number of 64 bits has no more.
// It is kept whole, since a rounded one may be on the other side of a power of two.
type power [8]uint64

func eighthPower(n uint64) power {
	p := power{1}
	for range 8 {
		p = p.times(n)
	}
	return p
}

func (p power) times(n uint64) power {
	carry := uint64(0)
	for i, word := range p {
		high, low := bits.Mul64(word, n)
		sum, over := bits.Add64(low, carry, 0)
		p[i] = sum
		carry = high + over
	}
	return p
}

// length answers how many bits p has from its highest 1 on.
func (p power) length() int {
	for i := len(p) - 1; i >= 0; i-- {
		if p[i] != 0 {
			return i*wordBits + bits.Len64(p[i])
		}
	}
	return 0
}
