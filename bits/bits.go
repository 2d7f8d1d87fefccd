// Package bits is layer 1, bit streams: numbers of any width are written behind bits, and read.
package bits

import (
	mathbits "math/bits"

	"squelch/api"
)

const (
	maxWidth  = 64
	maxCoded  = 1<<32 - 1
	maxZeros  = 32 // as many as stand ahead in maxCoded's code
	maxSigned = 1 << 30
)

// Put answers b with v's bits behind, width of them, the highest first.
func Put(b api.Bits, v uint64, width int) (api.Bits, api.Errno) {
	if Check(b) != api.OK || !isWidth(width) || mathbits.Len64(v) > width {
		return api.Bits{}, api.ErrArg
	}
	return Join(b, number(v, width))
}

// Get answers the number of the width bits from at on.
func Get(b api.Bits, at, width int) (uint64, api.Errno) {
	if Check(b) != api.OK || at < 0 || !isWidth(width) {
		return 0, api.ErrArg
	}
	if at > b.N-width { // at+width could go beyond an int
		return 0, api.ErrShort
	}
	v := uint64(0)
	for i := at; i < at+width; i++ {
		v = v<<1 | bit(b, i)
	}
	return v, api.OK
}

// PutCode answers b with v's code behind.
func PutCode(b api.Bits, v uint64) (api.Bits, api.Errno) {
	if Check(b) != api.OK || v > maxCoded {
		return api.Bits{}, api.ErrArg
	}
	k := mathbits.Len64(v + 1)
	// In two pieces: the longest code has 65 bits, one more than a number may have.
	return Join(b, number(0, k-1), number(v+1, k))
}

// GetCode answers the number whose code stands from at on, and the place behind it.
func GetCode(b api.Bits, at int) (uint64, int, api.Errno) {
	if Check(b) != api.OK || at < 0 {
		return 0, 0, api.ErrArg
	}
	zeros := zerosFrom(b, at)
	if zeros > maxZeros {
		return 0, 0, api.ErrForm
	}
	more, e := Get(b, at+zeros, zeros+1)
	if e != api.OK {
		return 0, 0, e
	}
	if more-1 > maxCoded {
		return 0, 0, api.ErrForm
	}
	return more - 1, at + 2*zeros + 1, api.OK
}

// PutSigned answers b with the signed number v's code behind.
func PutSigned(b api.Bits, v int) (api.Bits, api.Errno) {
	if v < -maxSigned || v > maxSigned {
		return api.Bits{}, api.ErrArg
	}
	if v < 0 {
		return PutCode(b, uint64(-2*v-1))
	}
	return PutCode(b, uint64(2*v))
}

// GetSigned answers the signed number whose code stands from at on, and the place behind it.
func GetSigned(b api.Bits, at int) (int, int, api.Errno) {
	c, next, e := GetCode(b, at)
	if e != api.OK {
		return 0, 0, e
	}
	if c > 2*maxSigned {
		return 0, 0, api.ErrForm
	}
	if c%2 == 1 {
		return -int(c/2) - 1, next, api.OK
	}
	return int(c / 2), next, api.OK
}

// Join answers all bits of l, one behind the other.
func Join(l ...api.Bits) (api.Bits, api.Errno) {
	n := 0
	for _, b := range l {
		if Check(b) != api.OK {
			return api.Bits{}, api.ErrArg
		}
		n += b.N
	}
	if n > api.MaxBits {
		return api.Bits{}, api.ErrLong
	}
	out := make([]byte, bytesFor(n))
	at := 0
	for _, b := range l {
		lay(out, at, b.B)
		at += b.N
	}
	return api.Bits{B: out, N: n}, api.OK
}

// Of answers all bits of b's bytes; none, if they are more than bits may be.
func Of(b []byte) api.Bits {
	if len(b) > api.MaxBits/8 {
		return api.Bits{}
	}
	own := make([]byte, len(b))
	copy(own, b)
	return api.Bits{B: own, N: 8 * len(own)}
}

// Check tells whether b may be.
func Check(b api.Bits) api.Errno {
	if b.N < 0 || b.N > api.MaxBits || len(b.B) != bytesFor(b.N) {
		return api.ErrArg
	}
	used := b.N % 8
	if used != 0 && b.B[len(b.B)-1]<<used != 0 {
		return api.ErrArg
	}
	return api.OK
}

func isWidth(width int) bool { return width >= 0 && width <= maxWidth }

func bytesFor(n int) int { return (n + 7) / 8 }

func bit(b api.Bits, i int) uint64 { return uint64(b.B[i/8]>>(7-i%8)) & 1 }

// number is v's bits alone; v must fit into width.
func number(v uint64, width int) api.Bits {
	out := make([]byte, bytesFor(width))
	high := v << (maxWidth - width)
	for i := range out {
		out[i] = byte(high >> (maxWidth - 8 - 8*i))
	}
	return api.Bits{B: out, N: width}
}

// zerosFrom counts the zeros from at on, up to one more than a code may have.
func zerosFrom(b api.Bits, at int) int {
	n := 0
	for n <= maxZeros && at+n < b.N && bit(b, at+n) == 0 {
		n++
	}
	return n
}

// lay writes src's bits into out from the bit at on, where out is still all zeros.
func lay(out []byte, at int, src []byte) {
	i, shift := at/8, at%8
	if shift == 0 {
		copy(out[i:], src)
		return
	}
	for _, c := range src {
		out[i] |= c >> shift
		i++
		// The last byte's spare bits are zeros, for which out may have no byte.
		if rest := c << (8 - shift); rest != 0 {
			out[i] |= rest
		}
	}
}
