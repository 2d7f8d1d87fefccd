package table

import (
	"math"
	"math/big"
)

// pair is a point in unbounded numbers: x, y.
type pair struct{ x, y *big.Int }

func wide(v int) *big.Int { return big.NewInt(int64(v)) }

func powerOfTwo(i int) *big.Int { return new(big.Int).Lsh(big.NewInt(1), uint(i)) }

// roundOf is v by 2^by, to the nearest whole number, halves up.
func roundOf(v *big.Int, by int) *big.Int {
	sum := new(big.Int).Add(v, powerOfTwo(by-1))
	// Div is Euclid's: of a divisor above 0 it goes down.
	return sum.Div(sum, powerOfTwo(by))
}

// halfOf is the chapter's words: the first two parts are given, each next one is two roots.
func halfOf(i int) pair {
	switch i {
	case 1:
		return pair{new(big.Int).Neg(powerOfTwo(30)), new(big.Int)}
	case 2:
		return pair{new(big.Int), powerOfTwo(30)}
	}
	ahead := halfOf(i - 1).x
	more := new(big.Int).Add(powerOfTwo(30), ahead)
	less := new(big.Int).Sub(powerOfTwo(30), ahead)
	more.Mul(more, powerOfTwo(29))
	less.Mul(less, powerOfTwo(29))
	return pair{more.Sqrt(more), less.Sqrt(less)}
}

func times(a, b *big.Int) *big.Int { return new(big.Int).Mul(a, b) }

// turnOf is the chapter's words: from (One, 0) on, by each part of which m has the bit, the greatest first.
func turnOf(m int) pair {
	left := new(big.Int).Mod(wide(m), wide(128)).Int64()
	at := pair{powerOfTwo(30), new(big.Int)}
	bit := int64(64)
	for i := 1; i <= 7; i++ {
		if left >= bit {
			left -= bit
			by := halfOf(i)
			at = pair{
				roundOf(new(big.Int).Sub(times(at.x, by.x), times(at.y, by.y)), 30),
				roundOf(new(big.Int).Add(times(at.x, by.y), times(at.y, by.x)), 30),
			}
		}
		bit /= 2
	}
	return at
}

func cosOf(m int) int { return int(roundOf(turnOf(m).x, 6).Int64()) }

func sinOf(m int) int { return int(roundOf(turnOf(m).y, 6).Int64()) }

// places are three circles' points, and some about the powers of two and the ends of an int.
func places() []int {
	var l []int
	for m := -256; m < 384; m++ {
		l = append(l, m)
	}
	for i := 9; i < 63; i++ {
		for beside := -2; beside <= 2; beside++ {
			l = append(l, 1<<i+beside, -1<<i+beside)
		}
	}
	for beside := range 130 {
		l = append(l, math.MaxInt-beside, math.MinInt+beside)
	}
	return l
}
