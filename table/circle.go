package table

import "squelch/fixed"

const (
	parts    = 7
	onCircle = 1 << parts
	oneBy    = 30
	one      = 1 << oneBy
	rootBy   = oneBy - 1
	narrowBy = 6
)

// point is a place on the circle, or what a turn to it takes: x, which is a cosine, and y, a sine.
type point [2]int

// circle keeps those of its parts that it has made; what is none yet, is no point.
// One call has it, and leaves nothing of it to the next.
type circle struct {
	halve func(ahead point) point
	kept  [parts + 1]any
}

func newCircle() *circle {
	c := &circle{halve: halved}
	c.kept[1] = point{-one, 0}
	c.kept[2] = point{0, one}
	return c
}

// part answers the i-th part, i from 1 to 7, made of the one ahead of it unless it is there.
func (c *circle) part(i int) point {
	if p, ok := c.kept[i].(point); ok {
		return p
	}
	c.kept[i] = c.halve(c.part(i - 1))
	return c.kept[i].(point)
}

// at answers the m-th point.
func (c *circle) at(m int) point {
	p := point{one, 0}
	// The low bits of a number below 0, too, are what is left when the circle is gone round.
	m &= onCircle - 1
	for i := 1; i <= parts; i++ {
		if m>>(parts-i)&1 == 1 {
			p = p.turned(c.part(i))
		}
	}
	return p
}

// rounded answers the m-th point in parts of 2^24.
func (c *circle) rounded(m int) point {
	p := c.at(m)
	return point{fixed.Round(p[0], narrowBy), fixed.Round(p[1], narrowBy)}
}

func (p point) turned(by point) point {
	return point{
		fixed.Round(p[0]*by[0]-p[1]*by[1], oneBy),
		fixed.Round(p[0]*by[1]+p[1]*by[0], oneBy),
	}
}

// halved answers the part that is half of the one ahead, of which the cosine alone is needed.
func halved(ahead point) point {
	return point{root(one + ahead[0]), root(one - ahead[0])}
}

func root(v int) int { return int(fixed.Sqrt(uint64(v) << rootBy)) }
