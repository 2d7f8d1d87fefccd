package coder

import (
	"bytes"
	"slices"
	"strings"

	"squelch/api"
)

// dice are numbers that are the same in each run.
type dice uint64

func (d *dice) next() uint64 {
	*d = *d*6364136223846793005 + 1442695040888963407
	x := uint64(*d)
	return x ^ x>>29
}

func (d *dice) below(n int) int { return int((d.next() >> 16) % uint64(n)) }

// text is n bits, as a text of 0s and 1s.
func (d *dice) text(n int) string {
	b := make([]byte, n)
	for i := range b {
		b[i] = "01"[d.below(2)]
	}
	return string(b)
}

// pack is the bits of a text of 0s and 1s, told without layer 1.
func pack(text string) api.Bits {
	b := make([]byte, (len(text)+7)/8)
	for i, x := range []byte(text) {
		if x == '1' {
			b[i/8] |= 0x80 >> (i % 8)
		}
	}
	return api.Bits{B: b, N: len(text)}
}

// unpack is the text of bits.
func unpack(b api.Bits) string {
	text := make([]byte, b.N)
	for i := range text {
		text[i] = "01"[b.B[i/8]>>(7-i%8)&1]
	}
	return string(text)
}

// of is the table of these numbers.
func of(c ...int) api.Freq { return api.Freq{C: c} }

// counted is the table of these counts, told without layer 3.
func counted(l ...int) api.Freq {
	f := of(0)
	all := 0
	for _, x := range l {
		all += x
		f.C = append(f.C, all)
	}
	return f
}

// same is n times x.
func same(n, x int) []int { return slices.Repeat([]int{x}, n) }

// tables are some that may be, the edges among them.
func tables() []api.Freq {
	d := dice(1)
	some := make([]int, 40)
	for i := range some {
		some[i] = 1 + d.below(400)
	}
	return []api.Freq{
		of(0, 1),
		of(0, 16384),
		of(0, 1, 2),
		of(0, 1, 3),
		of(0, 1, 3, 4),
		of(0, 5, 6, 7, 12),
		of(0, 1, 16384),
		of(0, 16383, 16384),
		of(0, 8191, 8193, 16384),
		of(0, 4096, 12288, 16384),
		counted(900, 1, 30, 500),
		counted(some...),
		counted(same(256, 1)...),
		counted(same(256, 64)...),
		counted(append(same(255, 1), 16384-255)...),
		counted(append([]int{16384 - 255}, same(255, 1)...)...),
	}
}

// wrongTables are some that may not be.
func wrongTables() map[string]api.Freq {
	return map[string]api.Freq{
		"nil":                       {},
		"empty":                     {C: []int{}},
		"no symbol":                 of(0),
		"257 symbols":               counted(same(257, 1)...),
		"not from 0":                of(1, 2),
		"a symbol without a number": of(0, 2, 2),
		"falling":                   of(0, 3, 2),
		"below 0":                   of(0, -1),
		"above the greatest total":  of(0, 1, 16385),
	}
}

// wrongBits are some that may not be.
func wrongBits() map[string]api.Bits {
	return map[string]api.Bits{
		"fewer than none":     {N: -1},
		"more than there are": {N: 1},
		"a byte too many":     {B: []byte{0}},
		"a byte too few":      {B: []byte{0}, N: 9},
		"a 1 behind the last": {B: []byte{0xff}, N: 7},
		"more than may be":    {B: make([]byte, 8193), N: 65537},
	}
}

// model is the chapter's words: an interval, those that wait, and what is out as a text; of one that reads Code and At, too.
type model struct {
	low, high int
	wait      int
	out       string
	code, at  int
	in        string
}

func part(low, high int, c []int, s int) (int, int) {
	r := high - low + 1
	t := c[len(c)-1]
	return low + r*c[s]/t, low + r*c[s+1]/t - 1
}

func (m *model) goesOut(bit, other string) {
	m.out += bit + strings.Repeat(other, m.wait)
	m.wait = 0
}

func (m *model) widen() {
	for {
		taken := 0
		switch {
		case m.high < 1<<31:
			m.goesOut("0", "1")
		case m.low >= 1<<31:
			m.goesOut("1", "0")
			taken = 1 << 31
		case m.low >= 1<<30 && m.high < 1<<31+1<<30:
			m.wait++
			taken = 1 << 30
		default:
			return
		}
		m.low = 2 * (m.low - taken)
		m.high = 2*(m.high-taken) + 1
		m.code = 2 * (m.code - taken)
		if m.at < len(m.in) && m.in[m.at] == '1' {
			m.code++
		}
		m.at++
	}
}

func (m *model) put(f api.Freq, s int) {
	m.low, m.high = part(m.low, m.high, f.C, s)
	m.widen()
}

// get takes the symbol in whose part the code is: there is just one.
func (m *model) get(f api.Freq) int {
	for s := range len(f.C) - 1 {
		low, high := part(m.low, m.high, f.C, s)
		if low <= m.code && m.code <= high {
			m.low, m.high = low, high
			m.widen()
			return s
		}
	}
	return -1
}

func (m *model) end() string {
	m.wait++
	if m.low < 1<<30 {
		m.goesOut("0", "1")
	} else {
		m.goesOut("1", "0")
	}
	return m.out
}

func (m *model) enc() api.Enc {
	return api.Enc{Low: uint32(m.low), High: uint32(m.high), Wait: m.wait, Out: pack(m.out)}
}

func (m *model) dec() api.Dec {
	return api.Dec{Low: uint32(m.low), High: uint32(m.high), Code: uint32(m.code), In: pack(m.in), At: m.at}
}

// edges are intervals that need no widening, but nearly do.
func edges() [][2]int {
	const quarter, half, last32 = 1 << 30, 1 << 31, 1<<32 - 1
	return [][2]int{
		{0, last32},
		{0, half},
		{half - 1, last32},
		{quarter - 1, half},
		{quarter - 1, half + quarter - 1},
		{quarter, half + quarter},
		{half - 1, half + quarter},
		{1, last32 - 1},
		{quarter, last32},
		{0, half + quarter - 1},
	}
}

// intervals are the edges, and some others that need no widening.
func intervals(n int) [][2]int {
	d := dice(2)
	l := edges()
	for len(l) < n {
		low, high := d.below(1<<31), 1<<31+d.below(1<<31)
		if low < 1<<30 || high >= 1<<31+1<<30 {
			l = append(l, [2]int{low, high})
		}
	}
	return l
}

// wide are intervals that need widening, or in which Low is not below High.
func wide() [][2]uint32 {
	const quarter, half, last32 = 1 << 30, 1 << 31, 1<<32 - 1
	return [][2]uint32{
		{0, 0},
		{0, half - 1},
		{half, last32},
		{quarter, half + quarter - 1},
		{quarter, half},
		{half - 1, half + quarter - 1},
		{half - 1, half},
		{last32, last32},
		{half, half},
		{half - 1, half - 1},
		{last32, 0},
		{half, half - 1},
		{half, 0},
		{half + quarter, quarter},
	}
}

func sameBits(a, b api.Bits) bool { return a.N == b.N && bytes.Equal(a.B, b.B) }

func sameEnc(a, b api.Enc) bool {
	return a.Low == b.Low && a.High == b.High && a.Wait == b.Wait && sameBits(a.Out, b.Out)
}

func sameDec(a, b api.Dec) bool {
	return a.Low == b.Low && a.High == b.High && a.Code == b.Code && a.At == b.At && sameBits(a.In, b.In)
}
