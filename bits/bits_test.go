package bits

import (
	"bytes"
	"math"
	"strings"
	"testing"

	"squelch/api"
)

// text is bits as a text of 0 and 1, told without the package's own reading.
func text(b api.Bits) string {
	var s strings.Builder
	for i := range b.N {
		s.WriteByte('0' + b.B[i/8]>>(7-i%8)&1)
	}
	return s.String()
}

// from is the bits that a text of 0 and 1 tells.
func from(s string) api.Bits {
	b := api.Bits{B: make([]byte, (len(s)+7)/8), N: len(s)}
	for i, c := range s {
		if c == '1' {
			b.B[i/8] |= 128 >> (i % 8)
		}
	}
	return b
}

// full is n bits, all of them 1.
func full(n int) api.Bits { return from(strings.Repeat("1", n)) }

// wrong are bits that may not be.
func wrong() map[string]api.Bits {
	return map[string]api.Bits{
		"a number below 0":             {N: -1},
		"the least number":             {N: math.MinInt},
		"a number below 0, with bytes": {B: []byte{0}, N: -1},
		"no byte for a bit":            {N: 1},
		"a byte for no bit":            {B: []byte{0}},
		"a byte too few":               {B: []byte{0}, N: 9},
		"a byte too many":              {B: []byte{0, 0}, N: 8},
		"the last spare bit is 1":      {B: []byte{1}, N: 7},
		"the first spare bit is 1":     {B: []byte{0, 64}, N: 9},
		"one bit above MaxBits":        {B: make([]byte, api.MaxBits/8+1), N: api.MaxBits + 1},
		"eight bits above MaxBits":     {B: make([]byte, api.MaxBits/8+1), N: api.MaxBits + 8},
		"the greatest number":          {B: []byte{0}, N: math.MaxInt},
	}
}

// isZero tells whether b is what stands beside an error.
func isZero(b api.Bits) bool { return len(b.B) == 0 && b.N == 0 }

// wantBits holds an answer of bits against a text, and against what bits may be.
func wantBits(t *testing.T, what string, b api.Bits, e api.Errno, want string) {
	t.Helper()
	if e != api.OK || text(b) != want || Check(b) != api.OK {
		t.Errorf("%s: got %s, %d; want %s", what, text(b), e, want)
	}
}

// wantNoBits holds an answer against an error.
func wantNoBits(t *testing.T, what string, b api.Bits, e, want api.Errno) {
	t.Helper()
	if e != want || !isZero(b) {
		t.Errorf("%s: got %d bits, %d; want none, %d", what, b.N, e, want)
	}
}

// dice are numbers that are the same in each run.
type dice uint64

func (d *dice) next() uint64 {
	*d = *d*6364136223846793005 + 1442695040888963407
	x := uint64(*d)
	return x ^ x>>29
}

func (d *dice) below(n int) int { return int((d.next() >> 16) % uint64(n)) }

// text is n bits as a text.
func (d *dice) text(n int) string {
	s := make([]byte, n)
	for i := range s {
		s[i] = '0' + byte(d.next()>>20&1)
	}
	return string(s)
}

// P1.1

func TestCheck(t *testing.T) {
	for what, b := range wrong() {
		if e := Check(b); e != api.ErrArg {
			t.Errorf("%s: got %d", what, e)
		}
	}
	for n := range 40 {
		if e := Check(full(n)); e != api.OK {
			t.Errorf("%d bits: got %d", n, e)
		}
	}
	for n := 1; n < 40; n++ {
		for spare := n; spare%8 != 0; spare++ {
			b := full(n)
			b.B[spare/8] |= 128 >> (spare % 8)
			if e := Check(b); e != api.ErrArg {
				t.Errorf("%d bits, and a 1 at %d: got %d", n, spare, e)
			}
		}
	}
	for _, b := range []api.Bits{{}, {B: []byte{}}, full(api.MaxBits), full(api.MaxBits - 1)} {
		if e := Check(b); e != api.OK {
			t.Errorf("%d bits: got %d", b.N, e)
		}
	}
}

func TestOf(t *testing.T) {
	for _, l := range [][]byte{nil, {}, {0}, {0xa5}, {0xff, 0, 0x81}, make([]byte, api.MaxBits/8)} {
		b := Of(l)
		if !bytes.Equal(b.B, l) || b.N != 8*len(l) || Check(b) != api.OK {
			t.Errorf("%d bytes: got %d bits, %v", len(l), b.N, b.B)
		}
	}
	for _, n := range []int{api.MaxBits/8 + 1, api.MaxBits, api.MaxBits + 1} {
		if b := Of(make([]byte, n)); !isZero(b) {
			t.Errorf("%d bytes: got %d bits", n, b.N)
		}
	}
}

func TestPut(t *testing.T) {
	for _, x := range []struct {
		ahead string
		v     uint64
		width int
		want  string
	}{
		{"", 0, 0, ""},
		{"101", 0, 0, "101"},
		{"", 5, 4, "0101"},
		{"", 0, 1, "0"},
		{"", 1, 1, "1"},
		{"1111111", 1, 1, "11111111"},
		{"11111111", 1, 1, "111111111"},
		{"1", 0x80, 8, "110000000"},
		{"1111111", 0, 9, "1111111000000000"},
		{"", math.MaxUint64, 64, strings.Repeat("1", 64)},
		{"010", math.MaxUint64, 64, "010" + strings.Repeat("1", 64)},
		{"0", 1 << 63, 64, "01" + strings.Repeat("0", 63)},
		{"0", 1, 64, "0" + strings.Repeat("0", 63) + "1"},
		{"11", 1<<63 - 1, 63, "11" + strings.Repeat("1", 63)},
	} {
		b, e := Put(from(x.ahead), x.v, x.width)
		wantBits(t, x.ahead, b, e, x.want)
	}
}

func TestPutEveryWidthAndPlace(t *testing.T) {
	d := dice(1)
	for width := range 65 {
		for ahead := range 18 {
			a, n := d.text(ahead), d.text(width)
			v := uint64(0)
			for _, c := range n {
				v = 2*v + uint64(c-'0')
			}
			b, e := Put(from(a), v, width)
			wantBits(t, a, b, e, a+n)
		}
	}
}

func TestPutWrong(t *testing.T) {
	for what, b := range wrong() {
		for _, width := range []int{0, 1, 64, 65, -1} {
			y, e := Put(b, 0, width)
			wantNoBits(t, what, y, e, api.ErrArg)
		}
	}
	for _, x := range []struct {
		v     uint64
		width int
	}{{0, -1}, {0, 65}, {0, math.MinInt}, {0, math.MaxInt}, {1, 0}, {2, 1}, {4, 2}, {1 << 63, 63}, {math.MaxUint64, 63}, {math.MaxUint64, 0}, {256, 8}} {
		// The argument's error is ahead of the length's.
		for _, n := range []int{0, 3, api.MaxBits} {
			y, e := Put(full(n), x.v, x.width)
			wantNoBits(t, "a number that has more bits, or no width", y, e, api.ErrArg)
		}
	}
}

func TestPutLong(t *testing.T) {
	for _, x := range []struct {
		n, width int
		want     api.Errno
	}{{api.MaxBits, 0, api.OK}, {api.MaxBits, 1, api.ErrLong}, {api.MaxBits - 1, 1, api.OK}, {api.MaxBits - 1, 2, api.ErrLong}, {api.MaxBits - 64, 64, api.OK}, {api.MaxBits - 63, 64, api.ErrLong}, {api.MaxBits, 64, api.ErrLong}} {
		b := full(x.n)
		y, e := Put(b, 0, x.width)
		if x.want != api.OK {
			wantNoBits(t, "too long", y, e, x.want)
			continue
		}
		wantBits(t, "just as long", y, e, text(b)+strings.Repeat("0", x.width))
	}
}

func TestGet(t *testing.T) {
	s := "0101111001000011101" + strings.Repeat("1", 64) + strings.Repeat("0", 63) + "1"
	for _, x := range []struct {
		at, width int
		want      uint64
	}{{0, 0, 0}, {7, 0, 0}, {len(s), 0, 0}, {0, 4, 5}, {1, 5, 0b10111}, {0, 8, 0b01011110}, {7, 3, 0b001}, {7, 9, 0b001000011}, {19, 64, math.MaxUint64}, {18, 64, math.MaxUint64}, {83, 64, 1}, {82, 64, 1 << 63}, {len(s) - 1, 1, 1}} {
		if v, e := Get(from(s), x.at, x.width); v != x.want || e != api.OK {
			t.Errorf("%d bits from %d on: got %d, %d; want %d", x.width, x.at, v, e, x.want)
		}
	}
	last := from(strings.Repeat("0", api.MaxBits-1) + "1")
	if v, e := Get(last, api.MaxBits-64, 64); v != 1 || e != api.OK {
		t.Errorf("the last bits: got %d, %d", v, e)
	}
}

func TestGetWrong(t *testing.T) {
	for what, b := range wrong() {
		for _, at := range []int{-1, 0, math.MaxInt} {
			for _, width := range []int{-1, 0, 1, 64, 65} {
				if v, e := Get(b, at, width); v != 0 || e != api.ErrArg {
					t.Errorf("%s: got %d, %d", what, v, e)
				}
			}
		}
	}
	for _, x := range []struct {
		at, width int
		want      api.Errno
	}{
		{-1, 0, api.ErrArg}, {-1, 1, api.ErrArg}, {math.MinInt, 64, api.ErrArg}, {-1, 65, api.ErrArg},
		{0, -1, api.ErrArg}, {0, 65, api.ErrArg}, {0, math.MinInt, api.ErrArg}, {0, math.MaxInt, api.ErrArg},
		{10, 65, api.ErrArg}, {10, -1, api.ErrArg}, {math.MaxInt, math.MaxInt, api.ErrArg}, {-1, 11, api.ErrArg},
		{0, 11, api.ErrShort}, {9, 2, api.ErrShort}, {10, 1, api.ErrShort}, {11, 1, api.ErrShort}, {0, 64, api.ErrShort},
		{11, 0, api.ErrShort}, {math.MaxInt, 0, api.ErrShort}, {math.MaxInt, 1, api.ErrShort}, {math.MaxInt, 64, api.ErrShort}, {math.MaxInt - 63, 64, api.ErrShort},
	} {
		if v, e := Get(full(10), x.at, x.width); v != 0 || e != x.want {
			t.Errorf("%d bits from %d on: got %d, %d; want %d", x.width, x.at, v, e, x.want)
		}
	}
	if v, e := Get(api.Bits{}, 0, 1); v != 0 || e != api.ErrShort {
		t.Errorf("of no bits: got %d, %d", v, e)
	}
}

// P1.2

// code is a number's code, as the words tell it.
func code(v uint64) string {
	s := ""
	for n := v + 1; n > 0; n /= 2 {
		s = string(rune('0'+n%2)) + s
	}
	return strings.Repeat("0", len(s)-1) + s
}

// coded are numbers that have a code: small ones, and those around each power of two.
func coded() []uint64 {
	var l []uint64
	for v := range uint64(40) {
		l = append(l, v)
	}
	for k := 6; k <= 32; k++ {
		l = append(l, 1<<k-2, 1<<k-1, 1<<k)
	}
	return l[:len(l)-1] // 2^32 has none
}

func TestPutCode(t *testing.T) {
	for v, want := range map[uint64]string{0: "1", 1: "010", 2: "011", 3: "00100", 4: "00101", 7: "0001000", 1<<32 - 2: strings.Repeat("0", 31) + strings.Repeat("1", 32), 1<<32 - 1: strings.Repeat("0", 32) + "1" + strings.Repeat("0", 32)} {
		b, e := PutCode(api.Bits{}, v)
		wantBits(t, "a code", b, e, want)
	}
	for _, v := range coded() {
		for _, ahead := range []string{"", "1", "0110101", "11111111", "000000001"} {
			b, e := PutCode(from(ahead), v)
			wantBits(t, ahead, b, e, ahead+code(v))
		}
	}
}

func TestPutCodeWrong(t *testing.T) {
	for what, b := range wrong() {
		for _, v := range []uint64{0, 1 << 32} {
			y, e := PutCode(b, v)
			wantNoBits(t, what, y, e, api.ErrArg)
		}
	}
	for _, n := range []int{0, api.MaxBits} {
		for _, v := range []uint64{1 << 32, 1<<32 + 1, 1 << 63, math.MaxUint64 - 1, math.MaxUint64} {
			y, e := PutCode(full(n), v)
			wantNoBits(t, "above 2^32 - 1", y, e, api.ErrArg)
		}
	}
	for _, v := range []uint64{0, 1, 4, 1<<32 - 1} {
		long := len(code(v))
		y, e := PutCode(full(api.MaxBits-long), v)
		wantBits(t, "just as long", y, e, strings.Repeat("1", api.MaxBits-long)+code(v))
		for _, n := range []int{api.MaxBits - long + 1, api.MaxBits} {
			y, e = PutCode(full(n), v)
			wantNoBits(t, "too long", y, e, api.ErrLong)
		}
	}
}

func TestGetCode(t *testing.T) {
	for _, v := range coded() {
		for _, ahead := range []string{"", "1", "0110101", "00000000", "000000001"} {
			for _, behind := range []string{"", "0", "1", "0000000000", "1111111111"} {
				b := from(ahead + code(v) + behind)
				next := len(ahead) + len(code(v))
				if w, n, e := GetCode(b, len(ahead)); w != v || n != next || e != api.OK {
					t.Errorf("%d: got %d, %d, %d", v, w, n, e)
				}
			}
		}
	}
}

func TestGetCodeWrong(t *testing.T) {
	for what, b := range wrong() {
		for _, at := range []int{-1, 0, math.MaxInt} {
			if v, n, e := GetCode(b, at); v != 0 || n != 0 || e != api.ErrArg {
				t.Errorf("%s: got %d, %d, %d", what, v, n, e)
			}
		}
	}
	zeros := func(n int) string { return strings.Repeat("0", n) }
	ones := func(n int) string { return strings.Repeat("1", n) }
	for _, x := range []struct {
		s    string
		at   int
		want api.Errno
	}{
		{"1", -1, api.ErrArg}, {zeros(33), -1, api.ErrArg}, {"", -1, api.ErrArg}, {"1", math.MinInt, api.ErrArg},
		{zeros(33), 0, api.ErrForm}, {zeros(34), 0, api.ErrForm}, {zeros(34), 1, api.ErrForm}, {zeros(100), 60, api.ErrForm},
		{zeros(33) + ones(40), 0, api.ErrForm}, {"1" + zeros(33), 1, api.ErrForm}, {zeros(33) + "1", 0, api.ErrForm},
		{zeros(32), 0, api.ErrShort}, {zeros(33), 1, api.ErrShort}, {zeros(33), 32, api.ErrShort},
		{"", 0, api.ErrShort}, {"1", 1, api.ErrShort}, {"1", 2, api.ErrShort}, {"1", math.MaxInt, api.ErrShort}, {ones(16), 17, api.ErrShort}, {"0", 1, api.ErrShort},
		{"0", 0, api.ErrShort}, {"01", 0, api.ErrShort}, {"0010", 0, api.ErrShort}, {"1110010", 3, api.ErrShort},
		{zeros(32) + "1", 0, api.ErrShort}, {zeros(32) + "1" + zeros(31), 0, api.ErrShort}, {zeros(32) + ones(32), 0, api.ErrShort},
		{zeros(32) + "1" + zeros(31) + "1", 0, api.ErrForm}, {zeros(32) + "11" + zeros(31), 0, api.ErrForm}, {zeros(32) + ones(33), 0, api.ErrForm}, {"1" + zeros(32) + ones(43), 1, api.ErrForm},
	} {
		if v, n, e := GetCode(from(x.s), x.at); v != 0 || n != 0 || e != x.want {
			t.Errorf("%s from %d on: got %d, %d, %d; want %d", x.s, x.at, v, n, e, x.want)
		}
	}
}

// signed are signed numbers with the numbers whose codes theirs are.
func signed() map[int]uint64 {
	return map[int]uint64{0: 0, -1: 1, 1: 2, -2: 3, 2: 4, -3: 5, 3: 6, 100: 200, -100: 199, 1<<30 - 1: 1<<31 - 2, -(1<<30 - 1): 1<<31 - 3, -(1 << 30): 1<<31 - 1, 1 << 30: 1 << 31}
}

func TestPutSigned(t *testing.T) {
	for v, c := range signed() {
		for _, ahead := range []string{"", "1", "0110101", "11111111"} {
			b, e := PutSigned(from(ahead), v)
			wantBits(t, ahead, b, e, ahead+code(c))
		}
	}
	for what, b := range wrong() {
		for _, v := range []int{0, 1<<30 + 1} {
			y, e := PutSigned(b, v)
			wantNoBits(t, what, y, e, api.ErrArg)
		}
	}
	for _, n := range []int{0, api.MaxBits} {
		for _, v := range []int{1<<30 + 1, -(1 << 30) - 1, 1 << 31, -(1 << 31), 1 << 62, math.MaxInt, math.MinInt, math.MinInt + 1} {
			y, e := PutSigned(full(n), v)
			wantNoBits(t, "no signed number", y, e, api.ErrArg)
		}
	}
	for v, c := range signed() {
		n := api.MaxBits - len(code(c))
		y, e := PutSigned(full(n), v)
		wantBits(t, "just as long", y, e, strings.Repeat("1", n)+code(c))
		y, e = PutSigned(full(n+1), v)
		wantNoBits(t, "too long", y, e, api.ErrLong)
	}
}

func TestGetSigned(t *testing.T) {
	for v, c := range signed() {
		for _, ahead := range []string{"", "1", "0110101", "00000000"} {
			b := from(ahead + code(c) + "0101")
			if w, n, e := GetSigned(b, len(ahead)); w != v || n != len(ahead+code(c)) || e != api.OK {
				t.Errorf("%d: got %d, %d, %d", v, w, n, e)
			}
		}
	}
	for _, c := range []uint64{1<<31 + 1, 1<<31 + 2, 1<<32 - 2, 1<<32 - 1} {
		if v, n, e := GetSigned(from(code(c)), 0); v != 0 || n != 0 || e != api.ErrForm {
			t.Errorf("%d is no signed number's: got %d, %d, %d", c, v, n, e)
		}
	}
}

func TestGetSignedHasGetCodesError(t *testing.T) {
	for what, b := range wrong() {
		if v, n, e := GetSigned(b, 0); v != 0 || n != 0 || e != api.ErrArg {
			t.Errorf("%s: got %d, %d, %d", what, v, n, e)
		}
	}
	for _, x := range []struct {
		s    string
		at   int
		want api.Errno
	}{{"1", -1, api.ErrArg}, {"", 0, api.ErrShort}, {"1", math.MaxInt, api.ErrShort}, {"001", 0, api.ErrShort}, {code(1<<32 - 1)[:64], 0, api.ErrShort}, {strings.Repeat("0", 33), 0, api.ErrForm}, {strings.Repeat("0", 32) + strings.Repeat("1", 33), 0, api.ErrForm}} {
		if v, n, e := GetSigned(from(x.s), x.at); v != 0 || n != 0 || e != x.want {
			t.Errorf("%s from %d on: got %d, %d, %d; want %d", x.s, x.at, v, n, e, x.want)
		}
	}
}

// P1.3

func TestJoin(t *testing.T) {
	none, e := Join()
	wantBits(t, "nothing", none, e, "")
	d := dice(3)
	for range 500 {
		var l []api.Bits
		want := ""
		for range d.below(6) {
			s := d.text(d.below(30))
			l = append(l, from(s))
			want += s
		}
		b, e := Join(l...)
		wantBits(t, "several", b, e, want)
	}
	for first := range 18 {
		for second := range 18 {
			b, e := Join(full(first), api.Bits{}, full(second))
			wantBits(t, "ones", b, e, strings.Repeat("1", first+second))
		}
	}
}

func TestJoinLong(t *testing.T) {
	for _, ns := range [][]int{{api.MaxBits}, {0, api.MaxBits, 0}, {api.MaxBits - 1, 1}, {1, api.MaxBits - 1}, {3, api.MaxBits - 8, 5}} {
		var l []api.Bits
		for _, n := range ns {
			l = append(l, full(n))
		}
		b, e := Join(l...)
		wantBits(t, "just as long", b, e, strings.Repeat("1", api.MaxBits))
		b, e = Join(append(l, full(1))...)
		wantNoBits(t, "too long", b, e, api.ErrLong)
		b, e = Join(append(l, full(api.MaxBits))...)
		wantNoBits(t, "too long", b, e, api.ErrLong)
	}
}

func TestJoinWrong(t *testing.T) {
	for what, b := range wrong() {
		whole := full(api.MaxBits)
		for _, l := range [][]api.Bits{{b}, {b, full(1)}, {full(1), b}, {full(1), b, full(2)}, {whole, whole, b}, {b, whole, whole}} {
			y, e := Join(l...)
			wantNoBits(t, what, y, e, api.ErrArg)
		}
	}
}

// P1.4

func TestWhatWasPutIsGot(t *testing.T) {
	d := dice(4)
	for range 5000 {
		ahead, behind := d.text(d.below(20)), d.text(d.below(20))
		width := d.below(65)
		v := d.next() >> (64 - width)
		b, _ := Put(from(ahead), v, width)
		b, _ = Join(b, from(behind))
		if w, e := Get(b, len(ahead), width); w != v || e != api.OK {
			t.Fatalf("%d in %d bits behind %s: got %d, %d", v, width, ahead, w, e)
		}
		v = d.next() >> (32 + d.below(33))
		b, _ = PutCode(from(ahead), v)
		end := b.N
		b, _ = Join(b, from(behind))
		if w, n, e := GetCode(b, len(ahead)); w != v || n != end || e != api.OK {
			t.Fatalf("the code of %d behind %s: got %d, %d, %d", v, ahead, w, n, e)
		}
		s := d.below(1<<30+1) >> d.below(31)
		if d.below(2) == 1 {
			s = -s
		}
		b, _ = PutSigned(from(ahead), s)
		end = b.N
		b, _ = Join(b, from(behind))
		if w, n, e := GetSigned(b, len(ahead)); w != s || n != end || e != api.OK {
			t.Fatalf("the signed code of %d behind %s: got %d, %d, %d", s, ahead, w, n, e)
		}
	}
}

func TestCodesOneBehindTheOther(t *testing.T) {
	var b api.Bits
	for _, v := range coded() {
		b, _ = PutCode(b, v)
	}
	at := 0
	for _, want := range coded() {
		v, n, e := GetCode(b, at)
		if v != want || e != api.OK {
			t.Fatalf("got %d, %d; want %d", v, e, want)
		}
		at = n
	}
	if at != b.N {
		t.Errorf("ended at %d of %d", at, b.N)
	}
}

func TestCodesOfGreaterNumbersAreNoShorter(t *testing.T) {
	long := 0
	for _, v := range coded() {
		b, _ := PutCode(api.Bits{}, v)
		if b.N < long {
			t.Errorf("%d: %d bits behind %d", v, b.N, long)
		}
		long = b.N
	}
}

func TestNoCodeIsAnotherOnesBeginning(t *testing.T) {
	var l []string
	for _, v := range coded() {
		b, _ := PutCode(api.Bits{}, v)
		l = append(l, text(b))
	}
	for i, a := range l {
		for j, b := range l {
			if i != j && strings.HasPrefix(b, a) {
				t.Errorf("%s begins %s", a, b)
			}
		}
	}
}

// The rules that hold everywhere

func TestNothingIsShared(t *testing.T) {
	given := Of([]byte{0x0f, 0xf0})
	kept := Of([]byte{0x0f, 0xf0})
	for what, f := range map[string]func() api.Bits{
		"Put":               func() api.Bits { b, _ := Put(given, 5, 4); return b },
		"Put of no bit":     func() api.Bits { b, _ := Put(given, 0, 0); return b },
		"PutCode":           func() api.Bits { b, _ := PutCode(given, 4); return b },
		"PutSigned":         func() api.Bits { b, _ := PutSigned(given, -4); return b },
		"Join of one":       func() api.Bits { b, _ := Join(given); return b },
		"Join of it twice":  func() api.Bits { b, _ := Join(given, given); return b },
		"Join with nothing": func() api.Bits { b, _ := Join(api.Bits{}, given, api.Bits{}); return b },
		"Of":                func() api.Bits { return Of(given.B) },
	} {
		b := f()
		was := text(b)
		if other := f(); text(other) != was {
			t.Errorf("%s: asked again got %s, ahead %s", what, text(other), was)
		}
		for i := range b.B {
			b.B[i] = 0x33
		}
		if text(given) != text(kept) {
			t.Fatalf("%s: writing into the answer changes what was handed in", what)
		}
		b = f()
		given.B[0], given.B[1] = 0, 0
		if text(b) != was {
			t.Errorf("%s: writing into what was handed in changes the answer", what)
		}
		copy(given.B, kept.B)
	}
}

func TestSpareRoomIsLeftAlone(t *testing.T) {
	room := []byte{0xf0, 0xaa, 0xaa}
	b := api.Bits{B: room[:1], N: 4}
	for _, f := range []func(){func() { Put(b, 1<<20-1, 20) }, func() { PutCode(b, 1000) }, func() { PutSigned(b, 1000) }, func() { Join(b, full(20)) }, func() { Get(b, 0, 4) }, func() { GetCode(b, 0) }} {
		f()
		if !bytes.Equal(room, []byte{0xf0, 0xaa, 0xaa}) {
			t.Fatalf("what was handed in is now %v", room)
		}
	}
}
