package crc

import (
	"bytes"
	"math"
	"sync"
	"testing"

	"squelch/api"
)

// slowStep is the chapter's words, bit by bit, without a table.
func slowStep(c uint32, x byte) uint32 {
	c ^= uint32(x)
	for range 8 {
		if c%2 == 1 {
			c = c/2 ^ 0xedb88320
		} else {
			c /= 2
		}
	}
	return c
}

func slowSum(b []byte) uint32 {
	c := uint32(0xffffffff)
	for _, x := range b {
		c = slowStep(c, x)
	}
	return ^c
}

// slowFrame is b's frame, told without the package's own writing.
func slowFrame(b []byte) []byte {
	s := slowSum(b)
	return append(bytes.Clone(b), byte(s), byte(s>>8), byte(s>>16), byte(s>>24))
}

// dice are numbers that are the same in each run.
type dice uint64

func (d *dice) next() uint64 {
	*d = *d*6364136223846793005 + 1442695040888963407
	x := uint64(*d)
	return x ^ x>>29
}

func (d *dice) below(n int) int { return int((d.next() >> 16) % uint64(n)) }

func (d *dice) bytes(n int) []byte {
	b := make([]byte, n)
	for i := range b {
		b[i] = byte(d.next() >> 20)
	}
	return b
}

// turn is b with the bits of pattern turned from the bit at on, each byte's lowest first.
func turn(b []byte, at int, pattern uint32) []byte {
	b = bytes.Clone(b)
	for i := range 32 {
		if pattern>>i&1 == 1 {
			b[(at+i)/8] ^= 1 << ((at + i) % 8)
		}
	}
	return b
}

// wantBytes holds an answer against bytes.
func wantBytes(t *testing.T, what string, b []byte, e api.Errno, want []byte) {
	t.Helper()
	if e != api.OK || !bytes.Equal(b, want) {
		t.Errorf("%s: got %d bytes, %d; want %d bytes", what, len(b), e, len(want))
	}
}

// wantError holds an answer against an error.
func wantError(t *testing.T, what string, b []byte, e, want api.Errno) {
	t.Helper()
	if e != want || len(b) != 0 {
		t.Errorf("%s: got %d bytes, %d; want none, %d", what, len(b), e, want)
	}
}

// known are bytes and their sums, as other programs tell them.
func known() map[string]uint32 {
	return map[string]uint32{
		"":                 0,
		"\x00":             0xd202ef8d,
		"\xff":             0xff000000,
		"\x00\x00\x00\x00": 0x2144df1c,
		"\xff\xff\xff\xff": 0xffffffff,
		"a":                0xe8b7be43,
		"abc":              0x352441c2,
		"123456789":        0xcbf43926,
		"The quick brown fox jumps over the lazy dog": 0x414fa339,
	}
}

// P2.1

func TestStepOfEveryByte(t *testing.T) {
	d := dice(1)
	registers := []uint32{0, 1, 0x80, 0xff, 0x100, 0x80000000, 0x7fffffff, 0xedb88320, 0xfffffffe, 0xffffffff}
	for range 200 {
		registers = append(registers, uint32(d.next()))
	}
	for _, c := range registers {
		for x := range 256 {
			if got, want := Step(c, byte(x)), slowStep(c, byte(x)); got != want {
				t.Fatalf("%08x behind %02x: got %08x; want %08x", c, x, got, want)
			}
		}
	}
}

func TestStepOfEveryLowestByte(t *testing.T) {
	for c := range uint32(1 << 16) {
		if got, want := Step(c*0x10001, byte(c>>5)), slowStep(c*0x10001, byte(c>>5)); got != want {
			t.Fatalf("%08x: got %08x; want %08x", c, got, want)
		}
	}
}

func TestStepByStepIsTheSum(t *testing.T) {
	for s, want := range known() {
		c := uint32(0xffffffff)
		for _, x := range []byte(s) {
			c = Step(c, x)
		}
		if ^c != want {
			t.Errorf("%q: got %08x; want %08x", s, ^c, want)
		}
	}
}

func TestSum(t *testing.T) {
	for s, want := range known() {
		if got := Sum([]byte(s)); got != want {
			t.Errorf("%q: got %08x; want %08x", s, got, want)
		}
	}
	d := dice(2)
	for _, n := range []int{1, 2, 3, 4, 5, 31, 32, 33, 255, 256, 257, 65535, 65536, 65537, 200000} {
		b := d.bytes(n)
		if got, want := Sum(b), slowSum(b); got != want {
			t.Errorf("%d bytes: got %08x; want %08x", n, got, want)
		}
	}
}

func TestSumOfNothing(t *testing.T) {
	for what, got := range map[string]uint32{"no list": Sum(), "nil": Sum(nil), "empty": Sum([]byte{}), "several": Sum(nil, []byte{}, nil)} {
		if got != 0 {
			t.Errorf("%s: got %08x", what, got)
		}
	}
}

func TestSumOfPieces(t *testing.T) {
	for s, want := range known() {
		b := []byte(s)
		var each [][]byte
		for i := range b {
			each = append(each, b[i:i+1], nil)
			if got := Sum(b[:i], b[i:]); got != want {
				t.Errorf("%q cut at %d: got %08x; want %08x", s, i, got, want)
			}
			if got := Sum(nil, b[:i], []byte{}, b[i:], nil); got != want {
				t.Errorf("%q cut at %d, with nothing between: got %08x; want %08x", s, i, got, want)
			}
		}
		if got := Sum(each...); got != want {
			t.Errorf("%q byte by byte: got %08x; want %08x", s, got, want)
		}
	}
	if a, b := Sum([]byte("ab"), []byte("cd")), Sum([]byte("cd"), []byte("ab")); a == b {
		t.Errorf("the pieces' order does not matter: %08x", a)
	}
}

// P2.2

func TestSeal(t *testing.T) {
	f, e := Seal([]byte("123456789"))
	wantBytes(t, "123456789", f, e, []byte("123456789\x26\x39\xf4\xcb"))
	d := dice(3)
	for _, n := range []int{0, 1, 2, 3, 4, 5, 8, 64, 200, 65535, 65536} {
		b := d.bytes(n)
		f, e := Seal(b)
		wantBytes(t, "bytes", f, e, slowFrame(b))
	}
	f, e = Seal(nil)
	wantBytes(t, "nil", f, e, []byte{0, 0, 0, 0})
}

func TestSealLong(t *testing.T) {
	for _, n := range []int{65537, 65540, 65541, 1 << 17, 1 << 20} {
		f, e := Seal(make([]byte, n))
		wantError(t, "too many bytes", f, e, api.ErrLong)
	}
}

func TestOpen(t *testing.T) {
	b, e := Open([]byte{0, 0, 0, 0})
	wantBytes(t, "the frame of nothing", b, e, nil)
	b, e = Open([]byte("123456789\x26\x39\xf4\xcb"))
	wantBytes(t, "123456789", b, e, []byte("123456789"))
	d := dice(4)
	for _, n := range []int{1, 2, 3, 4, 5, 8, 64, 200, 65535, 65536} {
		want := d.bytes(n)
		b, e := Open(slowFrame(want))
		wantBytes(t, "a frame", b, e, want)
	}
}

func TestOpenShort(t *testing.T) {
	for _, f := range [][]byte{nil, {}, {0}, {0, 0}, {0, 0, 0}, {1, 2, 3}} {
		b, e := Open(f)
		wantError(t, "too few bytes", b, e, api.ErrShort)
	}
}

func TestOpenLong(t *testing.T) {
	d := dice(5)
	for _, n := range []int{65537, 65538, 1 << 17} {
		// The sum is right in the one, and wrong in the other: the length's error is ahead of it.
		f := slowFrame(d.bytes(n))
		b, e := Open(f)
		wantError(t, "too many bytes", b, e, api.ErrLong)
		b, e = Open(turn(f, 8*n, 1))
		wantError(t, "too many bytes, and another sum", b, e, api.ErrLong)
	}
	f := slowFrame(d.bytes(65536))
	b, e := Open(turn(f, 8*65536, 1))
	wantError(t, "65540 bytes, and another sum", b, e, api.ErrSum)
}

func TestOpenOfNoFrame(t *testing.T) {
	for what, f := range map[string][]byte{
		"another sum of nothing":       {0, 0, 0, 1},
		"all ones":                     {0xff, 0xff, 0xff, 0xfe},
		"the sum's highest byte first": []byte("123456789\xcb\xf4\x39\x26"),
		"the sum not turned over":      []byte("123456789\xd9\xc6\x0b\x34"),
		"the sum ahead":                []byte("\x26\x39\xf4\xcb123456789"),
		"a byte behind the sum":        []byte("123456789\x26\x39\xf4\xcb\x00"),
		"a byte ahead":                 []byte("\x00123456789\x26\x39\xf4\xcb"),
		"the first byte missing":       []byte("23456789\x26\x39\xf4\xcb"),
		"the sum's last byte missing":  []byte("123456789\x26\x39\xf4"),
		"two bytes in another order":   []byte("213456789\x26\x39\xf4\xcb"),
	} {
		b, e := Open(f)
		wantError(t, what, b, e, api.ErrSum)
	}
}

func TestPatch(t *testing.T) {
	p, e := Patch([]byte("123456789\x26\x39\xf4\xcb"), 2, 'x')
	wantBytes(t, "123456789", p, e, slowFrame([]byte("12x456789")))
	d := dice(6)
	for _, n := range []int{1, 2, 9, 64} {
		b := d.bytes(n)
		for at := range n {
			for _, x := range []byte{0, 0xff, b[at], byte(d.next() >> 20)} {
				want := bytes.Clone(b)
				want[at] = x
				p, e := Patch(slowFrame(b), at, x)
				wantBytes(t, "a frame", p, e, slowFrame(want))
			}
		}
	}
	b := d.bytes(65536)
	for _, at := range []int{0, 1, 40000, 65535} {
		want := bytes.Clone(b)
		want[at] ^= 0x5a
		p, e := Patch(slowFrame(b), at, want[at])
		wantBytes(t, "the longest frame", p, e, slowFrame(want))
	}
}

func TestPatchAtNoPlace(t *testing.T) {
	d := dice(7)
	for _, n := range []int{0, 1, 9, 65536} {
		f := slowFrame(d.bytes(n))
		// From n on it is the sum that stands there.
		for _, at := range []int{-1, n, n + 1, n + 3, n + 4, n + 5, math.MinInt, math.MaxInt, -n - 1} {
			p, e := Patch(f, at, 0)
			wantError(t, "a place that is not there", p, e, api.ErrArg)
		}
	}
}

func TestPatchTellsOpensErrorFirst(t *testing.T) {
	long := slowFrame(make([]byte, 65537))
	for _, at := range []int{0, -1, 2, 9, 70000, math.MinInt, math.MaxInt} {
		for _, short := range [][]byte{nil, {0}, {0, 0, 0}} {
			p, e := Patch(short, at, 0)
			wantError(t, "too few bytes", p, e, api.ErrShort)
		}
		p, e := Patch(long, at, 0)
		wantError(t, "too many bytes", p, e, api.ErrLong)
		p, e = Patch(turn(long, 0, 1), at, 0)
		wantError(t, "too many bytes, and another sum", p, e, api.ErrLong)
		for i := range 8 * 13 {
			p, e := Patch(turn([]byte("123456789\x26\x39\xf4\xcb"), i, 1), at, 0)
			wantError(t, "another sum", p, e, api.ErrSum)
		}
	}
	// What would set it right again is no reason to take it.
	p, e := Patch([]byte("12x456789\x26\x39\xf4\xcb"), 2, '3')
	wantError(t, "another sum", p, e, api.ErrSum)
}

// P2.3

func TestWhatWasSealedIsOpened(t *testing.T) {
	d := dice(8)
	for n := range 300 {
		want := d.bytes(n)
		f, e := Seal(want)
		if e != api.OK || len(f) != n+4 {
			t.Fatalf("%d bytes: got %d, %d", n, len(f), e)
		}
		b, e := Open(f)
		wantBytes(t, "sealed", b, e, want)
		// A frame is bytes like others.
		g, _ := Seal(f)
		b, e = Open(g)
		wantBytes(t, "sealed twice", b, e, f)
	}
	for _, want := range [][]byte{make([]byte, 65536), bytes.Repeat([]byte{0xff}, 65536), d.bytes(65536)} {
		f, e := Seal(want)
		if e != api.OK || len(f) != 65540 {
			t.Fatalf("65536 bytes: got %d, %d", len(f), e)
		}
		b, e := Open(f)
		wantBytes(t, "65536 bytes sealed", b, e, want)
	}
}

// wantTurned holds the frame with its bits turned against ErrSum.
func wantTurned(t *testing.T, f []byte, at int, pattern uint32) {
	t.Helper()
	if b, e := Open(turn(f, at, pattern)); len(b) != 0 || e != api.ErrSum {
		t.Fatalf("%d bytes, %b turned from %d on: got %d bytes, %d", len(f), pattern, at, len(b), e)
	}
}

func TestEveryShortTurnIsFound(t *testing.T) {
	d := dice(9)
	for _, n := range []int{0, 1, 5} {
		f, _ := Seal(d.bytes(n))
		for at := range 8 * len(f) {
			for pattern := uint32(1); pattern < 1<<9; pattern += 2 {
				if at+9 <= 8*len(f) || pattern == 1 {
					wantTurned(t, f, at, pattern)
				}
			}
		}
	}
}

func TestTurnsOfEveryWidthAreFound(t *testing.T) {
	d := dice(10)
	for _, n := range []int{0, 1, 2, 9, 64} {
		f, _ := Seal(d.bytes(n))
		for width := 1; width <= 32; width++ {
			ends := uint32(1) | 1<<(width-1)
			all := uint32(1<<width - 1)
			for at := range 8*len(f) - width + 1 {
				wantTurned(t, f, at, all)
				wantTurned(t, f, at, ends)
				wantTurned(t, f, at, ends|uint32(d.next())&all)
			}
		}
	}
}

func TestTurnsOfTheLongestFrameAreFound(t *testing.T) {
	d := dice(11)
	f, _ := Seal(d.bytes(65536))
	last := 8 * len(f)
	for _, at := range []int{0, 1, 8, last / 2, last - 64, last - 63, last - 48, last - 33, last - 32} {
		for _, pattern := range []uint32{1, 3, 0x80000001, 0xffffffff, 0xedb88320, 1 | uint32(d.next())} {
			wantTurned(t, f, at, pattern)
		}
	}
	wantTurned(t, f, last-1, 1)
}

func TestOneByteTurnedIsFound(t *testing.T) {
	f, _ := Seal([]byte("123456789"))
	for i := range f {
		for x := uint32(1); x < 256; x++ {
			wantTurned(t, f, 8*i, x)
		}
	}
}

// The rules that hold everywhere

func TestWhatIsHandedInStaysAsItIs(t *testing.T) {
	b := []byte("123456789")
	f := []byte("123456789\x26\x39\xf4\xcb")
	Sum(b, f)
	Seal(b)
	Open(f)
	Patch(f, 2, 'x')
	Patch(f, 9, 'x')
	if string(b) != "123456789" || string(f) != "123456789\x26\x39\xf4\xcb" {
		t.Errorf("now %q, %q", b, f)
	}
}

func TestNothingIsShared(t *testing.T) {
	for what, call := range map[string]func(b []byte) ([]byte, api.Errno){
		"Seal":                 Seal,
		"Open":                 Open,
		"Patch":                func(b []byte) ([]byte, api.Errno) { return Patch(b, 2, 'x') },
		"Patch with the same":  func(b []byte) ([]byte, api.Errno) { return Patch(b, 2, '3') },
		"Patch the last byte":  func(b []byte) ([]byte, api.Errno) { return Patch(b, 8, 'x') },
		"Patch the first byte": func(b []byte) ([]byte, api.Errno) { return Patch(b, 0, 'x') },
	} {
		given := []byte("123456789\x26\x39\xf4\xcb")
		kept := bytes.Clone(given)
		got, _ := call(given)
		was := bytes.Clone(got)
		other, _ := call(given)
		for i := range got {
			got[i] ^= 0x33
		}
		if !bytes.Equal(given, kept) || !bytes.Equal(other, was) {
			t.Errorf("%s: writing into the answer changes what was handed in, or another answer", what)
		}
		for i := range given {
			given[i] = 0
		}
		if !bytes.Equal(other, was) {
			t.Errorf("%s: writing into what was handed in changes the answer", what)
		}
	}
}

func TestSpareRoomIsLeftAlone(t *testing.T) {
	room := append([]byte("123456789\x26\x39\xf4\xcb"), 0xaa, 0xaa, 0xaa, 0xaa, 0xaa)
	kept := bytes.Clone(room)
	for _, call := range []func(){func() { Seal(room[:13]) }, func() { Seal(room[:9]) }, func() { Seal(room[:0]) }, func() { Open(room[:13]) }, func() { Patch(room[:13], 8, 0) }} {
		call()
		if !bytes.Equal(room, kept) {
			t.Fatalf("what was handed in is now %q", room)
		}
	}
}

// calls are all of the package's, each with an answer that is known.
func calls() map[string]func() bool {
	f := []byte("123456789\x26\x39\xf4\xcb")
	return map[string]func() bool{
		"Step": func() bool { return Step(0xffffffff, 'a') == 0x174841bc },
		"Sum":  func() bool { return Sum(f[:9]) == 0xcbf43926 },
		"Seal": func() bool { b, e := Seal(f[:9]); return bytes.Equal(b, f) && e == api.OK },
		"Open": func() bool { b, e := Open(f); return string(b) == "123456789" && e == api.OK },
		"Patch": func() bool {
			b, e := Patch(f, 8, 'x')
			return bytes.Equal(b, slowFrame([]byte("12345678x"))) && e == api.OK
		},
	}
}

// forget sets the table back to what it is at the start, now and behind the test.
func forget(t *testing.T) {
	clean := func() { once, table = sync.Once{}, [256]uint32{} }
	clean()
	t.Cleanup(clean)
}

func TestEachCallMayBeTheFirst(t *testing.T) {
	for what, call := range calls() {
		forget(t)
		right := make([]bool, 8)
		var all sync.WaitGroup
		for i := range right {
			all.Go(func() { right[i] = call() })
		}
		all.Wait()
		for _, ok := range right {
			if !ok {
				t.Errorf("%s: wrong as the first call", what)
			}
		}
	}
}

// The section 'Ways': the table of a sum is made once.
func TestSumMakesTheTableOnce(t *testing.T) {
	forget(t)
	Sum()
	for i, got := range table {
		if want := slowStep(0, byte(i)); got != want {
			t.Fatalf("%d: got %08x; want %08x", i, got, want)
		}
	}
	table[1]++
	Sum([]byte("123456789"))
	if table[1] != slowStep(0, 1)+1 {
		t.Error("Sum makes its table again")
	}
}

// spoilt are tables that say something else than the rule.
func spoilt() map[string][256]uint32 {
	var noise, turned [256]uint32
	for i := range noise {
		noise[i] = 0x5a5a5a5a
		turned[i] = ^slowStep(0, byte(i))
	}
	return map[string][256]uint32{"never made": {}, "all the same": noise, "turned over": turned}
}

func TestNoAnswerHangsOnTheTable(t *testing.T) {
	for said, other := range spoilt() {
		forget(t)
		once.Do(func() {})
		for what, call := range calls() {
			table = other
			if !call() {
				t.Errorf("%s: hangs on the table, which is %s", what, said)
			}
		}
		for s, want := range known() {
			if got := Sum([]byte(s)); got != want {
				t.Errorf("%q, the table %s: got %08x; want %08x", s, said, got, want)
			}
		}
	}
}
