package frame

import (
	"bytes"
	"fmt"
	"math"
	"testing"

	"squelch/api"
	"squelch/coder"
)

// P10.2

func TestWrite(t *testing.T) {
	talk := api.Levels{160, 148}
	for _, x := range []struct {
		what string
		f    api.Frame
		prev api.Levels
		want string
	}{
		// A 0 of the Kind, and 48 of the levels, of which nothing else is left; then 01, and noughts.
		{"the Intra of silence", api.Frame{}, api.Levels{}, "00000000000020"},
		{"the Intra of silence, behind other levels", api.Frame{}, even[api.Levels](255), "00000000000020"},
		// Four ones of the Kind, eight bits of each level, 01, and noughts.
		{"the Sid of silence", api.Frame{Kind: api.Sid}, api.Levels{}, "f0000000000004"},
		{"a Sid", api.Frame{Kind: api.Sid, L: api.Levels{1, 2, 3, 4, 5, 255}}, api.Levels{}, "f0102030405ff4"},
		{"the Inter of silence", api.Frame{Kind: api.Inter}, api.Levels{}, "a880"},
		{"an Intra", api.Frame{L: talk, Q: [16]int{1, -1}}, api.Levels{}, "3c37800000003380"},
		{"an Inter", api.Frame{Kind: api.Inter, L: talk, Q: [16]int{1, -1}}, api.Levels{158, 150}, "d6f00c"},
	} {
		b, e := Write(x.f, x.prev)
		if got := fmt.Sprintf("%x", b); got != x.want || e != api.OK {
			t.Errorf("%s: got %s, %d; want %s", x.what, got, e, x.want)
		}
		wantFrame(t, x.what, sent{x.f, x.prev})
	}
}

func TestTheIntraOfSilenceHasEightBytesAtTheMost(t *testing.T) {
	for v := range 256 {
		if b, e := Write(api.Frame{}, even[api.Levels](v)); len(b) == 0 || len(b) > 8 || e != api.OK {
			t.Errorf("behind %d: got %x, %d", v, b, e)
		}
	}
}

// A Sid's bytes are told by hand: each of its symbols is worth whole bits.
func TestSidsByHand(t *testing.T) {
	d := dice(2)
	for range 2000 {
		var l api.Levels
		v := uint64(15)
		for b := range l {
			l[b] = d.number(0, 255)
			v = v<<8 | uint64(l[b])
		}
		v = v<<4 | 4
		want := []byte{byte(v >> 48), byte(v >> 40), byte(v >> 32), byte(v >> 24), byte(v >> 16), byte(v >> 8), byte(v)}
		x := sent{api.Frame{Kind: api.Sid, L: l}, d.levels()}
		if b, e := Write(x.f, x.prev); !bytes.Equal(b, want) || e != api.OK {
			t.Errorf("%v: got %x, %d; want %x", x, b, e, want)
		}
		wantRead(t, "a Sid", want, x)
	}
}

func TestFramesByTheWords(t *testing.T) {
	for i, x := range many() {
		wantFrame(t, i, x)
	}
}

// The numbers of a band by itself, of each number of bits that it has, at their ends in each place.
func TestNumbersAtTheirEnds(t *testing.T) {
	d := dice(3)
	for b := range api.Bands {
		for _, level := range []int{1, 8, 9, 16, 17, 24, 25, 32, 33, 40, 41, 48, 49, 160, 255} {
			l := alone[api.Levels](b, level)
			for n, end := range endsOf(l) {
				if end == 0 {
					continue
				}
				for _, v := range []int{end, -end, 1, -1} {
					for _, x := range d.each(l, alone[[16]int](n, v)) {
						wantFrame(t, "an end", x)
					}
				}
			}
		}
	}
}

func TestInterBehindEachLevelThatIsNear(t *testing.T) {
	for _, about := range []int{0, 3, 8, 100, 247, 252, 255} {
		for off := -7; off <= 8; off++ {
			for b := range api.Bands {
				l := even[api.Levels](about)
				prev := with(l, b, about+off)
				if about+off < 0 || about+off > 255 {
					continue
				}
				wantFrame(t, off, sent{api.Frame{Kind: api.Inter, L: l, Q: endsOf(l)}, prev})
			}
		}
	}
}

// Levels ahead are nothing to an Intra, or a Sid.
func TestReadBehindOtherLevels(t *testing.T) {
	d := dice(4)
	for i, x := range many() {
		if i%10 != 0 || x.f.Kind == api.Inter {
			continue
		}
		b := bytesOf(x.f, api.Levels{})
		for range 3 {
			x.prev = d.levels()
			wantRead(t, "other levels ahead", b, x)
		}
	}
}

// What an Inter's bytes tell are changes: behind other levels they are another frame's, or none's.
func TestReadAnInterBehindOtherLevels(t *testing.T) {
	d := dice(5)
	for i, x := range many() {
		if i%10 > 2 || x.f.Kind != api.Inter {
			continue
		}
		b := bytesOf(x.f, x.prev)
		for range 3 {
			prev := d.levels()
			if f, ok := oneOrNone(t, b, prev); ok && f == x.f && prev != x.prev {
				t.Errorf("%v: read as the same behind %v", x, prev)
			}
		}
	}
	x := sent{api.Frame{Kind: api.Inter, L: api.Levels{160, 148}, Q: [16]int{1, -1}}, api.Levels{158, 150}}
	b := bytesOf(x.f, x.prev)
	wantRead(t, "each two more", b, sent{api.Frame{Kind: api.Inter, L: api.Levels{162, 150}, Q: [16]int{1, -1}}, api.Levels{160, 152}})
	wantNoRead(t, "one below 0", bytesOf(api.Frame{Kind: api.Inter}, api.Levels{3}), api.Levels{2}, api.ErrForm)
}

// Of changes that lead below 0, or above 255, there is no frame, whatever is behind them.
func TestReadAnInterWhoseLevelsMayNotBe(t *testing.T) {
	d := dice(6)
	for b := range api.Bands {
		for _, x := range []struct{ ahead, symbol int }{{0, 7}, {0, 0}, {7, 0}, {255, 9}, {255, 15}, {249, 15}} {
			for _, others := range []int{0, 100, 255} {
				symbols := []int{1, 8, 8, 8, 8, 8, 8}
				symbols[b+1] = x.symbol
				tables := []api.Freq{kinds(), changes(), changes(), changes(), changes(), changes(), changes()}
				prev := with(even[api.Levels](others), b, x.ahead)
				wantNoRead(t, "levels alone", coded(symbols, tables), prev, api.ErrForm)
				for n := range 16 {
					m := []int{1, 3, 7, 127}[n%4]
					tables = append(tables, slope(m))
					symbols = append(symbols, d.between(0, 2*m))
					wantNoRead(t, "levels, and numbers", coded(symbols, tables), prev, api.ErrForm)
				}
			}
		}
	}
}

// The Kind hangs on the first byte alone, whose numbers are 6 by 16, 9 by 16 and 1 by 16.
func TestKind(t *testing.T) {
	d := dice(7)
	for first := range 256 {
		want := api.Intra
		if first >= 96 {
			want = api.Inter
		}
		if first >= 240 {
			want = api.Sid
		}
		for n := 1; n <= 40; n++ {
			for _, b := range [][]byte{d.bytes(n), make([]byte, n), bytes.Repeat([]byte{255}, n)} {
				b[0] = byte(first)
				if k, e := Kind(b); k != want || e != api.OK {
					t.Errorf("%x: got %d, %d; want %d", b, k, e, want)
				}
			}
		}
	}
}

func TestKindOfNoFrame(t *testing.T) {
	wantNoKind(t, nil)
	wantNoKind(t, []byte{})
	for _, n := range []int{41, 42, 43, 44, 64, 8191, 8192, 8193, 100000} {
		for _, first := range []byte{0, 100, 255} {
			b := make([]byte, n)
			b[0] = first
			wantNoKind(t, b)
			wantNoRead(t, "too many bytes", b, api.Levels{}, api.ErrForm)
		}
	}
}

func TestReadOfNothing(t *testing.T) {
	for _, prev := range []api.Levels{{}, even[api.Levels](100), even[api.Levels](255)} {
		wantNoRead(t, "nil", nil, prev, api.ErrForm)
		wantNoRead(t, "empty", []byte{}, prev, api.ErrForm)
	}
}

// No frame's bytes begin as another one's do, so that with a byte more, or less, there is none.
func TestReadOfAByteMoreOrLess(t *testing.T) {
	t.Parallel()
	for i, x := range many() {
		if i%4 != 0 {
			continue
		}
		b := bytesOf(x.f, x.prev)
		for _, more := range []byte{0, 255, 128, 1} {
			wantNoRead(t, "a byte more", append(bytes.Clone(b), more), x.prev, api.ErrForm)
		}
		wantNoRead(t, "two bytes more", append(bytes.Clone(b), 0, 0), x.prev, api.ErrForm)
		wantNoRead(t, "a byte less", b[:len(b)-1], x.prev, api.ErrForm)
		wantNoRead(t, "the first byte alone", b[:1], x.prev, api.ErrForm)
		for _, n := range []int{40, 41} {
			wantNoRead(t, n, append(bytes.Clone(b), make([]byte, n-len(b))...), x.prev, api.ErrForm)
		}
	}
}

func TestReadWithEachBitTurned(t *testing.T) {
	t.Parallel()
	for i, x := range many() {
		if i%23 != 0 {
			continue
		}
		b := bytesOf(x.f, x.prev)
		tables, symbols := symbolsOf(x.f, x.prev)
		told, _ := coder.All(symbols, tables...)
		for bit := range 8 * len(b) {
			turn := bytes.Clone(b)
			turn[bit/8] ^= 0x80 >> (bit % 8)
			if f, ok := oneOrNone(t, turn, x.prev); ok && f == x.f {
				t.Errorf("%v: bit %d turned, it is the same", x, bit)
			}
			if bit >= told.N {
				wantNoRead(t, "a nought turned", turn, x.prev, api.ErrForm)
			}
		}
	}
}

// Levels ahead that may not be come first, whatever the bytes are.
func TestReadBehindLevelsThatMayNotBe(t *testing.T) {
	whole := bytesOf(api.Frame{}, api.Levels{})
	for _, v := range wrongLevels {
		for b := range api.Bands {
			for _, others := range []int{0, 100, 255} {
				prev := with(even[api.Levels](others), b, v)
				for what, l := range map[string][]byte{
					"an Intra": whole, "a Sid": bytesOf(api.Frame{Kind: api.Sid}, api.Levels{}), "an Inter": bytesOf(api.Frame{Kind: api.Inter}, api.Levels{}),
					"nil": nil, "a byte": {1}, "a byte less": whole[:6], "a byte more": append(bytes.Clone(whole), 0), "41 bytes": make([]byte, 41), "8193 bytes": make([]byte, 8193),
				} {
					wantNoRead(t, what, l, prev, api.ErrArg)
				}
			}
		}
	}
	wantNoRead(t, "two levels", nil, api.Levels{-1, 0, 0, 0, 0, 256}, api.ErrArg)
	wantNoRead(t, "the ends of all numbers", whole, api.Levels{math.MinInt, 0, 0, 0, 0, math.MaxInt}, api.ErrArg)
}

// P10.3

// From here on the bytes are told by Write alone, as whoever calls has them.
func TestWhatWasWrittenIsReadAsItWas(t *testing.T) {
	d := dice(8)
	for i := range 3000 {
		l := d.levels()
		for _, x := range d.each(l, d.small(l)) {
			b, e := Write(x.f, x.prev)
			if e != api.OK || len(b) == 0 || len(b) > api.MaxFrame {
				t.Fatalf("%d: %v: got %x, %d", i, x, b, e)
			}
			wantRead(t, i, b, x)
		}
	}
}

// The longest frames that were found have 22 bytes, and one by itself is longer than one by the levels ahead.
func TestTheLongestFrames(t *testing.T) {
	d := dice(9)
	longest := [3]int{}
	for _, l := range widest() {
		ends := endsOf(l)
		for range 100 {
			q := ends
			for n := range q {
				if d.between(0, 1) == 0 {
					q[n] = -q[n]
				}
			}
			for _, x := range d.each(l, q) {
				longest[x.f.Kind] = max(longest[x.f.Kind], len(wantFrame(t, "long", x)))
			}
		}
	}
	if longest[api.Intra] != 22 || longest[api.Inter] < 18 || longest[api.Inter] >= 22 || longest[api.Sid] != 7 {
		t.Errorf("got %v", longest)
	}
}

// Of each frame that may be near another one, all behind the same levels, the bytes are its own.
func TestOtherFramesHaveOtherBytes(t *testing.T) {
	prev := api.Levels{100, 97, 100, 100, 100, 103}
	had := map[string]api.Frame{}
	add := func(f api.Frame) {
		t.Helper()
		if Check(f, prev) != api.OK {
			return
		}
		b, e := Write(f, prev)
		if other, ok := had[string(b)]; ok && other != f || e != api.OK {
			t.Errorf("%v, %v: got %x, %d of both", f, other, b, e)
		}
		had[string(b)] = f
	}
	for kind := range 3 {
		for b := range api.Bands {
			for level := range 256 {
				add(api.Frame{Kind: kind, L: with(prev, b, level)})
			}
		}
		for n := range api.Hop {
			for q := -127; q <= 127; q++ {
				add(api.Frame{Kind: kind, L: prev, Q: alone[[16]int](n, q)})
			}
		}
	}
	for _, x := range many() {
		add(x.f)
	}
	if len(had) < 3000 {
		t.Errorf("got %d frames", len(had))
	}
}

// drawn are bytes of any kind: any at all, one frame's that were spoilt, and what has a frame's form for the most part.
func (d *dice) drawn(written [][]byte) []byte {
	b := bytes.Clone(written[d.between(0, len(written)-1)])
	switch d.between(0, 5) {
	case 0, 1:
		return d.bytes(d.between(0, 30))
	case 2:
		return d.bytes(d.between(1, 44))
	case 3:
		copy(b[d.between(0, len(b)-1):], d.bytes(d.between(1, 3)))
		return b
	case 4:
		return append(b[:d.between(1, len(b))], d.bytes(d.between(0, 4))...)
	}
	b = d.bytes(7)
	b[0] |= 0xf0
	b[6] = b[6]&0xf0 | 4
	return b
}

func TestWhateverBytesThereAreTheyAreOneFramesOrNone(t *testing.T) {
	var written [][]byte
	for _, x := range many() {
		written = append(written, bytesOf(x.f, x.prev))
	}
	for part := range 8 {
		t.Run(fmt.Sprint(part), func(t *testing.T) {
			t.Parallel()
			d := dice(10 + part)
			of := [3]int{}
			for range 14000 {
				if f, ok := oneOrNone(t, d.drawn(written), d.levels()); ok {
					of[f.Kind]++
				}
			}
			if of[0] < 50 || of[1] < 10 || of[2] < 1000 {
				t.Errorf("of each Kind there were %v", of)
			}
		})
	}
}

// R2, R5: what is handed in stays as it is, what is answered is the caller's own, and what was asked ahead is not to be seen.
func TestNothingIsChangedOrKept(t *testing.T) {
	d := dice(30)
	for i, x := range many() {
		if i%7 != 0 {
			continue
		}
		was := x
		b, _ := Write(x.f, x.prev)
		in := append(bytes.Clone(b), 1, 2, 3)
		whole := bytes.Clone(in)
		wantRead(t, i, in[:len(b)], x)
		Kind(in[:len(b)])
		if !bytes.Equal(in, whole) || x != was {
			t.Errorf("%v: changed to %v, %x to %x", was, x, whole, in)
		}
		Write(api.Frame{L: d.levels()}, d.levels())
		Read(d.bytes(9), d.levels())
		want := bytes.Clone(b)
		for k := range b {
			b[k] = 255
		}
		_ = append(b, 255)
		if again, e := Write(x.f, x.prev); !bytes.Equal(again, want) || e != api.OK {
			t.Errorf("%v: told twice, it is %x, %d; it was %x", x, again, e, want)
		}
		wantRead(t, i, want, x)
	}
}
