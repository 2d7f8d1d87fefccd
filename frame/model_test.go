package frame

import (
	"bytes"
	"slices"
	"testing"

	"squelch/api"
	"squelch/bands"
	"squelch/bits"
	"squelch/coder"
	"squelch/quant"
)

// bandOf are the words of chapter 8: which band has the number.
func bandOf(n int) int { return [16]int{0, 1, 2, 2, 3, 3, 4, 4, 4, 4, 5, 5, 5, 5, 5, 5}[n] }

// shareOf is what layer 8 shares the levels of a budget that stands here as a number.
func shareOf(l api.Levels) api.Alloc {
	a, e := bands.Share(l, 120)
	if e != api.OK {
		panic("levels that may not be")
	}
	return a
}

// endsOf are how far from 0 each small number may be for the levels.
func endsOf(l api.Levels) (ends [16]int) {
	a := shareOf(l)
	for n := range ends {
		ends[n] = [8]int{0, 1, 3, 7, 15, 31, 63, 127}[a[bandOf(n)]]
	}
	return ends
}

// piled is the table of these counts, told without layer 3.
func piled(counts ...int) api.Freq {
	f := api.Freq{C: []int{0}}
	for _, count := range counts {
		f.C = append(f.C, f.C[len(f.C)-1]+count)
	}
	return f
}

func kinds() api.Freq { return api.Freq{C: []int{0, 6, 15, 16}} }

func even256() api.Freq { return piled(slices.Repeat([]int{1}, 256)...) }

func changes() api.Freq {
	return api.Freq{C: []int{0, 1, 2, 4, 7, 12, 21, 37, 67, 127, 157, 173, 182, 187, 190, 192, 193}}
}

// slope is the chapter's words: a number q from -m to m has m and one less q's distance from 0.
func slope(m int) api.Freq {
	var counts []int
	for q := -m; q <= m; q++ {
		if q < 0 {
			counts = append(counts, m+1+q)
		} else {
			counts = append(counts, m+1-q)
		}
	}
	return piled(counts...)
}

// symbolsOf is the chapter's words.
func symbolsOf(f api.Frame, prev api.Levels) (tables []api.Freq, symbols []int) {
	tables, symbols = append(tables, kinds()), append(symbols, f.Kind)
	for b := range 6 {
		if f.Kind == 1 {
			tables, symbols = append(tables, changes()), append(symbols, f.L[b]-prev[b]+8)
		} else {
			tables, symbols = append(tables, even256()), append(symbols, f.L[b])
		}
	}
	if f.Kind == 2 {
		return tables, symbols
	}
	for n, m := range endsOf(f.L) {
		if m > 0 {
			tables, symbols = append(tables, slope(m)), append(symbols, f.Q[n]+m)
		}
	}
	return tables, symbols
}

// filled are all bits, and noughts up to a whole byte.
func filled(b api.Bits) []byte {
	var out []byte
	for i := range b.N {
		if i%8 == 0 {
			out = append(out, 0)
		}
		bit, e := bits.Get(b, i, 1)
		if e != api.OK {
			panic("a bit that is not there")
		}
		out[i/8] += byte(bit) << (7 - i%8)
	}
	return out
}

// coded are the bytes of symbols, whether a frame has these or not.
func coded(symbols []int, tables []api.Freq) []byte {
	b, e := coder.All(symbols, tables...)
	if e != api.OK {
		panic("symbols that their tables do not have")
	}
	return filled(b)
}

// bytesOf is the chapter's words.
func bytesOf(f api.Frame, prev api.Levels) []byte {
	tables, symbols := symbolsOf(f, prev)
	return coded(symbols, tables)
}

// nearOf is the chapter's words; those that may not be are never subtracted.
func nearOf(l, prev api.Levels) bool {
	for b := range 6 {
		if l[b] < 0 || l[b] > 255 || prev[b] < 0 || prev[b] > 255 {
			return false
		}
		if off := l[b] - prev[b]; off < -8 || off > 7 {
			return false
		}
	}
	return true
}

// dice are numbers that are the same in each run.
type dice uint64

func (d *dice) next() uint64 {
	*d = *d*6364136223846793005 + 1442695040888963407
	x := uint64(*d)
	return x ^ x>>29
}

func (d *dice) between(least, most int) int {
	return least + int((d.next()>>1)%uint64(most-least+1))
}

// number is one from least to most: at an end, near 0, or anywhere.
func (d *dice) number(least, most int) int {
	switch d.between(0, 9) {
	case 0:
		return least
	case 1:
		return most
	case 2:
		return max(least, min(d.between(-3, 3), most))
	}
	return d.between(least, most)
}

// levels are of any kind, so that bands with every number of bits, and masked ones, are among them.
func (d *dice) levels() (l api.Levels) {
	about := d.between(0, 255)
	for b := range l {
		switch d.between(0, 5) {
		case 0:
			l[b] = d.number(0, 255)
		case 1:
			l[b] = 0
		default:
			l[b] = max(0, min(about+d.between(-24, 24), 255))
		}
	}
	return l
}

// ahead are levels ahead of l that it is near to.
func (d *dice) ahead(l api.Levels) (prev api.Levels) {
	for b, level := range l {
		prev[b] = max(0, min(level-d.number(-8, 7), 255))
	}
	return prev
}

// small are numbers that may be for the levels.
func (d *dice) small(l api.Levels) (q [16]int) {
	for n, end := range endsOf(l) {
		q[n] = d.number(-end, end)
	}
	return q
}

// measured are the levels of numbers up to most, and the small numbers of these.
func (d *dice) measured(most int) (api.Levels, [16]int) {
	var x api.Spec
	for n := range x {
		x[n] = d.number(-most, most)
	}
	l, e1 := bands.Measure(x)
	q, _, e2 := quant.Small(x, l)
	if e1 != api.OK || e2 != api.OK {
		panic("numbers that may not be")
	}
	return l, q
}

func (d *dice) bytes(n int) []byte {
	b := make([]byte, n)
	for i := range b {
		b[i] = byte(d.next() >> 20)
	}
	return b
}

// sent is a frame, and the levels behind which it stands.
type sent struct {
	f    api.Frame
	prev api.Levels
}

// each is the frame of each kind that has these levels and numbers: Inter behind levels that these are near to.
func (d *dice) each(l api.Levels, q [16]int) []sent {
	return []sent{
		{api.Frame{Kind: api.Intra, L: l, Q: q}, d.levels()},
		{api.Frame{Kind: api.Inter, L: l, Q: q}, d.ahead(l)},
		{api.Frame{Kind: api.Sid, L: l}, d.levels()},
	}
}

// widest are levels that are shared as many bits as any that were found.
func widest() []api.Levels {
	return []api.Levels{{153, 134, 149, 139, 91, 162}, {41, 13, 37, 30, 0, 52}, {255, 239, 248, 237, 178, 255}}
}

// many are frames that may be: of levels of each size in each band, numbers at their ends, and many drawn ones.
func many() []sent {
	d := dice(1)
	var l []sent
	add := func(levels api.Levels) {
		ends := endsOf(levels)
		for _, q := range [][16]int{{}, ends, turned(ends), d.small(levels)} {
			l = append(l, d.each(levels, q)...)
		}
	}
	for _, v := range []int{0, 1, 7, 8, 100, 160, 247, 248, 254, 255} {
		add(even[api.Levels](v))
		for b := range 6 {
			add(alone[api.Levels](b, v))
			add(with(even[api.Levels](255-v), b, v))
		}
	}
	for _, levels := range widest() {
		add(levels)
	}
	add(api.Levels{100, 0, 50, 0, 0, 60}) // bands without bits among others with bits
	for range 150 {
		add(d.levels())
	}
	for i := range 300 {
		l = append(l, d.each(d.measured(1<<(i%27)))...)
	}
	return l
}

// line is any of the arrays that frames have.
type line interface {
	api.Levels | [16]int
}

// even is v at each place.
func even[L line](v int) (l L) {
	for i := range len(l) {
		l[i] = v
	}
	return l
}

// with is l, but v at that place.
func with[L line](l L, at, v int) L {
	l[at] = v
	return l
}

// alone is v at that place, and 0 else.
func alone[L line](at, v int) (l L) { return with(l, at, v) }

// turned is l, each with the other sign.
func turned(l [16]int) [16]int {
	for n, v := range l {
		l[n] = -v
	}
	return l
}

// plus is l, each with v more.
func plus(l api.Levels, v int) api.Levels {
	for b := range l {
		l[b] += v
	}
	return l
}

// wantFrame holds all that is told of a frame that may be against the chapter's words, and answers its bytes.
func wantFrame(t *testing.T, what any, x sent) []byte {
	t.Helper()
	if e := Check(x.f, x.prev); e != api.OK {
		t.Errorf("%v: %v: Check: got %d", what, x, e)
	}
	want := bytesOf(x.f, x.prev)
	b, e := Write(x.f, x.prev)
	if !bytes.Equal(b, want) || e != api.OK {
		t.Errorf("%v: %v: Write: got %x, %d; want %x", what, x, b, e, want)
	}
	if len(want) > 40 {
		t.Errorf("%v: %v: %d bytes", what, x, len(want))
	}
	wantRead(t, what, want, x)
	if k, e := Kind(want); k != x.f.Kind || e != api.OK {
		t.Errorf("%v: %v: Kind: got %d, %d", what, x, k, e)
	}
	return want
}

func wantRead(t *testing.T, what any, b []byte, want sent) {
	t.Helper()
	if f, e := Read(b, want.prev); f != want.f || e != api.OK {
		t.Errorf("%v: Read of %x behind %v: got %v, %d; want %v", what, b, want.prev, f, e, want.f)
	}
}

// wantNoFrame holds Check, Write and, where no levels ahead are needed, Tables against a frame that may not be.
func wantNoFrame(t *testing.T, what any, f api.Frame, prev api.Levels) {
	t.Helper()
	if e := Check(f, prev); e != api.ErrArg {
		t.Errorf("%v: %v behind %v: Check: got %d", what, f, prev, e)
	}
	if b, e := Write(f, prev); len(b) != 0 || e != api.ErrArg {
		t.Errorf("%v: %v behind %v: Write: got %x, %d", what, f, prev, b, e)
	}
}

func wantNoTables(t *testing.T, what any, f api.Frame) {
	t.Helper()
	if tables, symbols, e := Tables(f); len(tables) != 0 || len(symbols) != 0 || e != api.ErrArg {
		t.Errorf("%v: %v: Tables: got %v, %v, %d", what, f, tables, symbols, e)
	}
}

func wantNoRead(t *testing.T, what any, b []byte, prev api.Levels, want api.Errno) {
	t.Helper()
	if f, e := Read(b, prev); f != (api.Frame{}) || e != want {
		t.Errorf("%v: Read of %x behind %v: got %v, %d; want %d", what, b, prev, f, e, want)
	}
}

func wantNoKind(t *testing.T, b []byte) {
	t.Helper()
	if k, e := Kind(b); k != 0 || e != api.ErrForm {
		t.Errorf("Kind of %x: got %d, %d", b, k, e)
	}
}

// oneOrNone holds the bytes against a frame that has just these, or ErrForm; it answers the frame, and whether there is one.
func oneOrNone(t *testing.T, b []byte, prev api.Levels) (api.Frame, bool) {
	t.Helper()
	f, e := Read(b, prev)
	if e != api.OK {
		if f != (api.Frame{}) || e != api.ErrForm {
			t.Errorf("Read of %x behind %v: got %v, %d", b, prev, f, e)
		}
		return f, false
	}
	if again, e := Write(f, prev); !bytes.Equal(again, b) || e != api.OK {
		t.Errorf("Read of %x behind %v: got %v, which is written as %x, %d", b, prev, f, again, e)
	}
	if k, e := Kind(b); k != f.Kind || e != api.OK {
		t.Errorf("Read of %x behind %v: got %v, of Kind %d, %d", b, prev, f, k, e)
	}
	return f, true
}
