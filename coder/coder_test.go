package coder

import (
	"math"
	"slices"
	"strings"
	"testing"

	"squelch/api"
)

const last32 = 1<<32 - 1

// wantEnc holds an answer of Put against a state.
func wantEnc(t *testing.T, what any, got api.Enc, e api.Errno, want api.Enc) {
	t.Helper()
	if e != api.OK || !sameEnc(got, want) {
		t.Errorf("%v: got %d to %d, %d wait, %q, %d; want %d to %d, %d wait, %q",
			what, got.Low, got.High, got.Wait, unpack(got.Out), e, want.Low, want.High, want.Wait, unpack(want.Out))
	}
}

// wantDec holds an answer of Start or Next against a state.
func wantDec(t *testing.T, what any, got api.Dec, e api.Errno, want api.Dec) {
	t.Helper()
	if e != api.OK || !sameDec(got, want) {
		t.Errorf("%v: got %d to %d, %d, %d bits, at %d, %d; want %d to %d, %d, %d bits, at %d",
			what, got.Low, got.High, got.Code, got.In.N, got.At, e, want.Low, want.High, want.Code, want.In.N, want.At)
	}
}

// wantText holds an answer of End or All against a text of 0s and 1s.
func wantText(t *testing.T, what any, got api.Bits, e api.Errno, want string) {
	t.Helper()
	if e != api.OK || !sameBits(got, pack(want)) {
		t.Errorf("%v: got %d bits, %d; want %d, or others", what, got.N, e, len(want))
	}
}

// wantPutError holds Put against an error.
func wantPutError(t *testing.T, what any, s api.Enc, f api.Freq, symbol int, want api.Errno) {
	t.Helper()
	got, e := Put(s, f, symbol)
	if e != want || !sameEnc(got, api.Enc{}) {
		t.Errorf("%v: got %v, %d; want nothing, %d", what, got, e, want)
	}
}

// wantEndError holds End against an error.
func wantEndError(t *testing.T, what any, s api.Enc, want api.Errno) {
	t.Helper()
	if got, e := End(s); e != want || !sameBits(got, api.Bits{}) {
		t.Errorf("%v: got %d bits, %d; want none, %d", what, got.N, e, want)
	}
}

// wantNextError holds Next against an error.
func wantNextError(t *testing.T, what any, d api.Dec, f api.Freq, want api.Errno) {
	t.Helper()
	got, s, e := Next(d, f)
	if e != want || s != 0 || !sameDec(got, api.Dec{}) {
		t.Errorf("%v: got %v, %d, %d; want nothing, %d", what, got, s, e, want)
	}
}

// wantAllError holds All against an error.
func wantAllError(t *testing.T, what any, l []int, f []api.Freq, want api.Errno) {
	t.Helper()
	if got, e := All(l, f...); e != want || !sameBits(got, api.Bits{}) {
		t.Errorf("%v: got %d bits, %d; want none, %d", what, got.N, e, want)
	}
}

// wantBackError holds Back against an error.
func wantBackError(t *testing.T, what any, b api.Bits, f []api.Freq, want api.Errno) {
	t.Helper()
	if got, e := Back(b, f...); e != want || len(got) != 0 {
		t.Errorf("%v: got %v, %d; want none, %d", what, got, e, want)
	}
}

// P4.1

func TestBegin(t *testing.T) {
	wantEnc(t, "Begin", Begin(), api.OK, api.Enc{Low: 0, High: last32})
}

func TestPutWidensInEachWay(t *testing.T) {
	for _, x := range []struct {
		what string
		f    api.Freq
		s    int
		want api.Enc
	}{
		{"the lower half", of(0, 1, 2), 0, api.Enc{High: last32, Out: pack("0")}},
		{"the upper half", of(0, 1, 2), 1, api.Enc{High: last32, Out: pack("1")}},
		{"the middle", of(0, 1, 3, 4), 1, api.Enc{High: last32, Wait: 1}},
		{"the middle's middle", of(0, 3, 5, 8), 1, api.Enc{High: last32, Wait: 2}},
		{"the first quarter", of(0, 1, 2, 3, 4), 0, api.Enc{High: last32, Out: pack("00")}},
		{"the second quarter", of(0, 1, 2, 3, 4), 1, api.Enc{High: last32, Out: pack("01")}},
		{"the last quarter", of(0, 1, 2, 3, 4), 3, api.Enc{High: last32, Out: pack("11")}},
		{"a third", of(0, 1, 3), 0, api.Enc{High: 2863311529, Out: pack("0")}},
		{"the last two thirds", of(0, 1, 3), 1, api.Enc{Low: 1431655765, High: last32}},
		{"nothing to tell", of(0, 7), 0, api.Enc{High: last32}},
	} {
		got, e := Put(Begin(), x.f, x.s)
		wantEnc(t, x.what, got, e, x.want)
	}
}

func TestThoseThatWaitGoOutBehindABit(t *testing.T) {
	for _, wait := range []int{0, 1, 2, 7, 8, 9, 63, 64, 65, 127, 128, 129, 1000} {
		s := api.Enc{High: last32, Wait: wait, Out: pack("101")}
		got, e := Put(s, of(0, 1, 2), 0)
		wantEnc(t, "a 0", got, e, api.Enc{High: last32, Out: pack("1010" + strings.Repeat("1", wait))})
		got, e = Put(s, of(0, 1, 2), 1)
		wantEnc(t, "a 1", got, e, api.Enc{High: last32, Out: pack("1011" + strings.Repeat("0", wait))})
		got, e = Put(s, of(0, 1, 2, 3, 4), 2)
		wantEnc(t, "a 1, and a 0 behind", got, e, api.Enc{High: last32, Out: pack("1011" + strings.Repeat("0", wait) + "0")})
		got, e = Put(s, of(0, 3, 5, 8), 1)
		wantEnc(t, "two more wait", got, e, api.Enc{High: last32, Wait: wait + 2, Out: pack("101")})
	}
}

func TestPutIsAsTheWordsSay(t *testing.T) {
	d := dice(3)
	for _, v := range intervals(200) {
		for i, f := range tables() {
			for _, s := range []int{0, len(f.C) - 2, d.below(len(f.C) - 1)} {
				m := model{low: v[0], high: v[1], wait: d.below(9), out: d.text(d.below(30))}
				got, e := Put(m.enc(), f, s)
				m.put(f, s)
				wantEnc(t, []any{v, i, s}, got, e, m.enc())
			}
		}
	}
}

func TestManyPutsAreAsTheWordsSay(t *testing.T) {
	d := dice(4)
	m := model{high: last32}
	s := Begin()
	for i := range 2000 {
		f := tables()[d.below(16)]
		symbol := d.below(len(f.C) - 1)
		next, e := Put(s, f, symbol)
		m.put(f, symbol)
		wantEnc(t, i, next, e, m.enc())
		s = next
	}
	b, e := End(s)
	wantText(t, "the end", b, e, m.end())
}

func TestPutUpToTheMostBits(t *testing.T) {
	d := dice(5)
	full := d.text(65536)
	got, e := Put(api.Enc{High: last32, Out: pack(full[:65535])}, of(0, 1, 2), 1)
	wantEnc(t, "65536 bits", got, e, api.Enc{High: last32, Out: pack(full[:65535] + "1")})
	got, e = Put(api.Enc{High: last32, Out: pack(full[:65534])}, of(0, 1, 2, 3, 4), 2)
	wantEnc(t, "65536 bits by two", got, e, api.Enc{High: last32, Out: pack(full[:65534] + "10")})
	got, e = Put(api.Enc{High: last32, Wait: 65535}, of(0, 1, 2), 0)
	wantEnc(t, "65536 bits by those that waited", got, e, api.Enc{High: last32, Out: pack("0" + strings.Repeat("1", 65535))})
	got, e = Put(api.Enc{High: last32, Wait: 65000, Out: pack(full[:535])}, of(0, 1, 2), 1)
	wantEnc(t, "65536 bits by some of each", got, e, api.Enc{High: last32, Out: pack(full[:535] + "1" + strings.Repeat("0", 65000))})
	got, e = Put(api.Enc{High: last32, Wait: 65535, Out: pack(full)}, of(0, 1, 3, 4), 1)
	wantEnc(t, "65536 that wait, behind as many", got, e, api.Enc{High: last32, Wait: 65536, Out: pack(full)})
	got, e = Put(api.Enc{High: last32, Wait: 65536, Out: pack(full)}, of(0, 1), 0)
	wantEnc(t, "nothing more", got, e, api.Enc{High: last32, Wait: 65536, Out: pack(full)})
}

func TestPutOfTooMuch(t *testing.T) {
	full := dice(6)
	text := full.text(65536)
	even, quarters, middle, deep := of(0, 1, 2), of(0, 1, 2, 3, 4), of(0, 1, 3, 4), of(0, 3, 5, 8)
	for what, x := range map[string]struct {
		s      api.Enc
		f      api.Freq
		symbol int
	}{
		"one more than 65536 bits":         {api.Enc{High: last32, Out: pack(text)}, even, 0},
		"one more by the second bit":       {api.Enc{High: last32, Out: pack(text[:65535])}, quarters, 3},
		"one more by one that waited":      {api.Enc{High: last32, Wait: 1, Out: pack(text[:65535])}, even, 1},
		"one more by many that waited":     {api.Enc{High: last32, Wait: 65536}, even, 0},
		"as many as wait, and as are out":  {api.Enc{High: last32, Wait: 65536, Out: pack(text)}, even, 0},
		"one more than 65536 that wait":    {api.Enc{High: last32, Wait: 65536}, middle, 1},
		"one more that waits, and all out": {api.Enc{High: last32, Wait: 65536, Out: pack(text)}, middle, 1},
		"two more that wait":               {api.Enc{High: last32, Wait: 65535}, deep, 1},
	} {
		wantPutError(t, what, x.s, x.f, x.symbol, api.ErrLong)
	}
}

func TestEnd(t *testing.T) {
	const quarter, half = 1 << 30, 1 << 31
	for _, x := range []struct {
		what string
		s    api.Enc
		want string
	}{
		{"nothing", Begin(), "01"},
		{"nothing, and some out", api.Enc{High: last32, Out: pack("1100")}, "110001"},
		{"just below a quarter", api.Enc{Low: quarter - 1, High: last32}, "01"},
		{"just a quarter", api.Enc{Low: quarter, High: last32}, "10"},
		{"just below half", api.Enc{Low: half - 1, High: last32}, "10"},
		{"some wait, below", api.Enc{High: half, Wait: 3}, "01111"},
		{"some wait, above", api.Enc{Low: quarter, High: last32, Wait: 3, Out: pack("0")}, "010000"},
		{"a word waits", api.Enc{High: half, Wait: 64}, "0" + strings.Repeat("1", 65)},
	} {
		b, e := End(x.s)
		wantText(t, x.what, b, e, x.want)
	}
	d := dice(7)
	for _, v := range intervals(100) {
		m := model{low: v[0], high: v[1], wait: d.below(100), out: d.text(d.below(50))}
		b, e := End(m.enc())
		wantText(t, v, b, e, m.end())
	}
}

func TestEndUpToTheMostBits(t *testing.T) {
	d := dice(8)
	text := d.text(65536)
	b, e := End(api.Enc{High: last32, Out: pack(text[:65534])})
	wantText(t, "65536 bits", b, e, text[:65534]+"01")
	b, e = End(api.Enc{High: last32, Wait: 65534})
	wantText(t, "65536 bits by those that waited", b, e, "0"+strings.Repeat("1", 65535))
	b, e = End(api.Enc{Low: 1 << 30, High: last32, Wait: 34, Out: pack(text[:65500])})
	wantText(t, "65536 bits by some of each", b, e, text[:65500]+"1"+strings.Repeat("0", 35))
	wantEndError(t, "one more", api.Enc{High: last32, Out: pack(text[:65535])}, api.ErrLong)
	wantEndError(t, "two more", api.Enc{High: last32, Out: pack(text)}, api.ErrLong)
	wantEndError(t, "one more waits", api.Enc{High: last32, Wait: 65535}, api.ErrLong)
	wantEndError(t, "as many wait as may", api.Enc{High: last32, Wait: 65536}, api.ErrLong)
	wantEndError(t, "one more by some of each", api.Enc{High: last32, Wait: 35, Out: pack(text[:65500])}, api.ErrLong)
	wantEndError(t, "as many as may of each", api.Enc{High: last32, Wait: 65536, Out: pack(text)}, api.ErrLong)
}

func TestNoSymbol(t *testing.T) {
	for _, f := range tables() {
		n := len(f.C) - 1
		for _, s := range []int{-1, n, n + 1, math.MinInt, math.MaxInt} {
			wantPutError(t, s, Begin(), f, s, api.ErrArg)
		}
	}
	for what, f := range wrongTables() {
		for _, s := range []int{-1, 0, 1, 256} {
			wantPutError(t, what, Begin(), f, s, api.ErrArg)
		}
	}
}

// wrongEncs are states that may not be, at which nothing else is wrong.
func wrongEncs() map[string][]api.Enc {
	l := map[string][]api.Enc{
		"zero": {{}},
		"wait": {{High: last32, Wait: -1}, {High: last32, Wait: 65537}, {High: last32, Wait: math.MinInt}, {High: last32, Wait: math.MaxInt}},
	}
	for _, v := range wide() {
		l["interval"] = append(l["interval"], api.Enc{Low: v[0], High: v[1]}, api.Enc{Low: v[0], High: v[1], Wait: 3, Out: pack("011")})
	}
	for what, b := range wrongBits() {
		l[what] = append(l[what], api.Enc{High: last32, Out: b})
	}
	return l
}

func TestEncodersStatesThatMayNotBe(t *testing.T) {
	for what, l := range wrongEncs() {
		for _, s := range l {
			wantPutError(t, what, s, of(0, 1, 2), 0, api.ErrArg)
			wantPutError(t, what, s, of(0, 1), 0, api.ErrArg)
			wantPutError(t, what, s, of(0, 1), 7, api.ErrArg)
			wantPutError(t, what, s, api.Freq{}, 0, api.ErrArg)
			wantEndError(t, what, s, api.ErrArg)
		}
	}
	for _, v := range edges() {
		if _, e := Put(api.Enc{Low: uint32(v[0]), High: uint32(v[1]), Wait: 65536}, of(0, 1), 0); e != api.OK {
			t.Errorf("%v: got %d", v, e)
		}
	}
}

func TestPutTellsWhatMayNotBeFirst(t *testing.T) {
	d := dice(9)
	full := api.Enc{High: last32, Wait: 65536, Out: pack(d.text(65536))}
	wantPutError(t, "too much", full, of(0, 1, 2), 0, api.ErrLong)
	wantPutError(t, "too much, and no symbol", full, of(0, 1, 2), 2, api.ErrArg)
	wantPutError(t, "too much, and no table", full, of(1, 2), 0, api.ErrArg)
	bad := full
	bad.High = 1 << 30
	wantPutError(t, "too much, and an interval that may not be", bad, of(0, 1, 2), 0, api.ErrArg)
	wantEndError(t, "too much, and an interval that may not be", bad, api.ErrArg)
	bad = full
	bad.Wait++
	wantPutError(t, "too much, and more that wait than may", bad, of(0, 1, 2), 0, api.ErrArg)
	wantEndError(t, "too much, and more that wait than may", bad, api.ErrArg)
}

// P4.2

func TestStart(t *testing.T) {
	d := dice(10)
	text := d.text(65536)
	for _, x := range []struct {
		text string
		code uint32
	}{
		{"", 0},
		{"1", 1 << 31},
		{"01", 1 << 30},
		{"10000001", 0x81000000},
		{"101010101", 0xaa800000},
		{strings.Repeat("1", 31), last32 - 1},
		{strings.Repeat("0", 31) + "1", 1},
		{strings.Repeat("1", 32), last32},
		{strings.Repeat("0", 32) + "1", 0},
		{strings.Repeat("1", 32) + "0", last32},
		{"00000001001000110100010101100111" + text[:65504], 0x01234567},
	} {
		got, e := Start(pack(x.text))
		wantDec(t, len(x.text), got, e, api.Dec{High: last32, Code: x.code, In: pack(x.text), At: 32})
	}
}

func TestStartOfBitsThatMayNotBe(t *testing.T) {
	for what, b := range wrongBits() {
		if got, e := Start(b); e != api.ErrArg || !sameDec(got, api.Dec{}) {
			t.Errorf("%s: got %v, %d", what, got, e)
		}
	}
}

// wantNext holds Next against the model's words.
func wantNext(t *testing.T, what any, m model, f api.Freq) {
	t.Helper()
	got, s, e := Next(m.dec(), f)
	want := m.get(f)
	if s != want {
		t.Errorf("%v: got %d; want %d", what, s, want)
	}
	wantDec(t, what, got, e, m.dec())
}

func TestNextWidensInEachWay(t *testing.T) {
	in := pack("0101" + strings.Repeat("0", 28) + "11")
	for _, x := range []struct {
		what string
		f    api.Freq
		code uint32
		s    int
		want api.Dec
	}{
		{"the lower half", of(0, 1, 2), 1<<31 - 1, 0, api.Dec{High: last32, Code: last32, At: 33}},
		{"the upper half", of(0, 1, 2), 1 << 31, 1, api.Dec{High: last32, Code: 1, At: 33}},
		{"the middle's first", of(0, 1, 3, 4), 1 << 30, 1, api.Dec{High: last32, Code: 1, At: 33}},
		{"the middle's last", of(0, 1, 3, 4), 1<<31 + 1<<30 - 1, 1, api.Dec{High: last32, Code: last32, At: 33}},
		{"the last quarter", of(0, 1, 2, 3, 4), 1<<31 + 1<<30, 3, api.Dec{High: last32, Code: 3, At: 34}},
		{"a third", of(0, 1, 3), 1431655764, 0, api.Dec{High: 2863311529, Code: 2863311529, At: 33}},
		{"the last two thirds", of(0, 1, 3), 1431655765, 1, api.Dec{Low: 1431655765, High: last32, Code: 1431655765, At: 32}},
		{"nothing to tell", of(0, 7), 5, 0, api.Dec{High: last32, Code: 5, At: 32}},
	} {
		got, s, e := Next(api.Dec{High: last32, Code: x.code, In: in, At: 32}, x.f)
		if s != x.s {
			t.Errorf("%s: got %d; want %d", x.what, s, x.s)
		}
		x.want.In = in
		wantDec(t, x.what, got, e, x.want)
	}
}

func TestNextIsAsTheWordsSay(t *testing.T) {
	d := dice(11)
	for _, v := range intervals(100) {
		for i, f := range tables() {
			in := d.text(d.below(80))
			at := 32 + d.below(len(in)+1)
			for _, code := range []int{v[0], v[1], v[0] + d.below(v[1]-v[0]+1)} {
				m := model{low: v[0], high: v[1], code: code, at: at, in: in}
				wantNext(t, []any{v, i, code}, m, f)
			}
		}
	}
}

func TestNextAtTheEndsOfEachPart(t *testing.T) {
	d := dice(12)
	for _, v := range intervals(14) {
		for i, f := range tables() {
			for s := range len(f.C) - 1 {
				low, high := part(v[0], v[1], f.C, s)
				for _, code := range []int{low, low + 1, high - 1, high} {
					m := model{low: v[0], high: v[1], code: code, at: 40, in: d.text(50)}
					if _, got, e := Next(m.dec(), f); got != s || e != api.OK {
						t.Errorf("%v, table %d, %d: got %d, %d; want %d", v, i, code, got, e, s)
					}
				}
			}
		}
	}
}

func TestBehindTheEndAreZeros(t *testing.T) {
	sixteen := counted(same(16, 1)...)
	for _, x := range []struct {
		text string
		at   int
		code uint32
	}{
		{strings.Repeat("1", 40), 32, 0xffffffff},
		{strings.Repeat("1", 34), 32, 0xfffffffc},
		{strings.Repeat("1", 33), 32, 0xfffffff8},
		{strings.Repeat("1", 32), 32, 0xfffffff0},
		{strings.Repeat("1", 32), 64, 0xfffffff0},
		{"1", 33, 0xfffffff0},
		{"", 32, 0xfffffff0},
	} {
		got, s, e := Next(api.Dec{High: last32, Code: 0x7fffffff, In: pack(x.text), At: x.at}, sixteen)
		if s != 7 {
			t.Errorf("%d bits: got %d", len(x.text), s)
		}
		wantDec(t, len(x.text), got, e, api.Dec{High: last32, Code: x.code, In: pack(x.text), At: x.at + 4})
	}
}

func TestNextUpToTheEnd(t *testing.T) {
	d := dice(13)
	for _, n := range []int{0, 1, 7, 8, 31, 32, 33, 500, 65535, 65536} {
		m := model{high: last32, code: d.below(1 << 32), at: n + 32, in: d.text(n)}
		for i, f := range tables() {
			wantNext(t, []any{n, i}, m, f)
		}
		m.at++
		for i, f := range tables() {
			wantNextError(t, []any{n, i}, m.dec(), f, api.ErrShort)
		}
		m.at = 65600
		wantNextError(t, n, m.dec(), of(0, 1), api.ErrShort)
	}
	// The last one may come to rest far behind the end, as far as a state may be.
	m := model{high: last32, at: 65536 + 32, in: d.text(65536)}
	got, _, e := Next(m.dec(), of(0, 1, 16384))
	if e != api.OK || got.At != 65536+32+14 {
		t.Errorf("got %d, %d", got.At, e)
	}
	wantNextError(t, "behind it", got, of(0, 1), api.ErrShort)
}

// wrongDecs are states that may not be, at which nothing else is wrong.
func wrongDecs() map[string][]api.Dec {
	l := map[string][]api.Dec{
		"zero": {{}, {At: 32}},
		"at":   {{High: last32, At: 31}, {High: last32, At: 0}, {High: last32, At: -1}, {High: last32, At: 65601}, {High: last32, At: math.MinInt}, {High: last32, At: math.MaxInt}},
		"code": {
			{Low: 5, High: last32, Code: 4, At: 32},
			{Low: 5, High: last32, Code: 0, At: 32},
			{Low: 0, High: last32 - 1, Code: last32, At: 32},
			{Low: 1 << 30, High: 1<<31 + 1<<30, Code: 1<<31 + 1<<30 + 1, At: 32},
			{Low: 1<<31 - 1, High: last32, Code: 1<<31 - 2, At: 32},
		},
	}
	for _, v := range wide() {
		for _, code := range []uint32{v[0], v[1], v[0]/2 + v[1]/2} {
			l["interval"] = append(l["interval"], api.Dec{Low: v[0], High: v[1], Code: code, At: 32})
		}
	}
	for what, b := range wrongBits() {
		l[what] = append(l[what], api.Dec{High: last32, In: b, At: 32})
	}
	return l
}

func TestDecodersStatesThatMayNotBe(t *testing.T) {
	for what, l := range wrongDecs() {
		for _, d := range l {
			wantNextError(t, what, d, of(0, 1, 2), api.ErrArg)
			wantNextError(t, what, d, of(0, 1), api.ErrArg)
			wantNextError(t, what, d, api.Freq{}, api.ErrArg)
		}
	}
	for _, v := range edges() {
		for _, code := range v {
			d := api.Dec{Low: uint32(v[0]), High: uint32(v[1]), Code: uint32(code), At: 32}
			if _, _, e := Next(d, of(0, 1)); e != api.OK {
				t.Errorf("%v: got %d", v, e)
			}
		}
	}
}

func TestNextTellsWhatMayNotBeFirst(t *testing.T) {
	for what, f := range wrongTables() {
		wantNextError(t, what, api.Dec{High: last32, At: 32}, f, api.ErrArg)
		wantNextError(t, what+", and at the end", api.Dec{High: last32, At: 33}, f, api.ErrArg)
	}
	// All of these are at the end, too.
	for what, d := range map[string]api.Dec{
		"an interval that may not be": {High: 1 << 30, At: 33},
		"a code below":                {Low: 5, High: last32, Code: 4, At: 33},
		"a code above":                {High: 1 << 31, Code: 1<<31 + 1, At: 33},
		"bits that may not be":        {High: last32, In: api.Bits{B: []byte{1}, N: 7}, At: 40},
		"too far behind the end":      {High: last32, At: 65601},
	} {
		wantNextError(t, what, d, of(0, 1, 2), api.ErrArg)
	}
}

// P4.3

// script is n symbols, each by a table.
func script(d *dice, n int) ([]int, []api.Freq) {
	var l []int
	var f []api.Freq
	all := tables()
	for range n {
		table := all[d.below(len(all))]
		l = append(l, d.below(len(table.C)-1))
		f = append(f, table)
	}
	return l, f
}

func TestAllOfNone(t *testing.T) {
	b, e := All(nil)
	wantText(t, "none", b, e, "01")
	b, e = All([]int{})
	wantText(t, "empty", b, e, "01")
}

func TestAllIsPutOfEach(t *testing.T) {
	d := dice(14)
	for n := range 120 {
		l, f := script(&d, n)
		m := model{high: last32}
		s := Begin()
		for i := range l {
			m.put(f[i], l[i])
			s, _ = Put(s, f[i], l[i])
		}
		want := m.end()
		b, e := All(l, f...)
		wantText(t, n, b, e, want)
		b, e = End(s)
		wantText(t, n, b, e, want)
	}
}

func TestAllOfNotAsMany(t *testing.T) {
	even := of(0, 1, 2)
	for what, x := range map[string]struct {
		l []int
		f []api.Freq
	}{
		"a symbol, no table":            {[]int{0}, nil},
		"a table, no symbol":            {nil, []api.Freq{even}},
		"a symbol more":                 {[]int{0, 1, 0}, []api.Freq{even, even}},
		"a table more":                  {[]int{0, 1}, []api.Freq{even, even, even}},
		"a table more that may not be":  {[]int{0}, []api.Freq{even, {}}},
		"a symbol more that is not one": {[]int{0, 9}, []api.Freq{even}},
		// All of the symbols come to more than may be, too.
		"a symbol more than may be": {same(65537, 1), slices.Repeat([]api.Freq{even}, 65536)},
		"a table more than may be":  {same(65536, 1), slices.Repeat([]api.Freq{even}, 65537)},
	} {
		wantAllError(t, what, x.l, x.f, api.ErrArg)
	}
}

func TestAllTellsTheFirstError(t *testing.T) {
	even := of(0, 1, 2)
	many := slices.Repeat([]api.Freq{even}, 65537)
	ones := same(65537, 1)
	b, e := All(ones[:65534], many[:65534]...)
	wantText(t, "65536 bits", b, e, strings.Repeat("1", 65534)+"01")
	wantAllError(t, "one more, at the end", ones[:65535], many[:65535], api.ErrLong)
	wantAllError(t, "two more, at the end", ones[:65536], many[:65536], api.ErrLong)
	wantAllError(t, "one more by a symbol", ones, many, api.ErrLong)
	wrong := slices.Clone(ones)
	wrong[65535] = 2
	wantAllError(t, "no symbol, ahead of one more", wrong, many, api.ErrArg)
	wrong = append(slices.Clone(ones), 2)
	wantAllError(t, "one more, ahead of no symbol", wrong, append(slices.Clone(many), even), api.ErrLong)
	wantAllError(t, "one more, ahead of no table", append(slices.Clone(ones), 0), append(slices.Clone(many), api.Freq{}), api.ErrLong)
	wantAllError(t, "no symbol, the first", []int{2, 0}, many[:2], api.ErrArg)
	wantAllError(t, "no symbol, the last", []int{0, -1}, many[:2], api.ErrArg)
	for what, f := range wrongTables() {
		wantAllError(t, what, []int{1, 0}, []api.Freq{even, f}, api.ErrArg)
	}
}

func TestAllOfTooManyThatWait(t *testing.T) {
	middle := slices.Repeat([]api.Freq{of(0, 1, 3, 4)}, 65538)
	ones := same(65538, 1)
	b, e := All(ones[:65534], middle[:65534]...)
	wantText(t, "65534 wait", b, e, "0"+strings.Repeat("1", 65535))
	wantAllError(t, "65535 wait", ones[:65535], middle[:65535], api.ErrLong)
	wantAllError(t, "65536 wait", ones[:65536], middle[:65536], api.ErrLong)
	// That many may wait, so that it is what comes behind which is told.
	last := append(slices.Clone(ones[:65536]), 9)
	wantAllError(t, "65536 wait, and no symbol", last, middle[:65537], api.ErrArg)
	last = append(slices.Clone(ones[:65537]), 9)
	wantAllError(t, "65537 wait, and no symbol", last, middle[:65538], api.ErrLong)
}

func TestBackIsNextOfEach(t *testing.T) {
	d := dice(15)
	for n := range 120 {
		_, f := script(&d, n)
		b := pack(d.text(16 * n))
		var want []int
		s, _ := Start(b)
		for i := range f {
			next, symbol, e := Next(s, f[i])
			if e != api.OK {
				t.Fatalf("%d, %d: got %d", n, i, e)
			}
			s, want = next, append(want, symbol)
		}
		if got, e := Back(b, f...); e != api.OK || !slices.Equal(got, want) {
			t.Errorf("%d: got %v, %d; want %v", n, got, e, want)
		}
	}
}

func TestBackOfNone(t *testing.T) {
	for _, text := range []string{"", "0", "1", "01", strings.Repeat("1", 65536)} {
		if got, e := Back(pack(text)); e != api.OK || len(got) != 0 {
			t.Errorf("%d bits: got %v, %d", len(text), got, e)
		}
	}
}

func TestBackBehindTheEnd(t *testing.T) {
	even := of(0, 1, 2)
	for n := range 70 {
		f := slices.Repeat([]api.Freq{even}, n+2)
		want := slices.Concat(same(n, 1), []int{0})
		// One symbol more than there are bits is had: nothing behind the end was read ahead of it.
		got, e := Back(pack(strings.Repeat("1", n)), f[:n+1]...)
		if e != api.OK || !slices.Equal(got, want) {
			t.Errorf("%d bits: got %v, %d", n, got, e)
		}
		wantBackError(t, n, pack(strings.Repeat("1", n)), f, api.ErrShort)
	}
}

func TestBackTellsTheFirstError(t *testing.T) {
	even := of(0, 1, 2)
	for what, b := range wrongBits() {
		wantBackError(t, what, b, nil, api.ErrArg)
		wantBackError(t, what, b, []api.Freq{even}, api.ErrArg)
		wantBackError(t, what, b, []api.Freq{{}}, api.ErrArg)
		wantBackError(t, what, b, []api.Freq{even, even, even}, api.ErrArg)
	}
	for what, f := range wrongTables() {
		wantBackError(t, what, pack("0011"), []api.Freq{f}, api.ErrArg)
		wantBackError(t, what, pack("0011"), []api.Freq{even, even, f}, api.ErrArg)
		wantBackError(t, what+", ahead of the end", pack("1"), []api.Freq{even, even, f, even}, api.ErrArg)
		wantBackError(t, what+", behind the end", pack("1"), []api.Freq{even, even, even, f}, api.ErrShort)
	}
}

// P4.4

// worth is how many bits a symbol may take: the total by its frequency, as a power of two, rounded up, and one.
func worth(f api.Freq, s int) int {
	n := 0
	for (f.C[s+1]-f.C[s])<<n < f.C[len(f.C)-1] {
		n++
	}
	return n + 1
}

// wantBack codes symbols, holds their bits against their worth, and has them back.
func wantBack(t *testing.T, what any, l []int, f []api.Freq) {
	t.Helper()
	b, e := All(l, f...)
	most := 2
	for i := range l {
		most += worth(f[i], l[i])
	}
	if e != api.OK || b.N > most {
		t.Errorf("%v: got %d bits, %d; want %d at the most", what, b.N, e, most)
	}
	if got, e := Back(b, f...); e != api.OK || !slices.Equal(got, l) {
		t.Errorf("%v: had back %v, %d; want %v", what, got, e, l)
	}
}

func TestWhatWasPutIsHadBack(t *testing.T) {
	d := dice(16)
	for n := range 400 {
		l, f := script(&d, n)
		wantBack(t, n, l, f)
	}
}

func TestEverySymbolIsHadBack(t *testing.T) {
	for i, f := range tables() {
		for s := range len(f.C) - 1 {
			for _, n := range []int{1, 2, 3, 40} {
				wantBack(t, []any{i, s, n}, same(n, s), slices.Repeat([]api.Freq{f}, n))
			}
		}
	}
}

func TestLikelyAndUnlikelySymbolsAreHadBack(t *testing.T) {
	d := dice(17)
	for _, f := range []api.Freq{of(0, 1, 16384), of(0, 16383, 16384), of(0, 1, 2), of(0, 8191, 8193, 16384)} {
		l := make([]int, 3000)
		for i := range l {
			l[i] = d.below(len(f.C) - 1)
		}
		wantBack(t, f.C, l, slices.Repeat([]api.Freq{f}, len(l)))
	}
	// What tells nothing takes no bits, however many there are.
	b, e := All(make([]int, 100000), slices.Repeat([]api.Freq{of(0, 16384)}, 100000)...)
	wantText(t, "100000 that tell nothing", b, e, "01")
}

func TestWhatIsPutOneByOneIsHadBackOneByOne(t *testing.T) {
	d := dice(18)
	l, f := script(&d, 300)
	s := Begin()
	for i := range l {
		s, _ = Put(s, f[i], l[i])
	}
	b, _ := End(s)
	in, e := Start(b)
	if e != api.OK {
		t.Fatalf("got %d", e)
	}
	for i := range l {
		next, got, e := Next(in, f[i])
		if e != api.OK || got != l[i] {
			t.Fatalf("%d: got %d, %d; want %d", i, got, e, l[i])
		}
		in = next
	}
}

func TestAnyBitsAreSymbols(t *testing.T) {
	d := dice(19)
	short := 0
	for i := range 1500 {
		_, f := script(&d, d.below(40))
		b := pack(d.text(d.below(120)))
		got, e := Back(b, f...)
		switch {
		case e == api.ErrShort && len(got) == 0:
			short++
		case e != api.OK || len(got) != len(f):
			t.Fatalf("%d: got %d of %d, %d", i, len(got), len(f), e)
		}
		for j, s := range got {
			if s < 0 || s > len(f[j].C)-2 {
				t.Fatalf("%d: got %d, which is none of %d symbols", i, s, len(f[j].C)-1)
			}
		}
	}
	if short == 0 || short == 1500 {
		t.Errorf("%d end too early: the test is none", short)
	}
}

// The rules that hold everywhere

func TestWhatIsHandedInStaysAsItIs(t *testing.T) {
	// There is room behind, and something in it.
	room := []byte{0xa5, 0x80, 0x77, 0x77}
	numbers := []int{0, 1, 3, 4, 99, 99}
	l := []int{1, 1, 0, 7}
	f := api.Freq{C: numbers[:4]}
	b := api.Bits{B: room[:2], N: 9}
	s := api.Enc{Low: 1, High: last32, Wait: 2, Out: b}
	Put(s, f, 0)
	Put(s, f, 1)
	Put(s, of(0, 1), 0)
	End(s)
	Start(b)
	Next(api.Dec{High: last32, Code: 3, In: b, At: 34}, f)
	All(l[:3], f, f, f)
	Back(b, f, f, f)
	if !slices.Equal(room, []byte{0xa5, 0x80, 0x77, 0x77}) || !slices.Equal(numbers, []int{0, 1, 3, 4, 99, 99}) || !slices.Equal(l, []int{1, 1, 0, 7}) {
		t.Errorf("now %v, %v, %v", room, numbers, l)
	}
}

func TestNothingIsShared(t *testing.T) {
	for what, call := range map[string]func(b api.Bits) api.Bits{
		"Put":                func(b api.Bits) api.Bits { s, _ := Put(api.Enc{High: last32, Out: b}, of(0, 1, 2), 1); return s.Out },
		"Put of nothing":     func(b api.Bits) api.Bits { s, _ := Put(api.Enc{High: last32, Out: b}, of(0, 1), 0); return s.Out },
		"Put of one to wait": func(b api.Bits) api.Bits { s, _ := Put(api.Enc{High: last32, Out: b}, of(0, 1, 3, 4), 1); return s.Out },
		"End":                func(b api.Bits) api.Bits { got, _ := End(api.Enc{High: last32, Out: b}); return got },
		"Start":              func(b api.Bits) api.Bits { d, _ := Start(b); return d.In },
		"Next": func(b api.Bits) api.Bits {
			d, _, _ := Next(api.Dec{High: last32, In: b, At: 32}, of(0, 1, 2))
			return d.In
		},
		"Next of what is one": func(b api.Bits) api.Bits {
			d, _, _ := Next(api.Dec{High: last32, In: b, At: 32}, of(0, 1))
			return d.In
		},
	} {
		given := pack("101001011010")
		given.B = slices.Grow(given.B, 8)
		got := call(given)
		other := call(given)
		was := unpack(other)
		for i := range got.B {
			got.B[i] ^= 0x33
		}
		if unpack(given) != "101001011010" || unpack(other) != was {
			t.Errorf("%s: writing into the answer changes what was handed in, or another answer", what)
		}
		clear(given.B)
		if unpack(other) != was {
			t.Errorf("%s: writing into what was handed in changes the answer", what)
		}
	}
}

func TestAskedTwiceTheAnswerIsTheSame(t *testing.T) {
	d := dice(20)
	l, f := script(&d, 50)
	first, _ := All(l, f...)
	All(same(9, 1), slices.Repeat([]api.Freq{of(0, 1, 3, 4)}, 9)...)
	Back(first, f[:7]...)
	second, e := All(l, f...)
	wantText(t, "again", second, e, unpack(first))
}
