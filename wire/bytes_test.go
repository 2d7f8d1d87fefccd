package wire

import (
	"bytes"
	"fmt"
	"strings"
	"testing"

	"squelch/api"
	"squelch/bits"
)

// P15.2

// The bytes ahead of the sum, by hand.
func TestWrite(t *testing.T) {
	for _, x := range []struct {
		what string
		m    api.Msg
		want string
	}{
		// The Kind in four bits, nine codes of 0, and noughts.
		{"an Ack", api.Msg{Kind: api.AckM}, "1011 1111 1111 1000"},
		{"the first kind", api.Msg{Kind: api.JoinM}, "0001 1111 1111 1000"},
		{"the last kind", api.Msg{Kind: api.WelcomeM}, "1111 1111 1111 1000"},
		{"a Group of 1", api.Msg{Kind: api.AckM, Group: 1}, "1011 0101 1111 1110"},
		{"a From of 4", api.Msg{Kind: api.AckM, From: 4}, "1011 1001 0111 1111 1000 0000"},
		{"each number another one", api.Msg{Kind: api.LeaveM, Group: 1, From: 2, To: 3, Tid: 4, Epoch: 5, A: 6, B: 7}, "0010 010 011 00100 00101 00110 00111 0001000 1 1 0"},
		{"a name", api.Msg{Kind: api.JoinM, Name: "é"}, "0001 1111111 011 11000011 10101001 1 0"},
		{"bytes", api.Msg{Kind: api.MediaM, Data: []byte{0, 0xa5, 0xff}}, "1101 1111111 1 00100 00000000 10100101 11111111 0000000"},
		{"the greatest number", api.Msg{Kind: api.TakenM, B: maxNum}, "1001 111111 000000000000000000000000000000 1000000000000000000000000000001 1 1 00000"},
	} {
		want := sealed(packed(strings.ReplaceAll(x.want, " ", "")))
		if b, e := Write(x.m); !bytes.Equal(b, want) || e != api.OK {
			t.Errorf("%s: got %x, %d; want %x", x.what, b, e, want)
		}
		wantWritten(t, x.what, x.m)
	}
}

func TestEachMessage(t *testing.T) {
	for i, m := range messages() {
		wantWritten(t, i, m)
	}
}

func TestEachKind(t *testing.T) {
	d := dice(10)
	for kind := 1; kind <= 15; kind++ {
		for i := range 300 {
			m := d.message(kind)
			wantWritten(t, fmt.Sprint(kind, i), m)
		}
	}
}

// The codes are layer 1's.
func TestNumbersByTheirCodes(t *testing.T) {
	d := dice(11)
	for range 500 {
		v := d.value()
		b, e := bits.PutCode(api.Bits{}, uint64(v))
		if text := bytesOf(b.B)[:b.N]; text != codeOf(v) || e != api.OK {
			t.Errorf("%d: got %s, %d; want %s", v, text, e, codeOf(v))
		}
	}
}

// Each number of 0, of MaxNum, and of all lengths between, alone and with the others.
func TestEachNumber(t *testing.T) {
	for i := range 7 {
		for k := range 31 {
			for _, v := range []int{1<<k - 1, 1 << k} {
				for kind := range 15 {
					if (kind+i+k)%4 > 0 {
						continue
					}
					wantWritten(t, "alone", withValue(plain(kind+1), i, v))
					wantWritten(t, "with others", withValue(withValues(plain(kind+1), [7]int{maxNum, 1, 2, 3, 4, 5, maxNum}), i, v))
				}
			}
		}
	}
}

func TestWriteOfWrongMessages(t *testing.T) {
	for what, l := range wrongMessages() {
		for _, m := range l {
			wantNoneWritten(t, what, m)
		}
	}
}

// All codes have an odd length, so the last byte is filled with one, three, five or seven noughts, and never whole.
func TestFilling(t *testing.T) {
	came := map[int]int{}
	for i, m := range messages() {
		text := bitsOf(m)
		fill := (8 - len(text)%8) % 8
		came[fill]++
		b := wantWritten(t, i, m)
		if len(b) != (len(text)+fill)/8+4 {
			t.Errorf("%s has %d bytes", textOf(m), len(b))
		}
		for other := 1; other < 1<<fill; other++ {
			spoilt := packed(text)
			spoilt[len(spoilt)-1] ^= byte(other)
			wantNoMessage(t, "last bits", sealed(spoilt), api.ErrForm)
		}
	}
	if len(came) != 4 || came[1] == 0 || came[3] == 0 || came[5] == 0 || came[7] == 0 {
		t.Errorf("there were %v", came)
	}
}

func TestLeastAndMost(t *testing.T) {
	least, _ := Write(api.Msg{Kind: api.AckM})
	full := withValues(api.Msg{Kind: api.JoinM, Name: strings.Repeat("\U0010ffff", 16)}, [7]int{maxNum, maxNum, maxNum, maxNum, maxNum, maxNum, maxNum})
	most, _ := Write(full)
	media := full
	media.Kind, media.Name, media.Data = api.MediaM, "", bytes.Repeat([]byte{0xff}, 64)
	same, _ := Write(media)
	if len(least) != 6 || len(most) != 124 || len(same) != 124 {
		t.Errorf("got %d, %d, %d bytes", len(least), len(most), len(same))
	}
	for i, m := range messages() {
		if b, _ := Write(m); len(b) < 6 || len(b) > 124 || len(b) > api.MaxGram {
			t.Errorf("%d: %s has %d bytes", i, textOf(m), len(b))
		}
	}
}

func TestReadOfFewBytes(t *testing.T) {
	wantNoMessage(t, "nil", nil, api.ErrShort)
	wantNoMessage(t, "none", []byte{}, api.ErrShort)
	b, _ := Write(api.Msg{Kind: api.AckM})
	for n := range 4 {
		wantNoMessage(t, n, b[:n], api.ErrShort)
		wantNoMessage(t, n, make([]byte, n), api.ErrShort)
		wantNoMessage(t, n, bytes.Repeat([]byte{0xff}, n), api.ErrShort)
	}
	wantNoMessage(t, "the sum of nothing", make([]byte, 4), api.ErrForm)
	for n := 4; n < 6; n++ {
		wantNoMessage(t, n, b[:n], api.ErrSum)
	}
}

func TestReadOfManyBytes(t *testing.T) {
	b, _ := Write(api.Msg{Kind: api.AckM})
	for _, x := range []struct {
		n    int
		want api.Errno
	}{{65540, api.ErrSum}, {65541, api.ErrForm}, {65542, api.ErrForm}, {70000, api.ErrForm}, {1 << 20, api.ErrForm}} {
		wantNoMessage(t, x.n, bytes.Repeat([]byte{0x5a}, x.n), x.want)
		wantNoMessage(t, x.n, append(bytes.Clone(b), make([]byte, x.n-len(b))...), x.want)
	}
	for _, n := range []int{121, 200, 4000, 8191, 8192, 8193, 20000, 65535, 65536} {
		wantNoMessage(t, n, sealed(make([]byte, n)), api.ErrForm)
		wantNoMessage(t, n, sealed(bytes.Repeat([]byte{0xff}, n)), api.ErrForm)
		wantNoMessage(t, n, sealed(append(packed(bitsOf(api.Msg{Kind: api.AckM})), make([]byte, n-2)...)), api.ErrForm)
	}
}

// Of too many bytes one tells that alone, whether their sum fits or not; and of a sum that does not fit nothing else.
func TestReadOfSeveralErrors(t *testing.T) {
	wantNoMessage(t, "no kind, no sum", []byte{0x0f, 0xff, 1, 2, 3, 4}, api.ErrSum)
	wantNoMessage(t, "no kind, but a sum", sealed([]byte{0x0f, 0xff}), api.ErrForm)
	for what, l := range wrongMessages() {
		for _, m := range l {
			if !isWritable(m) {
				continue
			}
			b := writtenOf(m)
			wantNoMessage(t, what, b, api.ErrForm)
			b[len(b)-1] ^= 0x80
			wantNoMessage(t, what, b, api.ErrSum)
			wantNoMessage(t, what, b[:3], api.ErrShort)
			wantNoMessage(t, what, append(b, make([]byte, 65541-len(b))...), api.ErrForm)
		}
	}
}

// isWritable tells whether a message that may not be can be told in bits, all the same.
func isWritable(m api.Msg) bool {
	for _, v := range valuesOf(m) {
		if v < 0 || v > 1<<32-1 {
			return false
		}
	}
	return m.Kind >= 0 && m.Kind <= 15
}

func TestReadOfWrongMessages(t *testing.T) {
	n := 0
	for what, l := range wrongMessages() {
		for _, m := range l {
			if isWritable(m) {
				wantNoMessage(t, what, writtenOf(m), api.ErrForm)
				n++
			}
		}
	}
	if n < 2000 {
		t.Errorf("there were %d", n)
	}
}

// Whatever a message's bits are cut off behind, and whatever whole bytes stand behind them, they are none.
func TestReadOfTooFewAndTooManyBits(t *testing.T) {
	for i, m := range messages() {
		b := packed(bitsOf(m))
		for n := range b {
			if n%5 == i%5 || n+3 > len(b) {
				wantNoMessage(t, "too few", sealed(b[:n]), api.ErrForm)
			}
		}
		for _, more := range [][]byte{{0}, {0, 0}, {0x80}, {1}, {0xff}, b} {
			wantNoMessage(t, "too many", sealed(append(bytes.Clone(b), more...)), api.ErrForm)
		}
	}
}

// In a text of bits each piece may be another one.
func TestReadOfWrongBits(t *testing.T) {
	ack := "1011"
	zeros, ones := strings.Repeat("0", 32), strings.Repeat("1", 32)
	for _, x := range []struct{ what, text string }{
		{"nothing", ""},
		{"a kind alone", ack},
		{"a kind of 0", "0000" + "111111111"},
		{"a number too few", ack + "11111111"},
		{"a number that is cut off", ack + "11111111" + "0001"},
		{"a number of 33 noughts", ack + zeros + "01" + zeros + "11111111"},
		{"noughts alone", ack + zeros + zeros + zeros},
		{"a number of 2^32", ack + zeros + "1" + zeros[:31] + "1" + "11111111"},
		{"a number of 2^33 less 2", ack + zeros + "1" + ones + "11111111"},
		{"a number of 2^32 less 1", ack + codeOf(1<<32-1) + "11111111"},
		{"a number of 2^31", ack + codeOf(1<<31) + "11111111"},
		{"a number above MaxNum", ack + codeOf(maxNum+1) + "11111111"},
		{"the last number above MaxNum", ack + "111111" + codeOf(maxNum+1) + "11"},
		{"a Name where there is none", ack + "1111111" + codeOf(1) + "01100001" + "1"},
		{"a Name of more than there is", "0001" + "1111111" + codeOf(2) + "01100001"},
		{"a Name of more than there is, by its length", "0001" + "1111111" + codeOf(64) + "01100001" + "1"},
		{"a Name of 2^32 less 1", "0001" + "1111111" + codeOf(1<<32-1) + "01100001" + "1"},
		{"a Name of 33 noughts", "0001" + "1111111" + zeros + "01" + zeros + "1"},
		{"a Name whose end is cut off", "0001" + "1111111" + codeOf(1) + "01"},
		{"a Name without what is behind it", "0001" + "1111111" + codeOf(1) + "01100001"},
		{"a Name of 65 bytes", "0001" + "1111111" + codeOf(65) + strings.Repeat("01100001", 65) + "1"},
		{"a Name of 17 bytes", "0001" + "1111111" + codeOf(17) + strings.Repeat("01100001", 17) + "1"},
		{"a Name that is none", "0001" + "1111111" + codeOf(1) + "11111111" + "1"},
		{"a Name of a rune that is cut off", "0001" + "1111111" + codeOf(1) + "11000011" + "1" + "10101001"},
		{"bytes where there are none", ack + "1111111" + "1" + codeOf(1) + "00000000"},
		{"no bytes in a Media", "1101" + "1111111" + "1" + "1"},
		{"bytes of more than there is", "1101" + "1111111" + "1" + codeOf(2) + "00000000"},
		{"bytes of one more than there is", "1101" + "1111111" + "1" + codeOf(64) + strings.Repeat("10100101", 63)},
		{"bytes of 2^32 less 1", "1101" + "1111111" + "1" + codeOf(1<<32-1) + "00000000"},
		{"bytes of 33 noughts", "1101" + "1111111" + "1" + zeros + "01" + zeros},
		{"bytes of which the last one is cut off", "1101" + "1111111" + "1" + codeOf(1) + "0"},
		{"65 bytes", "1101" + "1111111" + "1" + codeOf(65) + strings.Repeat("10100101", 65)},
		{"a Name in a Media", "1101" + "1111111" + codeOf(1) + "01100001" + codeOf(1) + "00000000"},
		{"bytes ahead of the Name", "0001" + "1111111" + "1" + codeOf(1) + "01100001"},
	} {
		wantNoMessage(t, x.what, sealed(packed(x.text)), api.ErrForm)
	}
}

// All that two bytes, and some, may say is told.
func TestReadOfEachTwoBytes(t *testing.T) {
	came := map[api.Errno]int{}
	for i := range 1 << 16 {
		b := sealed([]byte{byte(i >> 8), byte(i)})
		wantRead(t, i, b)
		_, e := Read(b)
		came[e]++
	}
	for i := range 1 << 8 {
		wantNoMessage(t, i, sealed([]byte{byte(i)}), api.ErrForm)
	}
	// Of each kind but Media the one of noughts, and that with a 1 or a 2 for one of its seven numbers.
	if came[api.OK] != 14+14*7*2 || came[api.ErrForm] != 1<<16-came[api.OK] {
		t.Errorf("there were %v", came)
	}
}

func TestReadOfDrawnBytes(t *testing.T) {
	d := dice(12)
	came := map[api.Errno]int{}
	for range 20000 {
		b := d.bytes(of(&d, d.between(0, 8), d.between(0, 130)))
		for i, x := range [][]byte{b, sealed(b)} {
			m := wantRead(t, i, x)
			_, e := Read(x)
			came[e]++
			if e == api.OK {
				wantWritten(t, i, m)
			}
		}
	}
	for _, e := range []api.Errno{api.OK, api.ErrShort, api.ErrForm, api.ErrSum} {
		if came[e] < 10 {
			t.Errorf("there were %v", came)
		}
	}
}

// drawnBits are a message's, of which here and there something is another one.
func (d *dice) drawnBits() string {
	m := d.message(d.between(1, 15))
	switch d.between(0, 9) {
	case 0:
		m.Kind = d.between(0, 15)
	case 1:
		m = withValue(m, d.between(0, 6), of(d, maxNum+1, maxNum, 1<<32-1, d.between(0, 1<<32-1)))
	case 2:
		m.Name = of(d, d.text(), d.name(17), "a")
	case 3:
		m.Data = d.bytes(d.between(0, 66))
	}
	s := bitsOf(m)
	switch d.between(0, 7) {
	case 0:
		s = s[:d.between(0, len(s))]
	case 1:
		s += strings.Repeat("0", d.between(0, 16))
	case 2:
		s += of(d, "1", "01", "000001", "10000000")
	case 3:
		at := d.between(0, len(s)-1)
		s = s[:at] + of(d, "", "0", "1", "00", "10", "000000000000") + s[at+1:]
	}
	return s
}

func TestReadOfDrawnBits(t *testing.T) {
	d := dice(13)
	came := map[api.Errno]int{}
	for i := range 30000 {
		b := sealed(packed(d.drawnBits()))
		m := wantRead(t, i, b)
		_, e := Read(b)
		came[e]++
		if e == api.OK && !bytes.Equal(writtenOf(m), b) {
			t.Errorf("%d: %x is %s, which is written otherwise", i, b, textOf(m))
		}
	}
	if came[api.OK] < 5000 || came[api.ErrForm] < 5000 {
		t.Errorf("there were %v", came)
	}
}

// A bit that is turned ahead of the sum, which fits again: another message that may be, or none.
func TestReadOfTurnedBitsThatAreSealed(t *testing.T) {
	d := dice(14)
	came := map[api.Errno]int{}
	for _, m := range messages() {
		b := packed(bitsOf(m))
		for i := range 8 * len(b) {
			if d.between(0, 5) > 0 {
				continue
			}
			turned := bytes.Clone(b)
			turned[i/8] ^= 0x80 >> (i % 8)
			got := wantRead(t, i, sealed(turned))
			_, e := Read(sealed(turned))
			came[e]++
			if e == api.OK && Same(got, m) {
				t.Errorf("%x is %s, too", turned, textOf(m))
			}
		}
	}
	if came[api.OK] < 1000 || came[api.ErrForm] < 1000 {
		t.Errorf("there were %v", came)
	}
}

// Bytes and Data are the caller's own, on either side.
func TestOwn(t *testing.T) {
	for i, m := range messages() {
		given := copyOf(m)
		b, _ := Write(given)
		was := bytes.Clone(b)
		clear(given.Data)
		if !bytes.Equal(b, was) {
			t.Errorf("%d: Write told Data that is not its own", i)
		}
		first, _ := Read(b)
		second, _ := Read(b)
		for k := range b {
			b[k] ^= 0xff
		}
		if textOf(first) != textOf(m) {
			t.Errorf("%d: Read told what is not its own: %s", i, textOf(first))
		}
		for k := range first.Data {
			first.Data[k] ^= 0xff
		}
		_ = append(first.Data, 1, 2, 3)
		if textOf(second) != textOf(m) {
			t.Errorf("%d: Read told two the same Data: %s", i, textOf(second))
		}
		if again, _ := Write(m); !bytes.Equal(again, was) {
			t.Errorf("%d: Write told other bytes then: %x", i, again)
		}
	}
}

// Bytes that stand in greater ones are left as they are, and so is what stands beside them.
func TestReadBesideOtherBytes(t *testing.T) {
	for i, m := range messages() {
		b, _ := Write(m)
		all := append(append([]byte{1, 2, 3}, b...), 4, 5, 6)
		if got, e := Read(all[3 : 3+len(b)]); textOf(got) != textOf(m) || e != api.OK {
			t.Errorf("%d: got %s, %d", i, textOf(got), e)
		}
		if !bytes.Equal(all, append(append([]byte{1, 2, 3}, b...), 4, 5, 6)) {
			t.Errorf("%d: Read changed %x", i, all)
		}
		data := append([]byte{}, m.Data...)
		beside := append(data, 7)
		given := m
		given.Data = beside[:len(m.Data)]
		if got, e := Write(given); !bytes.Equal(got, b) || e != api.OK || beside[len(m.Data)] != 7 {
			t.Errorf("%d: got %x, %d beside %x", i, got, e, beside)
		}
	}
}
