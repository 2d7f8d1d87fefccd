package wire

import (
	"bytes"
	"fmt"
	"hash/crc32"
	"math"
	"strconv"
	"strings"
	"testing"

	"squelch/api"
	"squelch/crc"
)

// maxNum is 2^30.
const maxNum = 1073741824

// textOf is all of a message as a text, so that two can be held against each other, each of their bytes too.
func textOf(m api.Msg) string {
	return fmt.Sprintf("%d: %v %x %x", m.Kind, valuesOf(m), m.Name, m.Data)
}

func valuesOf(m api.Msg) [7]int {
	return [7]int{m.Group, m.From, m.To, m.Tid, m.Epoch, m.A, m.B}
}

// withValues is m with other numbers.
func withValues(m api.Msg, l [7]int) api.Msg {
	m.Group, m.From, m.To, m.Tid, m.Epoch, m.A, m.B = l[0], l[1], l[2], l[3], l[4], l[5], l[6]
	return m
}

// withValue is m with another one of its numbers.
func withValue(m api.Msg, i, v int) api.Msg {
	l := valuesOf(m)
	l[i] = v
	return withValues(m, l)
}

// runeOf is the rune with which s begins, and how many bytes it has: none, if these are no UTF-8 in its shortest form.
func runeOf(s string) (int, int) {
	b := int(s[0])
	width, r, least := 0, 0, 0
	switch {
	case b < 0x80:
		return b, 1
	case b >= 0xc0 && b <= 0xdf:
		width, r, least = 2, b-0xc0, 0x80
	case b >= 0xe0 && b <= 0xef:
		width, r, least = 3, b-0xe0, 0x800
	case b >= 0xf0 && b <= 0xf7:
		width, r, least = 4, b-0xf0, 0x10000
	}
	if width == 0 || len(s) < width {
		return 0, 0
	}
	for _, c := range []byte(s[1:width]) {
		if c < 0x80 || c > 0xbf {
			return 0, 0
		}
		r = 64*r + int(c) - 0x80
	}
	if r < least || r > 0x10ffff || r >= 0xd800 && r <= 0xdfff {
		return 0, 0
	}
	return r, width
}

// inBytes is the number r written as so many bytes, as UTF-8 would write it, though it may be no rune, and the form not the shortest one.
func inBytes(r, width int) string {
	if width == 1 {
		return string([]byte{byte(r)})
	}
	b := make([]byte, width)
	for i := width - 1; i > 0; i-- {
		b[i] = byte(0x80 + r%64)
		r /= 64
	}
	b[0] = byte([]int{0xc0, 0xe0, 0xf0, 0xf8, 0xfc}[width-2] + r)
	return string(b)
}

func mayStandInNames(r int) bool { return r >= 32 && r != 127 }

// nameOf is the chapter's words.
func nameOf(s string) bool {
	many := 0
	for len(s) > 0 {
		r, width := runeOf(s)
		if width == 0 || !mayStandInNames(r) {
			return false
		}
		s = s[width:]
		many++
	}
	return many <= 16
}

// cutOf is the chapter's words.
func cutOf(s string) string {
	var l []string
	for len(s) > 0 {
		r, width := runeOf(s)
		if width == 0 {
			s = s[1:]
			continue
		}
		if mayStandInNames(r) {
			l = append(l, s[:width])
		}
		s = s[width:]
	}
	return strings.Join(l[:min(len(l), 16)], "")
}

// mayOf is the chapter's words, with all bounds as numbers.
func mayOf(m api.Msg) bool {
	if m.Kind < 1 || m.Kind > 15 {
		return false
	}
	for _, v := range valuesOf(m) {
		if v < 0 || v > maxNum {
			return false
		}
	}
	named := m.Kind == 1 || m.Kind == 9 || m.Kind == 5
	if !nameOf(m.Name) || !named && len(m.Name) > 0 {
		return false
	}
	if m.Kind == 13 {
		return len(m.Data) >= 1 && len(m.Data) <= 64
	}
	return len(m.Data) == 0
}

// codeOf is a number's code as a text of 0 and 1.
func codeOf(v int) string {
	s := strconv.FormatInt(int64(v)+1, 2)
	return strings.Repeat("0", len(s)-1) + s
}

func bytesOf(b []byte) string {
	var s strings.Builder
	for _, c := range b {
		fmt.Fprintf(&s, "%08b", c)
	}
	return s.String()
}

// headOf are a message's bits ahead of its name.
func headOf(m api.Msg) string {
	s := fmt.Sprintf("%04b", m.Kind)
	for _, v := range valuesOf(m) {
		s += codeOf(v)
	}
	return s
}

// bitsOf are a message's bits, whether it may be or not, but for the noughts behind.
func bitsOf(m api.Msg) string {
	return headOf(m) + codeOf(len(m.Name)) + bytesOf([]byte(m.Name)) + codeOf(len(m.Data)) + bytesOf(m.Data)
}

// packed are the bytes of a text of 0 and 1, with noughts up to a whole byte.
func packed(s string) []byte {
	s += strings.Repeat("0", (8-len(s)%8)%8)
	b := make([]byte, len(s)/8)
	for i := range s {
		b[i/8] = b[i/8]*2 + s[i] - '0'
	}
	return b
}

func sealed(b []byte) []byte {
	f, e := crc.Seal(b)
	if e != api.OK {
		panic("too long for a frame")
	}
	return f
}

// writtenOf are a message's bytes, whether it may be or not.
func writtenOf(m api.Msg) []byte { return sealed(packed(bitsOf(m))) }

// scan is a text of 0 and 1 that is read from the front.
type scan struct {
	s   string
	bad bool
}

func (s *scan) take(n int) string {
	if s.bad || n > len(s.s) {
		s.bad = true
		return ""
	}
	got := s.s[:n]
	s.s = s.s[n:]
	return got
}

func (s *scan) number(n int) int {
	got := s.take(n)
	v, err := strconv.ParseInt(got, 2, 64)
	if err != nil {
		s.bad = true
	}
	return int(v)
}

func (s *scan) code() int {
	zeros := strings.IndexByte(s.s, '1')
	if zeros < 0 || zeros > 32 {
		s.bad = true
		return 0
	}
	s.take(zeros)
	return s.number(zeros+1) - 1
}

func (s *scan) bytes() []byte {
	n := s.code()
	if n > 64 {
		s.bad = true
	}
	var l []byte
	for i := 0; i < n && !s.bad; i++ {
		l = append(l, byte(s.number(8)))
	}
	return l
}

// readOf is the chapter's words, the sum worked out by the library.
func readOf(b []byte) (api.Msg, api.Errno) {
	if len(b) < 4 {
		return api.Msg{}, 20
	}
	if len(b) > 65540 {
		return api.Msg{}, 21
	}
	n := len(b) - 4
	sum := crc32.ChecksumIEEE(b[:n])
	if !bytes.Equal(b[n:], []byte{byte(sum), byte(sum >> 8), byte(sum >> 16), byte(sum >> 24)}) {
		return api.Msg{}, 30
	}
	s := scan{s: bytesOf(b[:n])}
	m := api.Msg{Kind: s.number(4)}
	var l [7]int
	for i := range l {
		l[i] = s.code()
	}
	m = withValues(m, l)
	m.Name = string(s.bytes())
	m.Data = s.bytes()
	if s.bad || len(s.s) > 7 || strings.Contains(s.s, "1") || !mayOf(m) {
		return api.Msg{}, 21
	}
	return m, 0
}

// wantWritten is Write and Read of a message that may be, as one asks them who goes on with what they answer.
func wantWritten(t *testing.T, what any, m api.Msg) []byte {
	t.Helper()
	was := textOf(m)
	want := writtenOf(m)
	b, e := Write(m)
	if !bytes.Equal(b, want) || e != api.OK {
		t.Errorf("%v: Write of %s: got %x, %d; want %x", what, was, b, e, want)
	}
	if e := Check(m); e != api.OK {
		t.Errorf("%v: Check of %s: got %d", what, was, e)
	}
	if got := wantRead(t, what, want); textOf(got) != was || !Same(got, m) || !Same(m, got) {
		t.Errorf("%v: Read of what %s is written as: got %s", what, was, textOf(got))
	}
	if textOf(m) != was {
		t.Errorf("%v: %s is %s now", what, was, textOf(m))
	}
	return want
}

// wantRead is Read, held against the chapter's words.
func wantRead(t *testing.T, what any, b []byte) api.Msg {
	t.Helper()
	was := bytes.Clone(b)
	want, wantE := readOf(b)
	m, e := Read(b)
	if textOf(m) != textOf(want) || e != wantE {
		t.Errorf("%v: Read of %x: got %s, %d; want %s, %d", what, short(was), textOf(m), e, textOf(want), wantE)
	}
	if e == api.OK && Check(m) != api.OK {
		t.Errorf("%v: Read of %x: %s may not be", what, short(was), textOf(m))
	}
	if !bytes.Equal(b, was) {
		t.Errorf("%v: Read changed %x to %x", what, short(was), short(b))
	}
	return m
}

// wantNoMessage is Read of bytes that are none, for that error.
func wantNoMessage(t *testing.T, what any, b []byte, want api.Errno) {
	t.Helper()
	wantRead(t, what, b)
	if m, e := Read(b); textOf(m) != textOf(api.Msg{}) || e != want {
		t.Errorf("%v: Read of %x: got %s, %d; want %d", what, short(b), textOf(m), e, want)
	}
}

// wantNoneWritten is Check and Write of a message that may not be.
func wantNoneWritten(t *testing.T, what any, m api.Msg) {
	t.Helper()
	if e := Check(m); e != api.ErrArg || mayOf(m) {
		t.Errorf("%v: Check of %s: got %d", what, textOf(m), e)
	}
	if b, e := Write(m); len(b) != 0 || e != api.ErrArg {
		t.Errorf("%v: Write of %s: got %x, %d", what, textOf(m), b, e)
	}
}

// short is as much of b as is worth telling.
func short(b []byte) []byte { return b[:min(len(b), 150)] }

// dice are numbers that are the same in each run.
type dice uint64

func (d *dice) next() uint64 {
	*d = *d*6364136223846793005 + 1442695040888963407
	x := uint64(*d)
	return x ^ x>>29
}

func (d *dice) between(least, most int) int {
	return least + int((d.next()>>1)%uint64(most-least+1))
}

func of[T any](d *dice, l ...T) T { return l[d.between(0, len(l)-1)] }

// value is a number of a message that may be: at an end, near one, of any length.
func (d *dice) value() int {
	switch d.between(0, 4) {
	case 0:
		return d.between(0, 3)
	case 1:
		return maxNum - d.between(0, 3)
	case 2:
		return d.between(0, maxNum)
	}
	return min(1<<d.between(0, 30)+d.between(-2, 2)+1, maxNum)
}

func (d *dice) values() (l [7]int) {
	for i := range l {
		l[i] = d.value()
	}
	return l
}

// rune is one that a name may have, of so many bytes.
func (d *dice) rune(width int) string {
	switch width {
	case 1:
		return inBytes(d.between(32, 126), 1)
	case 2:
		return inBytes(d.between(0x80, 0x7ff), 2)
	case 3:
		return inBytes(of(d, d.between(0x800, 0xd7ff), d.between(0xe000, 0xffff), 0xfffd, 0xd7ff, 0xe000), 3)
	}
	return inBytes(d.between(0x10000, 0x10ffff), 4)
}

// name is one of many runes, of all widths, or of one.
func (d *dice) name(many int) string {
	var s strings.Builder
	least, most := of(d, 1, 1, 2, 3, 4), 4
	if d.between(0, 1) == 0 {
		most = least
	}
	for range many {
		s.WriteString(d.rune(d.between(least, most)))
	}
	return s.String()
}

// noise is a piece of a text that a name may not have, or not so.
func (d *dice) noise() string {
	switch d.between(0, 5) {
	case 0:
		return inBytes(of(d, 0, 9, 10, 31, 127), 1)
	case 1:
		return inBytes(d.between(0xd800, 0xdfff), 3)
	case 2:
		return inBytes(d.between(0x110000, 0x1fffff), 4)
	case 3:
		width := d.between(2, 4)
		return inBytes(d.between(0, []int{0x7f, 0x7ff, 0xffff}[width-2]), width)
	case 4:
		width := d.between(2, 4)
		return d.rune(width)[:d.between(1, width-1)]
	}
	return string([]byte{byte(d.between(0x80, 0xff))})
}

// text is one of runes that a name may have, and of what it may not.
func (d *dice) text() string {
	var s strings.Builder
	share := d.between(0, 10)
	for range d.between(0, 40) {
		if d.between(1, 10) <= share {
			s.WriteString(d.noise())
			continue
		}
		s.WriteString(d.rune(d.between(1, 4)))
	}
	return s.String()
}

func (d *dice) bytes(n int) []byte {
	b := make([]byte, n)
	for i := range b {
		b[i] = byte(d.next() >> 20)
	}
	return b
}

// message is one of that kind that may be.
func (d *dice) message(kind int) api.Msg {
	m := withValues(api.Msg{Kind: kind}, d.values())
	if named(kind) {
		m.Name = d.name(of(d, 0, 1, 15, 16, d.between(0, 16)))
	}
	if kind == api.MediaM {
		m.Data = d.bytes(of(d, 1, 2, 63, 64, d.between(1, 64)))
	}
	return m
}

func named(kind int) bool { return strings.Contains(" 1 9 5 ", fmt.Sprintf(" %d ", kind)) }

// messages are those at the ends of what may be, and drawn ones, of each kind.
func messages() []api.Msg {
	var l []api.Msg
	d := dice(1)
	for kind := 1; kind <= 15; kind++ {
		m := plain(kind)
		l = append(l, m, withValues(m, [7]int{maxNum, maxNum, maxNum, maxNum, maxNum, maxNum, maxNum}))
		for i := range 7 {
			l = append(l, withValue(m, i, 1), withValue(m, i, maxNum))
		}
		for range 40 {
			l = append(l, d.message(kind))
		}
	}
	for _, s := range names() {
		l = append(l, api.Msg{Kind: api.JoinM, Name: s}, api.Msg{Kind: api.GrantM, From: 3, Name: s}, api.Msg{Kind: api.TakenM, B: maxNum, Name: s})
	}
	for n := 1; n <= 64; n++ {
		l = append(l, api.Msg{Kind: api.MediaM, A: 7, Data: bytes.Repeat([]byte{0}, n)}, api.Msg{Kind: api.MediaM, Data: bytes.Repeat([]byte{0xff}, n)})
	}
	return l
}

// plain is a message of that kind with as little as there may be.
func plain(kind int) api.Msg {
	m := api.Msg{Kind: kind}
	if kind == api.MediaM {
		m.Data = []byte{0}
	}
	return m
}

// names are those at the ends of what may be.
func names() []string {
	l := []string{"", "Ada", "Ada €", strings.Repeat("a", 16), "  ", "\ufffd"}
	for _, r := range []int{32, 126, 0x80, 0x9f, 0x7ff, 0x800, 0xd7ff, 0xe000, 0xfffd, 0xfffe, 0xffff, 0x10000, 0x10ffff} {
		s := string(rune(r))
		l = append(l, s, strings.Repeat(s, 16), "a"+s, s+"a", s+"\U0010ffff")
	}
	return l
}

// noNames are texts that are none, by what is wrong with them.
func noNames() map[string]string {
	no := map[string]string{
		"17 runes":                          "12345678901234567",
		"17 runes of four bytes":            strings.Repeat("\U0001f399", 17),
		"16 runes and a byte":               "1234567890123456\xff",
		"65 bytes of no rune":               strings.Repeat("\x80", 65),
		"a thousand runes":                  strings.Repeat("a", 1000),
		"c0 80":                             "\xc0\x80",
		"c1 bf":                             "\xc1\xbf",
		"e0 80 80":                          "\xe0\x80\x80",
		"e0 9f bf":                          "\xe0\x9f\xbf",
		"f0 80 80 80":                       "\xf0\x80\x80\x80",
		"f0 8f bf bf":                       "\xf0\x8f\xbf\xbf",
		"a space in two bytes":              "\xc0\xa0",
		"a letter in two bytes":             inBytes('a', 2),
		"fffd in four bytes":                inBytes(0xfffd, 4),
		"d800":                              "\xed\xa0\x80",
		"dfff":                              "\xed\xbf\xbf",
		"a pair of d800 and dc00":           "\xed\xa0\x80\xed\xb0\x80",
		"110000":                            "\xf4\x90\x80\x80",
		"1fffff":                            "\xf7\xbf\xbf\xbf",
		"five bytes":                        "\xf8\x88\x80\x80\x80",
		"a following byte":                  "\x80",
		"the last following byte":           "\xbf",
		"a following byte behind a rune":    "€\x82",
		"ff":                                "\xff",
		"fe":                                "a\xfeb",
		"two bytes of which one is missing": "a\xc3",
		"three of which one is missing":     "\xe2\x82",
		"three of which one is a letter":    "\xe2\x82a",
		"four of which three are missing":   "abc\xf0",
		"four of which one is missing":      "\xf0\x9f\x8e",
		"a first byte in the middle":        "\xe2\xe2\x82\xac",
		"fffd behind a byte that is none":   "\xef\ufffd",
		"a byte that is none behind fffd":   "\ufffd\xff",
	}
	for _, r := range []int{0, 1, 9, 10, 13, 27, 31, 127} {
		s := string(rune(r))
		no[fmt.Sprintf("rune %d", r)] = s
		no[fmt.Sprintf("rune %d behind others", r)] = "abc" + s
		no[fmt.Sprintf("rune %d ahead of others", r)] = s + "€"
	}
	return no
}

// spoils are what makes a message of any kind one that may not be.
func spoils() map[string]func(m *api.Msg) {
	l := map[string]func(m *api.Msg){
		"Kind of 0":              func(m *api.Msg) { m.Kind = 0 },
		"Kind of 16":             func(m *api.Msg) { m.Kind = 16 },
		"Kind of 17":             func(m *api.Msg) { m.Kind = 17 },
		"Kind of -1":             func(m *api.Msg) { m.Kind = -1 },
		"Kind and 256":           func(m *api.Msg) { m.Kind += 256 },
		"Kind and 2^32":          func(m *api.Msg) { m.Kind += 1 << 32 },
		"the least Kind":         func(m *api.Msg) { m.Kind = math.MinInt },
		"the greatest Kind":      func(m *api.Msg) { m.Kind = math.MaxInt },
		"Kind the other way":     func(m *api.Msg) { m.Kind = -m.Kind },
		"each number of -1":      func(m *api.Msg) { *m = withValues(*m, [7]int{-1, -1, -1, -1, -1, -1, -1}) },
		"no Name's Name":         func(m *api.Msg) { m.Name = strings.Repeat("a", 17) },
		"Name and Data too long": func(m *api.Msg) { m.Name, m.Data = strings.Repeat("€", 17), make([]byte, 65) },
		"Data of 65 bytes":       func(m *api.Msg) { m.Data = make([]byte, 65) },
		"Data of 1000 bytes":     func(m *api.Msg) { m.Data = make([]byte, 1000) },
		"nothing":                func(m *api.Msg) { *m = api.Msg{} },
		"all of it": func(m *api.Msg) {
			*m = api.Msg{Kind: 16, Group: -1, From: -1, To: maxNum + 1, Tid: -1, Epoch: -1, A: -1, B: maxNum + 1, Name: "\xff", Data: make([]byte, 65)}
		},
		"Data of the other kind": func(m *api.Msg) {
			if m.Kind == api.MediaM {
				m.Data = nil
				return
			}
			m.Data = []byte{1}
		},
		"Name of the other kind": func(m *api.Msg) {
			if named(m.Kind) {
				m.Name = "\xff"
				return
			}
			m.Name = "a"
		},
	}
	for i, field := range []string{"Group", "From", "To", "Tid", "Epoch", "A", "B"} {
		for _, v := range []int{-1, maxNum + 1, -maxNum, 2 * maxNum, 1 << 31, 1<<32 - 1, 1 << 32, math.MinInt, math.MaxInt} {
			l[fmt.Sprintf("%s of %d", field, v)] = func(m *api.Msg) { *m = withValue(*m, i, v) }
		}
	}
	return l
}

// wrongMessages are those that may not be, by what is wrong with them.
func wrongMessages() map[string][]api.Msg {
	wrong := map[string][]api.Msg{}
	d := dice(2)
	for kind := 1; kind <= 15; kind++ {
		for what, spoil := range spoils() {
			for _, m := range []api.Msg{plain(kind), d.message(kind)} {
				spoil(&m)
				wrong[what] = append(wrong[what], m)
			}
		}
		for what, s := range noNames() {
			m := d.message(kind)
			m.Name = s
			wrong[what] = append(wrong[what], m)
		}
		for _, s := range names() {
			if s != "" && !named(kind) {
				m := d.message(kind)
				m.Name = s
				wrong["Name in a kind that has none"] = append(wrong["Name in a kind that has none"], m)
			}
		}
	}
	return wrong
}
