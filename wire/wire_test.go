package wire

import (
	"bytes"
	"fmt"
	"math"
	"strings"
	"testing"

	"squelch/api"
)

// P15.1

func TestCheck(t *testing.T) {
	for i, m := range messages() {
		was := textOf(m)
		if e := Check(m); e != api.OK || !mayOf(m) {
			t.Errorf("%d: %s: got %d", i, was, e)
		}
		if textOf(m) != was {
			t.Errorf("%d: %s is %s now", i, was, textOf(m))
		}
	}
}

func TestCheckOfWrongMessages(t *testing.T) {
	for what, l := range wrongMessages() {
		for _, m := range l {
			wantNoneWritten(t, what, m)
		}
	}
}

func TestCheckOfKinds(t *testing.T) {
	for kind := -20; kind <= 40; kind++ {
		m := api.Msg{Kind: kind}
		if kind == 13 {
			m.Data = []byte{1}
		}
		if e := Check(m); (e == api.OK) != (kind >= 1 && kind <= 15) || e != api.OK && e != api.ErrArg {
			t.Errorf("%d: got %d", kind, e)
		}
	}
}

// Each number is held to its bounds, whatever the others are.
func TestCheckOfNumbers(t *testing.T) {
	for kind := 1; kind <= 15; kind++ {
		for i := range 7 {
			for _, others := range []int{0, maxNum} {
				for _, v := range []int{math.MinInt, -1, 0, 1, maxNum - 1, maxNum, maxNum + 1, math.MaxInt} {
					m := withValues(plain(kind), [7]int{others, others, others, others, others, others, others})
					want := api.OK
					if v < 0 || v > maxNum {
						want = api.ErrArg
					}
					if e := Check(withValue(m, i, v)); e != want {
						t.Errorf("%d: %d of %d among %d: got %d", kind, i, v, others, e)
					}
				}
			}
		}
	}
}

func TestCheckOfData(t *testing.T) {
	for kind := 1; kind <= 15; kind++ {
		for n := range 70 {
			want := api.ErrArg
			if kind == 13 && n >= 1 && n <= 64 || kind != 13 && n == 0 {
				want = api.OK
			}
			for _, data := range [][]byte{make([]byte, n), bytes.Repeat([]byte{0xa5}, n), make([]byte, n, 200)} {
				if e := Check(api.Msg{Kind: kind, Data: data}); e != want {
					t.Errorf("%d, %d bytes: got %d", kind, n, e)
				}
			}
		}
		if e := Check(api.Msg{Kind: kind, Data: nil}); (e == api.OK) != (kind != 13) {
			t.Errorf("%d, nil: got %d", kind, e)
		}
	}
}

// Names stand in three kinds alone, where they may be empty, too.
func TestCheckOfNames(t *testing.T) {
	for kind := 1; kind <= 15; kind++ {
		for _, s := range names() {
			m := plain(kind)
			m.Name = s
			want := api.ErrArg
			if s == "" || kind == 1 || kind == 5 || kind == 9 {
				want = api.OK
			}
			if e := Check(m); e != want {
				t.Errorf("%d, %q: got %d", kind, s, e)
			}
		}
	}
}

func TestCheckByTheWords(t *testing.T) {
	d := dice(3)
	came := map[api.Errno]int{}
	for range 20000 {
		m := d.message(d.between(1, 15))
		for range d.between(0, 2) {
			switch d.between(0, 4) {
			case 0:
				m.Kind = d.between(-1, 17)
			case 1:
				m = withValue(m, d.between(0, 6), of(&d, d.between(-2, 2), maxNum+d.between(-2, 2), int(d.next())))
			case 2:
				m.Name = of(&d, d.text(), d.name(d.between(0, 18)), "")
			case 3:
				m.Data = d.bytes(d.between(0, 66))
			}
		}
		want := api.ErrArg
		if mayOf(m) {
			want = api.OK
		}
		e := Check(m)
		came[e]++
		if e != want {
			t.Errorf("%s: got %d; want %d", textOf(m), e, want)
		}
	}
	if came[api.OK] < 3000 || came[api.ErrArg] < 3000 {
		t.Errorf("there were %v", came)
	}
}

func TestName(t *testing.T) {
	for _, s := range names() {
		if !Name(s) || !nameOf(s) {
			t.Errorf("%q is none", s)
		}
	}
	for what, s := range noNames() {
		if Name(s) || nameOf(s) {
			t.Errorf("%s: %q is one", what, s)
		}
	}
}

func TestNameOfManyRunes(t *testing.T) {
	for _, r := range []string{"a", "é", "€", "\ufffd", "\U0001f399"} {
		for n := range 40 {
			s := strings.Repeat(r, n)
			if Name(s) != (n <= 16) {
				t.Errorf("%d times %q: got %v", n, r, Name(s))
			}
			if got, want := Cut(s), strings.Repeat(r, min(n, 16)); got != want {
				t.Errorf("%d times %q: got %q", n, r, got)
			}
		}
	}
}

// wantNamed holds a text that is a name, or of which nothing is.
func wantNamed(t *testing.T, s string, want bool) {
	cut := ""
	if want {
		cut = s
	}
	if Name(s) != want || Cut(s) != cut {
		t.Errorf("%x: got %v, %q", s, Name(s), Cut(s))
	}
}

// Each number that one to four bytes tell, in each of its forms, stands alone.
func TestEachRune(t *testing.T) {
	most := []int{0, 0x7f, 0x7ff, 0xffff, 0x1fffff}
	for width := 1; width <= 4; width++ {
		for r := 0; r <= most[width]; r++ {
			shortest := r > most[width-1] || width == 1
			may := r >= 32 && r != 127 && r <= 0x10ffff && (r < 0xd800 || r > 0xdfff)
			wantNamed(t, inBytes(r, width), shortest && may)
		}
	}
	for r := range 0x800 {
		wantNamed(t, inBytes(r, 5), false)
		wantNamed(t, inBytes(r, 6), false)
	}
}

func TestEachTwoBytes(t *testing.T) {
	for i := range 1 << 16 {
		s := string([]byte{byte(i >> 8), byte(i)})
		if Name(s) != nameOf(s) || Cut(s) != cutOf(s) {
			t.Errorf("%x: got %v, %x", s, Name(s), Cut(s))
		}
	}
}

func TestNamesOfDrawnRunes(t *testing.T) {
	d := dice(4)
	for range 4000 {
		s := d.name(d.between(0, 16))
		if !Name(s) || Cut(s) != s {
			t.Errorf("%q: got %v, %q", s, Name(s), Cut(s))
		}
		more := d.name(17)
		if Name(more) || Cut(more) != cutOf(more) {
			t.Errorf("%q: got %v, %q", more, Name(more), Cut(more))
		}
		wantSpoilt(t, &d, s)
	}
}

// wantSpoilt holds that a name is none with anything else in it, and that this is what is cut of it.
func wantSpoilt(t *testing.T, d *dice, s string) {
	t.Helper()
	at := d.between(0, len(s))
	for at < len(s) && s[at] >= 0x80 && s[at] < 0xc0 {
		at++
	}
	for _, x := range []string{"\x1f", "\x7f", "\xff", "\xc0\xa0", "\xed\xa0\x80", "\xf4\x90\x80\x80"} {
		spoilt := s[:at] + x + s[at:]
		if Name(spoilt) || Cut(spoilt) != s {
			t.Errorf("%q: got %v, %q", spoilt, Name(spoilt), Cut(spoilt))
		}
	}
}

func TestCut(t *testing.T) {
	for _, x := range []struct{ s, want string }{
		{"", ""},
		{"a\xff", "a"},
		{"\xffa", "a"},
		{"a\xff\xff\xffb", "ab"},
		{"\x00\x1f\x7f\n", ""},
		{"\xff\xfe\x80\xc0", ""},
		{"a\x1fb\x7fc", "abc"},
		{" ~", " ~"},
		{"\u0080\u009f", "\u0080\u009f"},
		{"\ufffd", "\ufffd"},
		{"\xff\ufffd\xff", "\ufffd"},
		{"\xef\xbf", ""},
		{"\xef\xbf\xef\xbf\xbd", "\ufffd"},
		{"\xc0\x80a", "a"},
		{"\xe0\x80\x80a", "a"},
		{"\xf0\x80\x80\x80a", "a"},
		{"\xf0\x80\x80\x80\xe2\x82\xac", "€"},
		{"\xed\xa0\x80x\xed\xbf\xbf", "x"},
		{"\xed\x9f\xbf\xee\x80\x80", "\ud7ff\ue000"},
		{"\xf4\x8f\xbf\xbf\xf4\x90\x80\x80", "\U0010ffff"},
		// What is cut off in its middle has none, but what stands behind it has.
		{"\xe2\x82", ""},
		{"\xe2\x82a\xac", "a"},
		{"\xe2\x82€", "€"},
		{"\xf0\x9f\x8ea", "a"},
		{"\xf0\x9f\x8e\x99", "\U0001f399"},
		{"\xc3(", "("},
		{"abcdefghijklmnop", "abcdefghijklmnop"},
		{"abcdefghijklmnopq", "abcdefghijklmnop"},
		// What is left out is not counted.
		{"\xff\n\x7fabcdefgh\xff\n\x7fijklmnop\xff", "abcdefghijklmnop"},
		{"\xff\n\x7fabcdefgh\xff\n\x7fijklmnopq", "abcdefghijklmnop"},
		{strings.Repeat("\xff", 1000) + "a", "a"},
		{strings.Repeat("a\x00", 100), "aaaaaaaaaaaaaaaa"},
		{strings.Repeat("\U0010ffff", 17), strings.Repeat("\U0010ffff", 16)},
		{strings.Repeat("\U0010ffff", 16) + "\xf4", strings.Repeat("\U0010ffff", 16)},
	} {
		if got := Cut(x.s); got != x.want || cutOf(x.s) != x.want {
			t.Errorf("%q: got %q; want %q", x.s, got, x.want)
		}
		if Name(x.s) != (x.s == x.want) {
			t.Errorf("%q: got %v", x.s, Name(x.s))
		}
	}
}

func TestCutByTheWords(t *testing.T) {
	d := dice(5)
	came := map[string]int{}
	for range 20000 {
		s := of(&d, d.text(), d.text(), string(d.bytes(d.between(0, 30))))
		want := cutOf(s)
		got := Cut(s)
		if got != want || Name(s) != nameOf(s) {
			t.Errorf("%q: got %q, %v; want %q, %v", s, got, Name(s), want, nameOf(s))
		}
		if !Name(got) || Cut(got) != got {
			t.Errorf("%q: %q is no name", s, got)
		}
		came[fmt.Sprint(got == s, got == "", len([]rune(got)) == 16)]++
	}
	if len(came) < 6 {
		t.Errorf("there were %v", came)
	}
}

func TestSame(t *testing.T) {
	l := messages()
	for i, a := range l {
		if !Same(a, a) || !Same(a, copyOf(a)) {
			t.Errorf("%s is not the same", textOf(a))
		}
		for _, b := range l[:i] {
			if want := textOf(a) == textOf(b); Same(a, b) != want || Same(b, a) != want {
				t.Errorf("%s, %s: got %v, %v", textOf(a), textOf(b), Same(a, b), Same(b, a))
			}
		}
	}
}

func copyOf(m api.Msg) api.Msg {
	m.Data = bytes.Clone(m.Data)
	m.Name = strings.Clone(m.Name)
	return m
}

// Of messages that may not be, too, all must be the same, and may.
func TestSameOfWrongMessages(t *testing.T) {
	var l []api.Msg
	for _, some := range wrongMessages() {
		l = append(l, some[0], some[len(some)-1])
	}
	for i, a := range l {
		if !Same(a, copyOf(a)) {
			t.Errorf("%s is not the same", textOf(a))
		}
		for _, b := range l[:i] {
			if want := textOf(a) == textOf(b); Same(a, b) != want || Same(b, a) != want {
				t.Errorf("%s, %s: got %v, %v", textOf(a), textOf(b), Same(a, b), Same(b, a))
			}
		}
	}
}

func TestSameOfEachField(t *testing.T) {
	d := dice(6)
	for kind := -1; kind <= 17; kind++ {
		m := d.message(kind)
		m.Name, m.Data = "Ada", []byte{1, 2, 3}
		for what, other := range map[string]func(m *api.Msg){
			"Kind":              func(m *api.Msg) { m.Kind++ },
			"Kind and 2^32":     func(m *api.Msg) { m.Kind += 1 << 32 },
			"Name":              func(m *api.Msg) { m.Name = "ada" },
			"no Name":           func(m *api.Msg) { m.Name = "" },
			"a longer Name":     func(m *api.Msg) { m.Name = "Adam" },
			"another Name":      func(m *api.Msg) { m.Name = "Ada\xff" },
			"Data":              func(m *api.Msg) { m.Data = []byte{1, 2, 4} },
			"no Data":           func(m *api.Msg) { m.Data = nil },
			"Data less":         func(m *api.Msg) { m.Data = []byte{1, 2} },
			"Data more":         func(m *api.Msg) { m.Data = []byte{1, 2, 3, 0} },
			"Data in its order": func(m *api.Msg) { m.Data = []byte{3, 2, 1} },
			"Group":             func(m *api.Msg) { m.Group ^= 1 },
			"From":              func(m *api.Msg) { m.From ^= 1 },
			"To":                func(m *api.Msg) { m.To ^= 1 },
			"Tid":               func(m *api.Msg) { m.Tid ^= 1 },
			"Epoch":             func(m *api.Msg) { m.Epoch ^= 1 },
			"A":                 func(m *api.Msg) { m.A ^= 1 },
			"B":                 func(m *api.Msg) { m.B ^= 1 },
			"B and 2^32":        func(m *api.Msg) { m.B += 1 << 32 },
			"the least A":       func(m *api.Msg) { m.A = math.MinInt },
		} {
			changed := copyOf(m)
			other(&changed)
			if Same(m, changed) || Same(changed, m) {
				t.Errorf("%s: %s and %s are the same", what, textOf(m), textOf(changed))
			}
		}
		if !Same(m, copyOf(m)) {
			t.Errorf("%s is not the same", textOf(m))
		}
	}
	if !Same(api.Msg{}, api.Msg{}) || !Same(api.Msg{Kind: 3}, api.Msg{Kind: 3, Data: []byte{}}) || !Same(api.Msg{Data: make([]byte, 0, 5)}, api.Msg{}) {
		t.Errorf("a list without elements is not the same as none")
	}
}

// Numbers that change places make another message.
func TestSameOfNumbersInAnotherOrder(t *testing.T) {
	m := withValues(plain(api.AckM), [7]int{1, 2, 3, 4, 5, 6, 7})
	for i := range 7 {
		for k := range i {
			l := valuesOf(m)
			l[i], l[k] = l[k], l[i]
			if Same(m, withValues(m, l)) {
				t.Errorf("%v is the same", l)
			}
		}
	}
}

// P15.3

func TestAnswer(t *testing.T) {
	want := map[int]int{api.GrantM: api.AckM, api.DenyM: api.AckM, api.QueueM: api.AckM, api.RevokeM: api.AckM, api.WelcomeM: api.AckM}
	kinds := []int{math.MinInt, -256, 256 + 5, 1<<32 + 5, math.MaxInt}
	for kind := -20; kind <= 40; kind++ {
		kinds = append(kinds, kind)
	}
	for _, kind := range kinds {
		_, is := want[kind]
		if k, got := Answer(api.Msg{Kind: kind}); k != want[kind] || got != is {
			t.Errorf("%d: got %d, %v", kind, k, got)
		}
	}
}

// Nothing but its kind is asked of a message.
func TestAnswerOfAll(t *testing.T) {
	all := messages()
	for _, l := range wrongMessages() {
		all = append(all, l...)
	}
	for _, m := range all {
		was := textOf(m)
		want := m.Kind >= 5 && m.Kind <= 8 || m.Kind == 15
		k, is := Answer(m)
		if is != want || is && k != 11 || !is && k != 0 {
			t.Errorf("%s: got %d, %v", was, k, is)
		}
		if textOf(m) != was {
			t.Errorf("%s is %s now", was, textOf(m))
		}
	}
}
