package wire

import (
	"bytes"
	"fmt"
	"math"
	"testing"

	"squelch/api"
)

// P15.4

func TestWhatWasWrittenIsRead(t *testing.T) {
	d := dice(20)
	for i := range 6000 {
		m := d.message(i%15 + 1)
		b, e := Write(m)
		if e != api.OK {
			t.Errorf("%s: got %d", textOf(m), e)
		}
		if got, e := Read(b); !Same(got, m) || textOf(got) != textOf(m) || e != api.OK {
			t.Errorf("%s: got %s, %d", textOf(m), textOf(got), e)
		}
	}
}

// others are m with one of its fields another one, each of which may be.
func (d *dice) others(m api.Msg) map[string]api.Msg {
	l := map[string]api.Msg{}
	for i, field := range []string{"Group", "From", "To", "Tid", "Epoch", "A", "B"} {
		v := d.value()
		if v == valuesOf(m)[i] {
			v ^= 1
		}
		l[field] = withValue(m, i, v)
		l[field+" beside"] = withValue(m, i, valuesOf(m)[i]^1)
	}
	for kind := 1; kind <= 15; kind++ {
		if kind != m.Kind {
			other := m
			other.Kind = kind
			l[fmt.Sprint("Kind of ", kind)] = other
		}
	}
	other := m
	other.Name = m.Name + "a"
	l["Name longer"] = other
	other.Name = d.name(d.between(1, 16))
	l["Name"] = other
	other = m
	other.Data = append(bytes.Clone(m.Data), 0)
	l["Data longer"] = other
	other.Data = append(bytes.Clone(m.Data), 0)
	other.Data[0] ^= byte(1 << d.between(0, 7))
	other.Data = other.Data[:max(1, len(m.Data))]
	l["Data"] = other
	return l
}

func TestOthersHaveOtherBytes(t *testing.T) {
	d := dice(21)
	told := map[string]int{}
	for i := range 1500 {
		m := d.message(i%15 + 1)
		b, _ := Write(m)
		for what, other := range d.others(m) {
			if Check(other) != api.OK || Same(m, other) {
				continue
			}
			told[what]++
			if got, e := Write(other); bytes.Equal(got, b) || e != api.OK {
				t.Errorf("%s: %s and %s are %x, %x, %d", what, textOf(m), textOf(other), b, got, e)
			}
			wantWritten(t, what, other)
		}
	}
	// No other kind may be in place of Media, whose bytes they have not.
	if len(told) != 14+14+2+2 {
		t.Errorf("there were %v", told)
	}
}

func TestAllHaveOtherBytes(t *testing.T) {
	whose := map[string]string{}
	for i, m := range messages() {
		b, _ := Write(m)
		if other, is := whose[string(b)]; is && other != textOf(m) {
			t.Errorf("%d: %s and %s are both %x", i, textOf(m), other, b)
		}
		whose[string(b)] = textOf(m)
	}
}

// turn turns of b the bits from one place to another (in the bytes' order, each one's lowest bit first): both ends, and some between.
func turn(b []byte, from, to int, between uint64) {
	for i := from; i <= to; i++ {
		if i == from || i == to || between>>(i-from)&1 == 1 {
			b[i/8] ^= 1 << (i % 8)
		}
	}
}

func wantTurned(t *testing.T, m api.Msg, b []byte, from, wide int, between uint64) {
	t.Helper()
	if from+wide > 8*len(b) {
		return
	}
	turned := bytes.Clone(b)
	turn(turned, from, from+wide-1, between)
	if got, e := Read(turned); e != api.ErrSum || textOf(got) != textOf(api.Msg{}) {
		t.Errorf("%s, %x turned to %x: got %s, %d", textOf(m), b, turned, textOf(got), e)
	}
}

func TestTurnedBits(t *testing.T) {
	d := dice(22)
	for kind := 1; kind <= 15; kind++ {
		for _, m := range []api.Msg{plain(kind), d.message(kind)} {
			b, _ := Write(m)
			for from := range 8 * len(b) {
				for _, wide := range []int{1, 2, 32, d.between(3, 31), d.between(3, 31)} {
					wantTurned(t, m, b, from, wide, d.next()>>8)
				}
				wantTurned(t, m, b, from, 32, math.MaxUint64)
				wantTurned(t, m, b, from, 32, 0)
			}
		}
	}
}

// One message at each place, in each width, in a few ways.
func TestTurnedBitsOfEachWidth(t *testing.T) {
	d := dice(23)
	for _, m := range []api.Msg{{Kind: api.AckM}, {Kind: api.JoinM, Group: 1, From: 2, Tid: 3, Name: "Ada €"}} {
		b, _ := Write(m)
		for from := range 8 * len(b) {
			for wide := 1; wide <= 32; wide++ {
				for _, between := range []uint64{0, math.MaxUint64, d.next() >> 8, d.next() >> 8} {
					wantTurned(t, m, b, from, wide, between)
				}
			}
		}
	}
}

// In whatever way two bytes of the sum, or of what stands ahead of it, are turned, no message is left.
func TestTwoBytesInAllWays(t *testing.T) {
	b, _ := Write(api.Msg{Kind: api.GrantM, Epoch: 2})
	for _, at := range []int{0, len(b) - 5, len(b) - 2} {
		for i := 1; i < 1<<16; i++ {
			turned := bytes.Clone(b)
			turned[at] ^= byte(i)
			turned[at+1] ^= byte(i >> 8)
			if m, e := Read(turned); e != api.ErrSum {
				t.Errorf("%x: got %s, %d", turned, textOf(m), e)
			}
		}
	}
}

// The same is asked, and the same answered.
func TestAgain(t *testing.T) {
	for i, m := range messages() {
		b, e := Write(m)
		for range 2 {
			if again, e2 := Write(m); !bytes.Equal(again, b) || e2 != e {
				t.Errorf("%d: %s: got %x, %x", i, textOf(m), b, again)
			}
		}
	}
}
