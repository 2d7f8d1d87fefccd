package listen

import (
	"math"
	"testing"

	"squelch/api"
	"squelch/decoder"
	"squelch/jitter"
)

// P14.1

func TestOpen(t *testing.T) {
	for _, epoch := range []int{0, 1, 2, 4, 1000, most - 1, most} {
		for _, from := range []int{0, 1, 3, 77, most - 1, most} {
			for depth := 1; depth <= 16; depth++ {
				want := api.Ear{Epoch: epoch, From: from, J: api.Jitter{Depth: depth}, S: api.Synth{Seed: 1}, On: false, Miss: 0}
				e, errno := Open(epoch, from, depth)
				if textOf(e) != textOf(want) || errno != api.OK || Check(e) != api.OK {
					t.Errorf("%d, %d, %d: got %s, %d", epoch, from, depth, textOf(e), errno)
				}
				if j, _ := jitter.New(depth); !jitter.Same(e.J, j) || e.S != decoder.Start() {
					t.Errorf("%d, %d, %d: got %s", epoch, from, depth, textOf(e))
				}
			}
		}
	}
}

func TestOpenOfWrongNumbers(t *testing.T) {
	wrong := []int{-1, -2, math.MinInt, most + 1, math.MaxInt}
	depths := []int{0, -1, 17, 18, math.MinInt, math.MaxInt}
	check := func(epoch, from, depth int) {
		t.Helper()
		if e, errno := Open(epoch, from, depth); textOf(e) != textOf(api.Ear{}) || errno != api.ErrArg {
			t.Errorf("%d, %d, %d: got %s, %d", epoch, from, depth, textOf(e), errno)
		}
	}
	for _, w := range wrong {
		for _, good := range []int{0, 5, most} {
			for _, depth := range []int{1, 2, 16} {
				check(w, good, depth)
				check(good, w, depth)
				check(w, w, depth)
			}
		}
	}
	for _, depth := range depths {
		for _, good := range []int{0, 5, most} {
			check(good, most-good, depth)
			check(-1, good, depth)
			check(good, most+1, depth)
			check(-1, most+1, depth)
		}
	}
}

func TestCheck(t *testing.T) {
	for _, e := range ears() {
		was := textOf(e)
		if errno := Check(e); errno != api.OK || textOf(e) != was {
			t.Errorf("%s: got %d", was, errno)
		}
	}
	for what, l := range wrongEars() {
		for _, e := range l {
			if errno := Check(e); errno != api.ErrArg || mayOf(e) {
				t.Errorf("%s: %s: got %d", what, textOf(e), errno)
			}
		}
	}
}

// Each number of an ear about the bounds of what may be.
func TestCheckAtTheBounds(t *testing.T) {
	for _, e := range ears() {
		for v, want := range map[int]api.Errno{math.MinInt: 1, -1: 1, 0: 0, 1: 0, most - 1: 0, most: 0, most + 1: 1, 2 * most: 1, math.MaxInt: 1} {
			epoch, from, miss := e, e, e
			epoch.Epoch, from.From, miss.Miss = v, v, v
			for what, e := range map[string]api.Ear{"Epoch": epoch, "From": from, "Miss": miss} {
				if errno := Check(e); errno != want {
					t.Errorf("%s: %s: got %d; want %d", what, textOf(e), errno, want)
				}
			}
		}
		for depth := -1; depth <= 18; depth++ {
			other := e
			other.J.Depth = depth
			if ok := Check(other) == api.OK; ok != (depth >= 1 && depth <= 16) {
				t.Errorf("%s: got %v", textOf(other), ok)
			}
		}
		for n := range api.Hop {
			for v, want := range map[int]api.Errno{-most - 1: 1, -most: 0, most: 0, most + 1: 1} {
				other := e
				other.S.T[n] = v
				if errno := Check(other); errno != want {
					t.Errorf("%s: got %d; want %d", textOf(other), errno, want)
				}
			}
		}
		for b := range api.Bands {
			for v, want := range map[int]api.Errno{-1: 1, 0: 0, 255: 0, 256: 1} {
				other := e
				other.S.L[b] = v
				if errno := Check(other); errno != want {
					t.Errorf("%s: got %d; want %d", textOf(other), errno, want)
				}
			}
		}
	}
}

// What is heard already hangs on nothing else: each is On or not, whatever else stands there.
func TestCheckHoldsNothingAgainstOn(t *testing.T) {
	for _, e := range ears() {
		for _, on := range []bool{false, true} {
			for _, miss := range []int{0, 1, most} {
				e.On, e.Miss = on, miss
				if errno := Check(e); errno != api.OK {
					t.Errorf("%s: got %d", textOf(e), errno)
				}
			}
		}
	}
}

func TestSame(t *testing.T) {
	l := ears()
	for i, a := range l {
		for k, b := range l {
			want := textOf(a) == textOf(b)
			if i == k && !want {
				t.Fatalf("%s is not %s", textOf(a), textOf(b))
			}
			if got := Same(a, copyOf(b)); got != want {
				t.Errorf("%s, %s: got %v", textOf(a), textOf(b), got)
			}
		}
	}
}

// others are e, but for one thing each; at the ends some of them may not be.
func others(e api.Ear) map[string]api.Ear {
	turned := func(turn func(e *api.Ear)) api.Ear {
		other := copyOf(e)
		turn(&other)
		return other
	}
	other := func(n int) int { return n ^ 1 }
	l := map[string]api.Ear{
		"Epoch": turned(func(e *api.Ear) { e.Epoch = other(e.Epoch) }),
		"From":  turned(func(e *api.Ear) { e.From = other(e.From) }),
		"Miss":  turned(func(e *api.Ear) { e.Miss = other(e.Miss) }),
		"On":    turned(func(e *api.Ear) { e.On = !e.On }),
		"seed":  turned(func(e *api.Ear) { e.S.Seed ^= 1 << 31 }),
		"tail":  turned(func(e *api.Ear) { e.S.T[7] = other(e.S.T[7]) }),
		"level": turned(func(e *api.Ear) { e.S.L[3] = other(e.S.L[3]) }),
		"Live":  turned(func(e *api.Ear) { e.S.Live, e.S.Hush = !e.S.Live, false }),
		"Hush":  turned(func(e *api.Ear) { e.S.Live, e.S.Hush = false, !e.S.Hush }),
		"depth": turned(func(e *api.Ear) { e.J.Depth = 1 + other(e.J.Depth-1) }),
	}
	if e.J.On {
		l["Dry"] = turned(func(e *api.Ear) { e.J.Dry = other(e.J.Dry) })
	}
	if len(e.J.Q) > 0 {
		l["a packet less"] = turned(func(e *api.Ear) { e.J.Q = e.J.Q[:len(e.J.Q)-1] })
		l["a packet's bit"] = turned(func(e *api.Ear) { e.J.Q[0].B[0] ^= 1 })
	}
	return l
}

func TestSameOfThoseThatDifferInOne(t *testing.T) {
	differ := map[string]int{}
	for _, e := range ears() {
		for what, other := range others(e) {
			if Check(other) != api.OK || textOf(e) == textOf(other) {
				continue
			}
			differ[what]++
			if Same(e, other) || Same(other, e) || !Same(other, copyOf(other)) {
				t.Errorf("%s: %s, %s: got %v", what, textOf(e), textOf(other), Same(e, other))
			}
		}
	}
	for _, what := range []string{"Epoch", "From", "Miss", "On", "seed", "tail", "level", "Live", "Hush", "depth", "Dry", "a packet less", "a packet's bit"} {
		if differ[what] < 20 {
			t.Errorf("of %s there were %d", what, differ[what])
		}
	}
}

func TestSameOfWrongOnes(t *testing.T) {
	for what, l := range wrongEars() {
		for _, e := range l {
			if Same(e, e) || Same(e, copyOf(e)) || Same(e, opened(4, 1, 2)) || Same(opened(4, 1, 2), e) {
				t.Errorf("%s: %s is the same", what, textOf(e))
			}
		}
	}
}

// Lists without elements are the same, whether they are nil or not.
func TestSameOfNoPackets(t *testing.T) {
	a, b := opened(4, 1, 2), opened(4, 1, 2)
	b.J.Q = []api.Packet{}
	if !Same(a, b) || !Same(b, a) {
		t.Error("they are not the same")
	}
}
