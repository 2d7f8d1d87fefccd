package listen

import (
	"fmt"
	"math"
	"slices"
	"testing"

	"squelch/api"
	"squelch/decoder"
)

// P14.3

// An ear to which nothing came: silence, Waits, and so it stays.
func TestTickOfNothing(t *testing.T) {
	for _, e := range []api.Ear{opened(0, 0, 1), opened(most, most, 16), opened(4, 1, 2)} {
		for range 30 {
			got, p, what, errno := Tick(e)
			if textOf(got) != textOf(e) || p != (api.Pcm{}) || what != api.Waits || errno != api.OK {
				t.Fatalf("%s: got %s, %v, %d, %d", textOf(e), textOf(got), p, what, errno)
			}
		}
	}
}

// As long as it waits, whatever was heard ahead stays as it is, and is not heard.
func TestTickWaits(t *testing.T) {
	for _, e := range ears() {
		e.J = api.Jitter{Depth: 3, Q: packets(7, [][]byte{intra(), sid()})}
		got, p, what, errno := Tick(e)
		if textOf(got) != textOf(e) || p != (api.Pcm{}) || what != api.Waits || errno != api.OK {
			t.Errorf("%s: got %s, %v, %d, %d", textOf(e), textOf(got), p, what, errno)
		}
	}
}

func TestTickWaitsForDepth(t *testing.T) {
	for depth := 1; depth <= 16; depth++ {
		e := opened(4, 1, depth)
		for i := range depth {
			e, _ = wantHow(t, depth, e, api.Waits, "")
			// The last one comes first: the turn begins with the one that was put last.
			e = wantHear(t, depth, e, 4, 1, packet(100+depth-i, intra()), true)
		}
		e, _ = wantHow(t, depth, e, api.Comes, first)
		if e.J.Next != 102 || !e.On || e.Miss != 0 || len(e.J.Q) != depth-1 {
			t.Errorf("%d: got %s", depth, textOf(e))
		}
	}
}

// The first Intra is heard as decoder.Step of what is there ahead, from which on it is On.
func TestTickOfAnIntra(t *testing.T) {
	for _, e := range ears() {
		for _, on := range []bool{false, true} {
			e.On = on
			e.J = going(api.Synth{}, 0, intra(), sid()).J
			s, p, _ := decoder.Step(e.S, intra())
			got, gotP, what, errno := Tick(e)
			if got.S != s || gotP != p || !got.On || got.Miss != 0 || what != api.Comes || errno != api.OK || got.Epoch != e.Epoch || got.From != e.From {
				t.Errorf("%s: got %s, %v, %d, %d", textOf(e), textOf(got), gotP, what, errno)
			}
			wantTick(t, "an Intra", e)
		}
	}
}

// Whatever comes ahead of the first Intra is not heard: silence, and the synth is as it is, even where a frame could be sounded.
func TestTickAheadOfTheFirstIntra(t *testing.T) {
	live := api.Synth{L: voice, Live: true, Seed: 5, T: api.Tail{30000, 30000}}
	hush := api.Synth{L: voice, Hush: true, Seed: 5, T: api.Tail{30000, 30000}}
	for _, s := range []api.Synth{{Seed: 1}, live, hush} {
		for i, b := range append(noFrames(), inter(), sid(), nil) {
			e := going(s, 6, b, nil, intra(), inter())
			e.On = false
			for miss := 7; miss <= 8; miss++ {
				next, p, _, _ := wantTick(t, i, e)
				if next.S != s || p != (api.Pcm{}) || next.On || next.Miss != miss {
					t.Errorf("%d: of %s: got %s, %v", i, textOf(e), textOf(next), p)
				}
				e = next
			}
			e, _ = wantHow(t, i, e, api.Comes, first)
			e, _ = wantHow(t, i, e, api.Comes, goes)
			if e.Miss != 0 || !e.S.Live || e.S.L != (api.Levels{158, 150, 140, 152, 129, 121}) {
				t.Errorf("%d: got %s", i, textOf(e))
			}
		}
	}
	e := going(live, 0, inter(), sid())
	e.On = false
	e, _ = wantHow(t, "an Inter", e, api.Comes, refused)
	wantHow(t, "a Sid", e, api.Comes, refused)
}

// Once it is On, each frame that can be sounded is heard; what cannot be is as if nothing came.
func TestTickOn(t *testing.T) {
	e := going(api.Synth{Seed: 1}, 0, intra(), inter(), sid(), sid(), intra(), nil, inter(), intra())
	e.On = false
	for i, x := range []struct {
		what, miss int
		how        string
	}{
		{api.Comes, 0, first}, {api.Comes, 0, goes}, {api.Comes, 0, goes}, {api.Comes, 0, goes}, {api.Comes, 0, goes},
		{api.Lost, 1, faded},
		{api.Comes, 2, unheard}, // Behind one that was lost an Inter is not sounded.
		{api.Comes, 0, goes},
	} {
		e, _ = wantHow(t, i, e, x.what, x.how)
		if e.Miss != x.miss || !e.On {
			t.Errorf("%d: got %s", i, textOf(e))
		}
	}
}

// Bytes that are no frame are covered up as one that was lost, but they came.
func TestTickOfNoFrame(t *testing.T) {
	for i, b := range noFrames() {
		for miss := range 20 {
			for _, s := range []api.Synth{{L: voice, Live: true, Seed: 9}, {L: voice, Hush: true, Seed: 9}, {L: voice, Seed: 9}, {Seed: 1}} {
				e, p := wantHow(t, i, going(s, miss, b), api.Comes, unheard)
				lost, lostP, what, _ := wantTick(t, i, going(s, miss, nil, b))
				if e.S != lost.S || p != lostP || what != api.Lost || e.Miss != lost.Miss || e.J.Dry != 0 || lost.J.Dry != 1 {
					t.Errorf("%d: of %v: got %s, %v; a lost one %s, %v", i, s, textOf(e), p, textOf(lost), lostP)
				}
			}
		}
	}
}

// fadesBy is how much less loud the one is that is lost behind so many.
func fadesBy(miss int) int {
	by := []int{16, 32, 48, 64, 80, 96, 112, 128, 144, 160, 176, 192, 208, 224, 240, 255}
	return by[min(miss, len(by)-1)]
}

func TestTickOfALostOne(t *testing.T) {
	for _, miss := range []int{0, 1, 2, 3, 13, 14, 15, 16, 17, 30, 255, 256, 1 << 32, most - 1, most} {
		for i, e := range ears() {
			e.On, e.Miss, e.J = true, miss, going(e.S, 0, nil, intra()).J
			s, p, _ := decoder.Fade(e.S, fadesBy(miss))
			how := faded
			if e.S.Hush {
				s, p, _ = decoder.Rest(e.S)
				how = rested
			}
			got, gotP := wantHow(t, i, e, api.Lost, how)
			if got.S != s || gotP != p || got.Miss != miss+1 || !got.On || got.J.Next != 101 || got.J.Dry != 1 {
				t.Errorf("%d: of %s: got %s, %v", i, textOf(e), textOf(got), gotP)
			}
		}
	}
}

// Several in a row fade by more each time; in silence it is the same noise each time.
func TestTickOfManyLostOnes(t *testing.T) {
	loud := api.Synth{L: api.Levels{255, 255, 255, 255, 255, 255}, Live: true, Seed: 3}
	e, fades := going(loud, 0), []int{239, 207, 159, 95, 15, 0, 0, 0, 0, 0, 0}
	for i, level := range fades {
		e, _ = wantHow(t, i, e, api.Lost, faded)
		if e.Miss != i+1 || e.S.L[0] != level || e.S.L[5] != level {
			t.Errorf("%d: got %s", i, textOf(e))
		}
	}
	loud.Live, loud.Hush = false, true
	e = going(loud, 0)
	for i := range 11 {
		e, _ = wantHow(t, i, e, api.Lost, rested)
		if e.Miss != i+1 || e.S.L != loud.L || !e.S.Hush {
			t.Errorf("%d: got %s", i, textOf(e))
		}
	}
}

// By one at a level of 255, about the sixteenth: by 240, and then by 255.
func TestTickOfTheSixteenth(t *testing.T) {
	loud := api.Synth{L: api.Levels{255, 240, 241, 239, 1, 0}, Live: true, Seed: 3}
	for miss, want := range map[int]api.Levels{13: {31, 16, 17, 15, 0, 0}, 14: {15, 0, 1, 0, 0, 0}, 15: {}, 16: {}, 100: {}} {
		e, _ := wantHow(t, miss, going(loud, miss), api.Lost, faded)
		if e.S.L != want || e.Miss != miss+1 {
			t.Errorf("%d: got %s", miss, textOf(e))
		}
	}
}

// Behind DryFor lost ones: silence, and the ear as Open makes it.
func TestTickEnds(t *testing.T) {
	for _, x := range []struct{ epoch, from, depth int }{{0, 0, 1}, {most, most, 16}, {4, 1, 2}, {most, 3, 5}} {
		for _, hush := range []bool{false, true} {
			for _, on := range []bool{false, true} {
				e := api.Ear{Epoch: x.epoch, From: x.from, J: api.Jitter{On: true, Next: 100, Depth: x.depth, Q: packets(150, [][]byte{intra()})}, S: far(hush), On: on, Miss: 5}
				for i := range 11 {
					next, _, what, _ := wantTick(t, i, e)
					if what != api.Lost || next.Miss != 6+i {
						t.Errorf("%d: of %s: got %d, %s", i, textOf(e), what, textOf(next))
					}
					e = next
				}
				e, p := wantHow(t, "the twelfth", e, api.Ended, "")
				if fresh, _ := Open(x.epoch, x.from, x.depth); !Same(e, fresh) || p != (api.Pcm{}) {
					t.Errorf("%v: got %s, %v", x, textOf(e), p)
				}
				e, _ = wantHow(t, "behind", e, api.Waits, "")
				// It begins anew, with numbers that it had already.
				for seq := range x.depth {
					e = wantHear(t, "anew", e, x.epoch, x.from, packet(7+seq, intra()), true)
				}
				wantHow(t, "anew", e, api.Comes, first)
			}
		}
	}
}

func TestTickByTheWords(t *testing.T) {
	t.Parallel()
	came, heard := map[int]int{}, map[string]int{}
	for i, e := range ears() {
		for range 40 {
			next, _, what, how := wantTick(t, i, e)
			came[what]++
			heard[how]++
			if Check(next) != api.OK {
				break
			}
			e = next
		}
	}
	if came[api.Waits] < 100 || came[api.Comes] < 100 || came[api.Lost] < 100 || came[api.Ended] < 20 {
		t.Errorf("there came %v", came)
	}
	for _, how := range []string{first, goes, silent, refused, unheard, rested, faded} {
		if heard[how] < 5 {
			t.Errorf("there were %v", heard)
		}
	}
}

func TestTickOfWrongEars(t *testing.T) {
	for what, l := range wrongEars() {
		for _, e := range l {
			if got := told(Tick(e)); got.String() != (turn{errno: api.ErrArg}).String() {
				t.Errorf("%s: %s: got %v", what, textOf(e), got)
			}
		}
	}
}

// Ticks is Tick, one by one; Ticks of many, and then of more, is all at once.
func TestTicks(t *testing.T) {
	t.Parallel()
	d := dice(5)
	for i, e := range ears() {
		for _, many := range []int{0, 1, 2, 13, d.between(3, 60)} {
			was := e
			var one []api.Pcm
			for range many {
				next, p, _, errno := Tick(was)
				if errno != api.OK {
					break
				}
				was, one = next, append(one, p)
			}
			if len(one) < many {
				wantWrongTicks(t, i, e, many)
				continue
			}
			got, l, errno := wantTicks(t, i, e, many)
			if textOf(got) != textOf(was) || !slices.Equal(l, one) || errno != api.OK {
				t.Errorf("%d: of %s, %d: got %s, %v, %d; one by one %s, %v", i, textOf(e), many, textOf(got), l, errno, textOf(was), one)
			}
			some := d.between(0, many)
			a, l1, e1 := wantTicks(t, i, e, some)
			if Check(a) != api.OK { // Its Miss, or its Next, is one more than may be.
				continue
			}
			b, l2, e2 := wantTicks(t, i, a, many-some)
			if textOf(b) != textOf(got) || !slices.Equal(slices.Concat(l1, l2), l) || e1 != api.OK || e2 != api.OK {
				t.Errorf("%d: of %s, %d, and %d: got %s, %d, %d; at once %s", i, textOf(e), some, many-some, textOf(b), e1, e2, textOf(got))
			}
		}
	}
}

func TestTicksOfNoneAndOfTheMost(t *testing.T) {
	for i, e := range ears() {
		got, l, errno := Ticks(e, 0)
		if textOf(got) != textOf(e) || len(l) != 0 || errno != api.OK {
			t.Errorf("%d: of %s: got %s, %v, %d", i, textOf(e), textOf(got), l, errno)
		}
	}
	e := waiting(1, intra(), inter(), nil, sid())
	got, l, errno := wantTicks(t, "the most", e, 1000)
	if !Same(got, opened(4, 1, 1)) || len(l) != 1000 || errno != api.OK || l[1] == (api.Pcm{}) || l[999] != (api.Pcm{}) {
		t.Errorf("got %s, %d, %d", textOf(got), len(l), errno)
	}
}

func wantWrongTicks(t *testing.T, what any, e api.Ear, many int) {
	t.Helper()
	if got, l, errno := Ticks(e, many); textOf(got) != textOf(api.Ear{}) || len(l) != 0 || errno != api.ErrArg {
		t.Errorf("%v: %s, %d: got %s, %v, %d", what, textOf(e), many, textOf(got), l, errno)
	}
}

func TestTicksOfWrongNumbers(t *testing.T) {
	for i, e := range append(ears(), api.Ear{}) {
		for _, many := range []int{-1, -2, 1001, 1002, math.MinInt, math.MaxInt} {
			wantWrongTicks(t, i, e, many)
		}
	}
}

func TestTicksOfWrongEars(t *testing.T) {
	for what, l := range wrongEars() {
		for _, e := range l {
			for _, many := range []int{0, 1, 5, 1000, -1, 1001} {
				wantWrongTicks(t, what, e, many)
			}
		}
	}
}

// Miss may be one more than may be, behind the last tick: the tick behind that one is wrong, and so are all at once.
func TestTicksBeyondTheGreatestMiss(t *testing.T) {
	for _, s := range []api.Synth{far(false), far(true), {Seed: 1}} {
		for _, on := range []bool{false, true} {
			for left := range 5 {
				e := going(s, most-left)
				e.On = on
				for many := range left + 2 {
					if got, l, errno := wantTicks(t, left, e, many); got.Miss != most-left+many || len(l) != many || errno != api.OK {
						t.Errorf("%d: %d: got %s, %d", left, many, textOf(got), errno)
					}
				}
				for many := left + 2; many < 20; many++ {
					wantWrongTicks(t, left, e, many)
				}
				last, _, _ := Ticks(e, left+1)
				if got := told(Tick(last)); Check(last) != api.ErrArg || got.String() != (turn{errno: api.ErrArg}).String() {
					t.Errorf("%d: behind %s: got %v", left, textOf(last), got)
				}
			}
		}
	}
	// Where one comes in time, Miss begins anew.
	e, l, errno := wantTicks(t, "in time", going(far(false), most, intra(), nil, nil), 3)
	if e.Miss != 2 || len(l) != 3 || errno != api.OK {
		t.Errorf("got %s, %d", textOf(e), errno)
	}
	// Where all waits, or it ends, Miss does not grow.
	e = waiting(2, intra())
	e.Miss = most
	wantTicks(t, "waiting", e, 100)
	e = going(far(true), most)
	e.J.Dry = 11
	if e, _, errno := wantTicks(t, "ending", e, 100); !Same(e, opened(4, 1, 2)) || errno != api.OK {
		t.Errorf("got %s, %d", textOf(e), errno)
	}
}

// What is told is the caller's own, and so is what was handed in.
func TestTickSharesNothing(t *testing.T) {
	for i, e := range ears() {
		ticks := map[string]func(e api.Ear) api.Ear{"Tick": func(e api.Ear) api.Ear {
			behind, _, _, _ := Tick(e)
			return behind
		}}
		for _, many := range []int{0, 1, 3} {
			ticks[fmt.Sprint("Ticks of ", many)] = func(e api.Ear) api.Ear {
				behind, _, _ := Ticks(e, many)
				return behind
			}
		}
		for what, tick := range ticks {
			mine := copyOf(e)
			got := tick(mine)
			text := textOf(got)
			spoilBytes(mine)
			if textOf(got) != text {
				t.Errorf("%d: %s: what was told became %s; it was %s", i, what, textOf(got), text)
			}
			mine = copyOf(e)
			spoilBytes(tick(mine))
			if textOf(mine) != textOf(e) {
				t.Errorf("%d: %s: what was handed in became %s; it was %s", i, what, textOf(mine), textOf(e))
			}
		}
	}
}
