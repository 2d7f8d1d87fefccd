package frame

import (
	"math"
	"slices"
	"testing"

	"squelch/api"
)

// P10.1

func TestCheck(t *testing.T) {
	for _, x := range []struct {
		what string
		f    api.Frame
		prev api.Levels
	}{
		{"silence", api.Frame{}, api.Levels{}},
		{"silence behind the loudest", api.Frame{}, even[api.Levels](255)},
		{"the loudest behind silence", api.Frame{L: even[api.Levels](255)}, api.Levels{}},
		{"an Intra of as much as may be", api.Frame{Kind: api.Intra, L: api.Levels{160}, Q: [16]int{127}}, api.Levels{}},
		{"an Intra of as little as may be", api.Frame{Kind: api.Intra, L: api.Levels{5: 160}, Q: [16]int{10: -127, 15: -127}}, even[api.Levels](9)},
		{"an Inter behind what it is", api.Frame{Kind: api.Inter, L: api.Levels{160}, Q: [16]int{-127}}, api.Levels{160}},
		{"an Inter 8 below", api.Frame{Kind: api.Inter, L: even[api.Levels](100)}, even[api.Levels](108)},
		{"an Inter 7 above", api.Frame{Kind: api.Inter, L: even[api.Levels](100)}, even[api.Levels](93)},
		{"a Sid of silence", api.Frame{Kind: api.Sid}, api.Levels{}},
		{"a Sid of the loudest behind silence", api.Frame{Kind: api.Sid, L: even[api.Levels](255)}, api.Levels{}},
	} {
		if e := Check(x.f, x.prev); e != api.OK {
			t.Errorf("%s: got %d", x.what, e)
		}
	}
}

var wrongLevels = []int{-1, 256, -8, 257, 1 << 32, -1 << 32, math.MinInt, math.MaxInt}

// near are frames of each Kind behind levels that all are near to.
func near(l api.Levels) []sent {
	return []sent{{api.Frame{Kind: api.Intra, L: l}, l}, {api.Frame{Kind: api.Inter, L: l}, l}, {api.Frame{Kind: api.Sid, L: l}, l}}
}

func TestNoKind(t *testing.T) {
	for _, kind := range []int{-1, 3, 4, -2, 255, 256, 1 << 32, 1<<32 + 1, math.MinInt, math.MaxInt} {
		for _, v := range []int{0, 100, 255} {
			f := api.Frame{Kind: kind, L: even[api.Levels](v)}
			wantNoFrame(t, "no Kind", f, f.L)
			wantNoTables(t, "no Kind", f)
		}
		f := api.Frame{Kind: kind, L: api.Levels{-1, 0, 0, 0, 0, 256}, Q: even[[16]int](128)}
		for _, prev := range []api.Levels{{}, {-1}, {5: 256}} {
			wantNoFrame(t, "nothing that may be", f, prev)
		}
		wantNoTables(t, "nothing that may be", f)
	}
}

func TestNoLevels(t *testing.T) {
	for _, v := range wrongLevels {
		for b := range api.Bands {
			for _, others := range []int{0, 100, 255} {
				may := even[api.Levels](others)
				wrong := with(may, b, v)
				for _, x := range near(may) {
					wantNoFrame(t, "levels ahead", x.f, wrong)
					wrongly := x.f
					wrongly.L = wrong
					wantNoFrame(t, "levels", wrongly, may)
					wantNoFrame(t, "levels, and those ahead", wrongly, wrong)
					wantNoTables(t, "levels", wrongly)
				}
			}
		}
	}
	for _, x := range near(api.Levels{-1, 0, 0, 0, 0, 256}) {
		wantNoFrame(t, "two levels", x.f, x.prev)
		wantNoFrame(t, "two levels", x.f, api.Levels{})
		wantNoTables(t, "two levels", x.f)
	}
}

func TestNoNumbers(t *testing.T) {
	levels := []api.Levels{{}, {160}, {5: 160}, {160, 148}, even[api.Levels](255), {100, 0, 50, 0, 0, 60}}
	for _, l := range append(levels, widest()...) {
		ends := endsOf(l)
		for n, end := range ends {
			for _, v := range []int{end + 1, -end - 1, 128, -128, 1 << 32, -1 << 32, math.MinInt, math.MaxInt} {
				for _, x := range near(l) {
					x.f.Q = alone[[16]int](n, v)
					wantNoFrame(t, "a number", x.f, x.prev)
					wantNoTables(t, "a number", x.f)
					x.f.Q = with(ends, n, v)
					wantNoFrame(t, "a number, and all others at their ends", x.f, x.prev)
					wantNoTables(t, "a number, and all others at their ends", x.f)
				}
			}
		}
	}
}

func TestNoSidHasANumber(t *testing.T) {
	l := api.Levels{153, 134, 149, 139, 91, 162}
	for n, end := range endsOf(l) {
		for _, v := range []int{1, -1, end, -end} {
			if v == 0 {
				continue
			}
			f := api.Frame{Kind: api.Sid, L: l, Q: alone[[16]int](n, v)}
			wantNoFrame(t, "a Sid's number", f, l)
			wantNoTables(t, "a Sid's number", f)
			f.Q = endsOf(l)
			wantNoFrame(t, "a Sid's numbers", f, l)
			wantNoTables(t, "a Sid's numbers", f)
		}
	}
}

// The levels are such that both those below and those above may be.
func TestNoInterIsFarFromTheLevelsAhead(t *testing.T) {
	prev := even[api.Levels](100)
	for b := range api.Bands {
		for off := -20; off <= 20; off++ {
			f := api.Frame{Kind: api.Inter, L: with(prev, b, 100+off)}
			if off >= -8 && off <= 7 {
				wantFrame(t, off, sent{f, prev})
			} else {
				wantNoFrame(t, off, f, prev)
			}
			for _, kind := range []int{api.Intra, api.Sid} {
				f.Kind = kind
				wantFrame(t, off, sent{f, prev})
			}
		}
	}
}

func TestNear(t *testing.T) {
	for _, x := range []struct {
		what    string
		l, prev api.Levels
		want    bool
	}{
		{"silence", api.Levels{}, api.Levels{}, true},
		{"the same", even[api.Levels](255), even[api.Levels](255), true},
		{"8 below", even[api.Levels](92), even[api.Levels](100), true},
		{"9 below", even[api.Levels](91), even[api.Levels](100), false},
		{"7 above", even[api.Levels](107), even[api.Levels](100), true},
		{"8 above", even[api.Levels](108), even[api.Levels](100), false},
		{"8 below, down to 0", api.Levels{}, even[api.Levels](8), true},
		{"9 below, down to 0", api.Levels{}, api.Levels{5: 9}, false},
		{"7 above, up to 255", even[api.Levels](255), even[api.Levels](248), true},
		{"8 above, up to 255", even[api.Levels](255), with(even[api.Levels](248), 0, 247), false},
		{"some below, some above", api.Levels{92, 107, 92, 107, 92, 107}, even[api.Levels](100), true},
		{"as far as may be", even[api.Levels](255), api.Levels{}, false},
		{"as far as may be, below", api.Levels{}, even[api.Levels](255), false},
	} {
		if got := Near(x.l, x.prev); got != x.want {
			t.Errorf("%s: got %v", x.what, got)
		}
	}
}

func TestNearInEachBand(t *testing.T) {
	for _, about := range []int{0, 1, 7, 8, 9, 100, 246, 247, 248, 254, 255} {
		prev := even[api.Levels](about)
		for b := range api.Bands {
			for v := -2; v <= 257; v++ {
				l := with(prev, b, v)
				if got := Near(l, prev); got != nearOf(l, prev) {
					t.Errorf("%v behind %v: got %v", l, prev, got)
				}
				if got := Near(prev, l); got != nearOf(prev, l) {
					t.Errorf("%v behind %v: got %v", prev, l, got)
				}
			}
		}
	}
}

func TestNearOfLevelsThatMayNotBe(t *testing.T) {
	for _, v := range wrongLevels {
		for b := range api.Bands {
			for _, others := range []int{0, 100, 248, 255} {
				may := even[api.Levels](others)
				wrong := with(may, b, v)
				if Near(wrong, may) || Near(may, wrong) || Near(wrong, wrong) {
					t.Errorf("%v, %v: they are near", wrong, may)
				}
			}
		}
	}
	// So far apart that what is between them goes beyond an int.
	if Near(even[api.Levels](math.MinInt), even[api.Levels](math.MaxInt)) || Near(even[api.Levels](math.MaxInt), even[api.Levels](math.MinInt)) {
		t.Error("the ends of all numbers are near")
	}
}

func TestTablesOfSilence(t *testing.T) {
	for _, kind := range []int{api.Intra, api.Sid} {
		tables, symbols, e := Tables(api.Frame{Kind: kind})
		if !slices.Equal(symbols, []int{kind, 0, 0, 0, 0, 0, 0}) || len(tables) != 7 || e != api.OK {
			t.Fatalf("%d: got %d tables, %v, %d", kind, len(tables), symbols, e)
		}
		if !slices.Equal(tables[0].C, []int{0, 6, 15, 16}) {
			t.Errorf("%d: got %v", kind, tables[0])
		}
		for b := range api.Bands {
			if c := tables[b+1].C; len(c) != 257 || c[0] != 0 || c[1] != 1 || c[255] != 255 || c[256] != 256 {
				t.Errorf("%d: got %v of band %d", kind, c, b)
			}
		}
	}
}

// Each number is told by how many bits its band has.
func TestTablesOfNumbers(t *testing.T) {
	l := api.Levels{16, 16, 0, 0, 0, 0}
	q := [16]int{-1, 2}
	tables, symbols, e := Tables(api.Frame{L: l, Q: q})
	if !slices.Equal(symbols, []int{0, 16, 16, 0, 0, 0, 0, 2, 5}) || len(tables) != 9 || e != api.OK {
		t.Fatalf("got %d tables, %v, %d", len(tables), symbols, e)
	}
	for n := range 2 {
		if !slices.Equal(tables[n+7].C, []int{0, 1, 3, 6, 10, 13, 15, 16}) {
			t.Errorf("%d: got %v", n, tables[n+7])
		}
	}
	tables, symbols, e = Tables(api.Frame{L: api.Levels{5: 160}, Q: [16]int{10: -127, 12: 127, 15: 126}})
	if !slices.Equal(symbols, []int{0, 0, 0, 0, 0, 0, 160, 0, 127, 254, 127, 127, 253}) || len(tables) != 13 || e != api.OK {
		t.Fatalf("got %d tables, %v, %d", len(tables), symbols, e)
	}
	for n := range 6 {
		c := tables[n+7].C
		if len(c) != 256 || c[1] != 1 || c[2] != 3 || c[127] != 127*64 || c[128] != 128*129/2 || c[254] != 16383 || c[255] != 16384 {
			t.Errorf("%d: got %v", n, c)
		}
	}
}

func TestTablesByTheWords(t *testing.T) {
	for _, x := range many() {
		if x.f.Kind == api.Inter {
			wantNoTables(t, "an Inter", x.f)
			continue
		}
		wantTables, wantSymbols := symbolsOf(x.f, api.Levels{})
		tables, symbols, e := Tables(x.f)
		if !slices.Equal(symbols, wantSymbols) || len(tables) != len(wantTables) || e != api.OK {
			t.Fatalf("%v: got %d tables, %v, %d; want %d, %v", x.f, len(tables), symbols, e, len(wantTables), wantSymbols)
		}
		for i, f := range tables {
			if !slices.Equal(f.C, wantTables[i].C) {
				t.Errorf("%v: got %v at %d; want %v", x.f, f, i, wantTables[i])
			}
		}
	}
}

func TestNoTablesOfAnInter(t *testing.T) {
	wantNoTables(t, "near silence", api.Frame{Kind: api.Inter})
	wantNoTables(t, "near silence, and something", api.Frame{Kind: api.Inter, L: even[api.Levels](7)})
	wantNoTables(t, "far from silence", api.Frame{Kind: api.Inter, L: even[api.Levels](100)})
	wantNoTables(t, "that may not be", api.Frame{Kind: api.Inter, L: even[api.Levels](256)})
}

// R2: what is answered is the caller's own, list by list.
func TestTablesAreTheCallersOwn(t *testing.T) {
	f := api.Frame{L: api.Levels{5: 160}, Q: [16]int{15: 3}}
	tables, symbols, _ := Tables(f)
	wantTables, wantSymbols := symbolsOf(f, api.Levels{})
	for i := range tables {
		for k := range tables[i].C {
			tables[i].C[k] = -1
		}
		tables[i].C = append(tables[i].C, -1)
		for k := i + 1; k < len(tables); k++ {
			if !slices.Equal(tables[k].C, wantTables[k].C) {
				t.Fatalf("the table at %d is changed with the one at %d", k, i)
			}
		}
	}
	if !slices.Equal(symbols, wantSymbols) {
		t.Errorf("the symbols are changed with the tables")
	}
	for i := range symbols {
		symbols[i] = -1
	}
	tables, symbols, e := Tables(f)
	same := slices.EqualFunc(tables, wantTables, func(a, b api.Freq) bool { return slices.Equal(a.C, b.C) })
	if !same || !slices.Equal(symbols, wantSymbols) || e != api.OK {
		t.Errorf("asked again, it is not the same: %d", e)
	}
}
