package frame

import (
	"slices"

	"squelch/api"
	"squelch/bands"
	"squelch/freq"
	"squelch/quant"
)

// teller has a frame's number told, or read, by a symbol of the table; symbol 0 stands for first.
type teller func(table api.Freq, number *int, first int) api.Errno

// through has tell tell each of f's symbols, in order. One who writes and one who reads go the same way: what comes
// next hangs only on what was told ahead.
func through(f *api.Frame, prev api.Levels, tell teller) api.Errno {
	if e := throughKind(&f.Kind, tell); e != api.OK {
		return e
	}
	if e := throughLevels(f, prev, tell); e != api.OK || f.Kind == api.Sid {
		return e
	}
	return throughNumbers(f, tell)
}

func throughKind(kind *int, tell teller) api.Errno {
	table, e := freq.New(6, 9, 1)
	if e != api.OK {
		return e
	}
	return tell(table, kind, 0)
}

func throughLevels(f *api.Frame, prev api.Levels, tell teller) api.Errno {
	for b := range f.L {
		table, first, e := levelTable(f.Kind, prev[b])
		if e != api.OK {
			return e
		}
		if e := tell(table, &f.L[b], first); e != api.OK {
			return e
		}
	}
	return api.OK
}

func throughNumbers(f *api.Frame, tell teller) api.Errno {
	share, e := bands.Share(f.L, api.Budget)
	if e != api.OK {
		return e
	}
	for n := range f.Q {
		b, e := bands.Of(n)
		if e != api.OK {
			return e
		}
		if share[b] == 0 {
			continue
		}
		if e := throughNumber(&f.Q[n], quant.Most(share[b]), tell); e != api.OK {
			return e
		}
	}
	return api.OK
}

func throughNumber(number *int, most int, tell teller) api.Errno {
	table, e := freq.New(hill(most)...)
	if e != api.OK {
		return e
	}
	return tell(table, number, -most)
}

// levelTable answers the table of a level in a frame of that kind, and the level that symbol 0 stands for.
func levelTable(kind, ahead int) (api.Freq, int, api.Errno) {
	if kind == api.Inter {
		table, e := freq.New(1, 1, 2, 3, 5, 9, 16, 30, 60, 30, 16, 9, 5, 3, 2, 1)
		return table, ahead - mostBelow, e
	}
	table, e := freq.Even(api.MaxLevel + 1)
	return table, 0, e
}

// hill answers how often numbers from -most to most come: the nearer to 0, the oftener.
func hill(most int) []int {
	up := make([]int, most+1)
	for i := range up {
		up[i] = i + 1
	}
	down := slices.Clone(up[:most])
	slices.Reverse(down)
	return append(up, down...)
}

// list answers f's tables and its symbols, in order.
func list(f api.Frame, prev api.Levels) ([]api.Freq, []int, api.Errno) {
	var tables []api.Freq
	var symbols []int
	e := through(&f, prev, func(table api.Freq, number *int, first int) api.Errno {
		tables = append(tables, table)
		symbols = append(symbols, *number-first)
		return api.OK
	})
	if e != api.OK {
		return nil, nil, e
	}
	return tables, symbols, api.OK
}
