package bands

import (
	"squelch/api"
	"squelch/fixed"
	"squelch/lapped"
)

const (
	fallsBy      = 12
	drownsBy     = 8
	levelsPerBit = 8
)

// own answers the band b's numbers of x, and 0 in the others' places.
func own(x api.Spec, b int) api.Spec {
	var numbers api.Spec
	for n := edges[b]; n < edges[b+1]; n++ {
		numbers[n] = x[n]
	}
	return numbers
}

func level(numbers api.Spec) int {
	if numbers == (api.Spec{}) {
		return 0
	}
	return min(fixed.Log(lapped.Energy(numbers))/2+1, api.MaxLevel)
}

// held answers l, each held to what a level may be.
func held(l api.Levels) api.Levels {
	for b, v := range l {
		l[b] = max(0, min(v, api.MaxLevel))
	}
	return l
}

// drowned answers up to which level the band b is not heard beside the others.
func drowned(l api.Levels, b int) int {
	most := 0
	for other, v := range l {
		if other == b {
			continue
		}
		away := max(other-b, b-other)
		most = max(most, v-fallsBy*away-drownsBy)
	}
	return most
}

// wished answers how many bits a band would have if they cost nothing.
func wished(loud, mask int) int {
	if loud <= mask {
		return 0
	}
	return min((loud-mask+levelsPerBit-1)/levelsPerBit, api.MaxWide)
}

// fit answers a with a bit less of the widest band, of several the last one, as long as it costs more than budget.
func fit(a api.Alloc, budget int) api.Alloc {
narrowing:
	for wide := api.MaxWide; wide > 0; wide-- {
		for b := range fromBehind {
			if Cost(a) <= budget {
				break narrowing
			}
			// None is wider by now, and none behind it is as wide.
			if a[b] == wide {
				a[b]--
			}
		}
	}
	return a
}

// fromBehind tells the bands, the last one first.
func fromBehind(yield func(b int) bool) {
	for b := api.Bands - 1; b >= 0; b-- {
		if !yield(b) {
			return
		}
	}
}
