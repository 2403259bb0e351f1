package tests

import (
	"slices"

	"loop.example/changeringer/impl"
)

// What follows is chapter 9 written apart from the program, for code that is valid; modelReach of chapter 4 is its SlimReach.

func isTargeted(i impl.Ins) bool { return i.Op == impl.InsJump || i.Op == impl.InsSkip }

// modelLands tells for each index where one comes from it along the jumps, or -1 for nowhere: it goes from where one
// stays to where one comes from, and leaves over what is in a cycle or leads into one.
func modelLands(c []impl.Ins) []int {
	lands := slices.Repeat(ints(-1), len(c))
	for range c {
		for at, i := range c {
			if i.Op != impl.InsJump {
				lands[at] = at
			} else {
				lands[at] = lands[i.N]
			}
		}
	}
	return lands
}

func modelJumps(c []impl.Ins) []impl.Ins {
	lands := modelLands(c)
	c = slices.Clone(c)
	for at, i := range c {
		if isTargeted(i) && lands[i.N] >= 0 {
			c[at].N = lands[i.N]
		}
	}
	return c
}

func modelDead(c []impl.Ins) []impl.Ins {
	reach := modelReach(c)
	stays := func(at int) bool {
		i := c[at]
		ahead := i.Op == impl.InsJump && i.N > at
		return at == len(c)-1 || reach[at] && !(ahead && !slices.Contains(reach[at+1:i.N], true))
	}
	var out []impl.Ins
	for at, i := range c {
		if !stays(at) {
			continue
		}
		if isTargeted(i) {
			i.N = 0
			for before := range c[at].N {
				i.N += oneIf(stays(before))
			}
		}
		out = append(out, i)
	}
	return out
}

// modelSlim also returns how many rounds it took until one changed nothing, that one included.
func modelSlim(c []impl.Ins) ([]impl.Ins, int) {
	for rounds := 1; ; rounds++ {
		next := modelDead(modelJumps(c))
		if slices.Equal(next, c) {
			return c, rounds
		}
		c = next
	}
}
