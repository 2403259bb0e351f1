package tests

import (
	"fmt"
	"slices"
	"strings"

	"loop.example/changeringer/impl"
)

// The functions of this file are chapter 8 written apart from the program, upon the model of chapter 3: no
// configuration is gone on from, but each one is played anew from the beginning.

// modelWorldText has fmt write the numbers, and leaves out its brackets.
func modelWorldText(w impl.World) string {
	out := ""
	line := func(word string, what any) {
		between := func(r rune) bool { return strings.ContainsRune(" []{}", r) }
		out += strings.Join(append([]string{word}, strings.FieldsFunc(fmt.Sprint(what), between)...), " ") + "\n"
	}
	for _, proc := range w.Procs {
		line("proc", []int{proc.Mode, proc.On, proc.Room})
		line("regs", proc.Regs)
		out += modelListText(proc.Todo, 6) + "\n"
	}
	line("cells", w.Cells)
	line("rooms", w.Rooms)
	for _, queue := range w.Signs {
		line("sign", queue)
	}
	for _, one := range w.Said {
		line("said", one)
	}
	return out
}

// modelListText writes that many levels.
func modelListText(process []impl.Stmt, levels int) string {
	out := ""
	for _, s := range process {
		if levels > 0 {
			out += fmt.Sprintf("%d,%d,%d,%d%s%s", s.Kind, s.A, s.B, s.N, modelListText(s.Body, levels-1), modelListText(s.Else, levels-1))
		}
	}
	return "(" + out + ")"
}

// reached is a configuration, the picks that led to it first, and whether nobody can go on from it.
type reached struct {
	world impl.World
	picks []int
	isEnd bool
}

// modelAll tries picks by their length, and those of one length in the order of the numbers in them. Picks are made
// longer only if they led to something new; a step that is not possible never does.
func modelAll(p [][]impl.Stmt) ([]reached, bool) {
	var all []reached
	seen := map[string]bool{}
	for level := [][]int{nil}; len(level) > 0; {
		var longer [][]int
		for _, picks := range level {
			m := newModel(p)
			m.play(picks)
			w := m.world()
			if seen[shown(w)] {
				continue
			}
			seen[shown(w)] = true
			isEnd := true
			for who := range p {
				isEnd = isEnd && m.code(who) != 0
				longer = append(longer, append(slices.Clone(picks), who))
			}
			all = append(all, reached{w, picks, isEnd})
			if len(all) > 120 {
				return nil, false
			}
		}
		level = longer
	}
	return all, true
}

// modelEnds also tells whether somebody is left in one of them.
func modelEnds(all []reached) ([]impl.World, bool) {
	var ends []impl.World
	stuck := false
	for _, one := range all {
		if !one.isEnd {
			continue
		}
		ends = append(ends, one.world)
		for _, proc := range one.world.Procs {
			stuck = stuck || proc.Mode != 0 || len(proc.Todo) > 0
		}
	}
	return ends, stuck
}
