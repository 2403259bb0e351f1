package tests

import (
	"fmt"
	"strconv"

	"loop.example/changeringer/impl"
)

// The functions of this file are chapter 6 written apart from the program, upon the model of chapter 3.

// use is a cell or a signal, by its index in an ownership, and the monitor inside of which it is used, or -1.
type use struct{ what, room int }

// usesOf finds the uses in the text of a process.
func usesOf(process []impl.Stmt) []use {
	words := writtenWords(process)
	number := func(at int) int {
		n, _ := strconv.Atoi(words[at])
		return n
	}
	var out []use
	depth, room, opened := 0, -1, 0
	for at, word := range words {
		switch word {
		case "[":
			depth++
		case "]":
			depth--
			if depth == opened {
				room = -1
			}
		case "in":
			room, opened = number(at+1), depth
		case "load":
			out = append(out, use{number(at + 2), room})
		case "store":
			out = append(out, use{number(at + 1), room})
		case "wait", "signal":
			out = append(out, use{3 + number(at+1), room})
		}
		if room < 0 {
			// No depth is that of a monitor.
			opened = -1
		}
	}
	return out
}

func modelWholeOk(p [][]impl.Stmt, owner []int) bool {
	for _, process := range p {
		for _, one := range usesOf(process) {
			if owner[one.what] != one.room {
				return false
			}
		}
	}
	return true
}

// kind is the Kind that the next step of a process executes; 0 if it executes none.
func (m *model) kind(who int) int {
	if m.code(who) != 0 || m.procs[who].back {
		return 0
	}
	return m.procs[who].todo()[0].Kind
}

func (m *model) isEntry(who int) bool {
	return m.code(who) == 0 && (m.procs[who].back || m.kind(who) == impl.StmtIn)
}

func modelOrder(p [][]impl.Stmt, picks []int) []int {
	m := newModel(p)
	var out []int
	for _, who := range picks {
		if m.isEntry(who) {
			out = append(out, who)
		}
		m.step(who)
	}
	return out
}

// modelRun takes each sentence on WholeRun by the word.
func modelRun(p [][]impl.Stmt, order []int) (impl.World, bool) {
	m := newModel(p)
	if len(order) > 200 {
		return impl.World{}, false
	}
	for _, who := range order {
		if !m.takeWhole(who) {
			return impl.World{}, false
		}
	}
	for who := range p {
		for taken := 0; m.code(who) == 0 && !m.isEntry(who); {
			m.step(who)
			if taken++; taken == 200 {
				return impl.World{}, false
			}
		}
	}
	return m.world(), true
}

func (m *model) takeWhole(who int) bool {
	taken := 0
	take := func() bool {
		taken++
		return taken <= 200 && m.step(who) == 0
	}
	for !m.isEntry(who) {
		if !take() {
			return false
		}
	}
	if !take() {
		return false
	}
	for {
		kind := m.kind(who)
		if !take() {
			return false
		}
		if kind == impl.StmtLeave || kind == impl.StmtWait {
			return true
		}
	}
}

// looks is all that WholeLike looks at.
func looks(w impl.World) string {
	said := make([][]int, len(w.Procs))
	for _, one := range w.Said {
		if one.Who >= 0 && one.Who < len(said) {
			said[one.Who] = append(said[one.Who], one.N)
		}
	}
	return fmt.Sprint(w.Cells, said)
}
