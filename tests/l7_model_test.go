package tests

import (
	"maps"

	"loop.example/changeringer/impl"
)

// The functions of this file are chapter 7 written apart from the program, upon the model of chapter 3: there are no
// clocks, but each step has the set of all steps that happen before it.

// moment is a step that was possible. It executes stmt, which is zero for a step back into a monitor; ahead holds the
// indices of all moments that happen before it, and its own.
type moment struct {
	who, at int
	stmt    impl.Stmt
	ahead   map[int]bool
}

// uses reports whether the step loads or stores a cell, and which.
func (m moment) uses() (int, bool) {
	switch m.stmt.Kind {
	case impl.StmtLoad:
		return m.stmt.B, true
	case impl.StmtStore:
		return m.stmt.A, true
	}
	return 0, false
}

// modelMoments keeps, by their indices, the last moment of each process, the last one that freed each monitor, and the
// last signal that each process was given.
func modelMoments(p [][]impl.Stmt, picks []int) []moment {
	m := newModel(p)
	var out []moment
	last, freed, signaled := map[int]int{}, map[int]int{}, map[int]int{}
	for at, who := range picks {
		if m.code(who) != 0 {
			continue
		}
		index, proc := len(out), &m.procs[who]
		now := moment{who: who, at: at, ahead: map[int]bool{index: true}}
		isBehind := func(from map[int]int, key int) {
			if before, is := from[key]; is {
				maps.Copy(now.ahead, out[before].ahead)
			}
		}
		isBehind(last, who)
		isBehind(signaled, who)
		if proc.back {
			isBehind(freed, proc.room)
		} else {
			now.stmt = proc.todo()[0]
		}
		switch now.stmt.Kind {
		case impl.StmtIn:
			isBehind(freed, now.stmt.A)
		case impl.StmtLeave, impl.StmtWait:
			freed[proc.room] = index
		case impl.StmtSignal:
			if queue := m.queue(now.stmt.A); len(queue) > 0 {
				signaled[queue[0]] = index
			}
		}
		last[who] = index
		out = append(out, now)
		m.step(who)
	}
	return out
}

// modelMarks returns the marks, and for each one which of the others happen before it, by the indices of the marks.
func modelMarks(p [][]impl.Stmt, picks []int) ([]impl.Mark, []map[int]bool) {
	moments := modelMoments(p, picks)
	var marks []impl.Mark
	var ahead []map[int]bool
	indices := map[int]int{}
	for index, now := range moments {
		cell, uses := now.uses()
		if !uses {
			continue
		}
		clock := make([]int, len(p))
		others := map[int]bool{}
		for before := range now.ahead {
			clock[moments[before].who]++
			if mark, is := indices[before]; is {
				others[mark] = true
			}
		}
		indices[index] = len(marks)
		marks = append(marks, impl.Mark{Who: now.who, At: now.at, Store: now.stmt.Kind == impl.StmtStore, Cell: cell, Clock: clock})
		ahead = append(ahead, others)
	}
	return marks, ahead
}

// clash reports whether two marks would be a race if neither happened before the other one.
func clash(a, b impl.Mark) bool {
	return a.Who != b.Who && a.Cell == b.Cell && (a.Store || b.Store)
}

// clashes returns all pairs that clash.
func clashes(marks []impl.Mark) []impl.Race {
	return racesAmong(marks, func(i, j int) bool { return false })
}

// racesAmong returns the pairs that clash and of which the first is not ahead of the second.
func racesAmong(marks []impl.Mark, isAhead func(i, j int) bool) []impl.Race {
	var out []impl.Race
	for i := range marks {
		for j := i + 1; j < len(marks); j++ {
			if clash(marks[i], marks[j]) && !isAhead(i, j) {
				out = append(out, impl.Race{I: i, J: j})
			}
		}
	}
	return out
}
