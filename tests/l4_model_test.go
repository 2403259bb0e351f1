package tests

import (
	"slices"
	"strconv"
	"strings"

	"loop.example/changeringer/impl"
)

// What follows is chapter 4 written apart from the program.

// insShape is what the document's table says of an op: its word, and what its fields may be; an index is bound by the
// length of the code.
type insShape struct {
	word    string
	fields  string
	a, b, n span
}

var insShapes = map[int]insShape{
	1:  {"num", "AN", span{0, 2}, span{}, span{-999, 999}},
	2:  {"do", "ABN", span{0, 2}, span{0, 2}, span{1, 5}},
	3:  {"load", "AB", span{0, 2}, span{0, 2}, span{}},
	4:  {"store", "AB", span{0, 2}, span{0, 2}, span{}},
	5:  {"say", "A", span{0, 2}, span{}, span{}},
	6:  {"skip", "AN", span{0, 2}, span{}, span{}},
	7:  {"jump", "N", span{}, span{}, span{}},
	8:  {"enter", "A", span{0, 1}, span{}, span{}},
	9:  {"leave", "A", span{0, 1}, span{}, span{}},
	10: {"wait", "A", span{0, 1}, span{}, span{}},
	11: {"signal", "A", span{0, 1}, span{}, span{}},
	12: {"yield", "", span{}, span{}, span{}},
	13: {"end", "", span{}, span{}, span{}},
}

// modelFields reports whether the fields of i are as they have to be in code of that many.
func modelFields(i impl.Ins, many int) bool {
	h, known := insShapes[i.Op]
	if i.Op == impl.InsSkip || i.Op == impl.InsJump {
		h.n = span{0, many - 1}
	}
	return known && h.a.has(i.A) && h.b.has(i.B) && h.n.has(i.N)
}

// modelText writes code, valid or not, of known ops.
func modelText(c []impl.Ins) string {
	text := ""
	for _, i := range c {
		h := insShapes[i.Op]
		text += h.word
		for _, name := range h.fields {
			text += " " + strconv.Itoa(map[rune]int{'A': i.A, 'B': i.B, 'N': i.N}[name])
		}
		text += "\n"
	}
	return text
}

// lines is the code of these lines, valid or not.
func lines(texts ...string) []impl.Ins {
	var c []impl.Ins
	for _, text := range texts {
		words := strings.Fields(text)
		var i impl.Ins
		for op, h := range insShapes {
			if h.word == words[0] {
				i.Op = op
			}
		}
		for at, name := range insShapes[i.Op].fields {
			n, err := strconv.Atoi(words[at+1])
			if err != nil {
				panic(text)
			}
			*map[rune]*int{'A': &i.A, 'B': &i.B, 'N': &i.N}[name] = n
		}
		c = append(c, i)
	}
	return c
}

// modelCode compiles from the inside out: the code of a list has indices that count from its own beginning, and is moved
// when it is put behind something else.
func modelCode(process []impl.Stmt) []impl.Ins {
	var c []impl.Ins
	for _, s := range process {
		c = append(c, moved(modelPart(s), len(c))...)
	}
	return c
}

func modelPart(s impl.Stmt) []impl.Ins {
	body, other := modelCode(s.Body), modelCode(s.Else)
	n, m := len(body), len(other)
	switch s.Kind {
	case impl.StmtIf:
		return slices.Concat([]impl.Ins{{Op: 6, A: s.A, N: n + 2}}, moved(body, 1), []impl.Ins{{Op: 7, N: n + 2 + m}}, moved(other, n+2))
	case impl.StmtWhile:
		return slices.Concat([]impl.Ins{{Op: 6, A: s.A, N: n + 2}}, moved(body, 1), []impl.Ins{{Op: 7}})
	case impl.StmtIn:
		return slices.Concat([]impl.Ins{{Op: 8, A: s.A}}, moved(body, 1), []impl.Ins{{Op: 9, A: s.A}})
	case impl.StmtWait, impl.StmtSignal, impl.StmtYield:
		return []impl.Ins{{Op: s.Kind + 1, A: s.A}}
	}
	return []impl.Ins{{Op: s.Kind, A: s.A, B: s.B, N: s.N}}
}

func moved(c []impl.Ins, by int) []impl.Ins {
	c = slices.Clone(c)
	for at := range c {
		if c[at].Op == impl.InsSkip || c[at].Op == impl.InsJump {
			c[at].N += by
		}
	}
	return c
}

// modelOk tries all assignments of monitors to the instructions, and takes the document by its word for each.
func modelOk(c []impl.Ins) bool {
	if len(c) < 1 || len(c) > 60 {
		return false
	}
	for at, i := range c {
		if !modelFields(i, len(c)) || (i.Op == impl.InsEnd) != (at == len(c)-1) {
			return false
		}
	}
	reach := modelReach(c)
	rooms := slices.Repeat([]int{-1}, len(c))
	for {
		if modelRooms(c, reach, rooms) {
			return true
		}
		at := 0
		for at < len(c) && rooms[at] == 1 {
			rooms[at] = -1
			at++
		}
		if at == len(c) {
			return false
		}
		rooms[at]++
	}
}

func modelReach(c []impl.Ins) []bool {
	reach := make([]bool, len(c))
	reach[0] = true
	for range c {
		for at, i := range c {
			for _, next := range modelNext(i, at) {
				reach[next] = reach[next] || reach[at]
			}
		}
	}
	return reach
}

func modelNext(i impl.Ins, at int) []int {
	switch i.Op {
	case impl.InsEnd:
		return nil
	case impl.InsJump:
		return []int{i.N}
	case impl.InsSkip:
		return []int{i.N, at + 1}
	}
	return []int{at + 1}
}

func modelRooms(c []impl.Ins, reach []bool, rooms []int) bool {
	if rooms[0] != -1 {
		return false
	}
	for at, i := range c {
		if !reach[at] {
			continue
		}
		room := rooms[at]
		behind := room
		switch i.Op {
		case impl.InsEnter:
			behind = i.A
			if room != -1 {
				return false
			}
		case impl.InsLeave:
			behind = -1
			if room != i.A {
				return false
			}
		case impl.InsWait:
			if room == -1 {
				return false
			}
		case impl.InsEnd:
			if room != -1 {
				return false
			}
		}
		for _, next := range modelNext(i, at) {
			if rooms[next] != behind {
				return false
			}
		}
	}
	return true
}
