package tests

import (
	"fmt"
	"regexp"
	"slices"
	"strconv"
	"strings"

	"loop.example/changeringer/impl"
)

// The functions of this file are chapter 10 written apart from the program, upon the models of the chapters before: no
// program is kept, but for each line it is found from the lines ahead. Processes are read by chapter 2.

var modelNumber = regexp.MustCompile(`^(0|-?[1-9][0-9]{0,16})$`)

// modelDesk returns what a script puts out.
func modelDesk(script string) string {
	if len(script) > 20000 {
		return "long\n"
	}
	out := ""
	lines := strings.Split(script, "\n")
	for at, line := range lines {
		words := modelWords(line)
		if len(words) == 0 {
			continue
		}
		if at >= 120 || len(out) > 20000 {
			return out + "full\n"
		}
		out += modelLine(lines[:at], words)
	}
	return out
}

func modelWords(line string) []string {
	return strings.FieldsFunc(line, func(r rune) bool { return r == ' ' })
}

// modelProgram is the current program behind lines.
func modelProgram(lines []string) [][]impl.Stmt {
	var p [][]impl.Stmt
	for _, line := range lines {
		words := strings.Join(modelWords(line), " ")
		if words == "clear" {
			p = nil
		}
		text, is := strings.CutPrefix(words, "proc ")
		if process, ok := impl.StmtsRead(text); is && ok && len(p) < 3 {
			p = append(p, process)
		}
	}
	return p
}

// modelLine is what a line of these words puts out behind those ahead.
func modelLine(ahead, words []string) string {
	p := modelProgram(ahead)
	out, known := "", false
	switch words[0] {
	case "proc":
		longer := modelProgram(append(slices.Clone(ahead), strings.Join(words, " ")))
		out, known = "fine\n", len(longer) > len(p)
	case "clear":
		out, known = "fine\n", len(words) == 1
	default:
		if numbers, ok := modelNumbers(words[1:]); ok {
			out, known = modelAsk(p, words[0], numbers)
		}
	}
	if !known {
		return "what\n"
	}
	return out
}

func modelNumbers(words []string) ([]int, bool) {
	numbers := make([]int, len(words))
	for i, word := range words {
		if !modelNumber.MatchString(word) {
			return nil, false
		}
		numbers[i], _ = strconv.Atoi(word)
	}
	return numbers, true
}

// modelAsk is what a line without an effect puts out; false if it has no meaning.
func modelAsk(p [][]impl.Stmt, name string, numbers []int) (string, bool) {
	switch name {
	case "code":
		if len(numbers) != 1 || numbers[0] < 0 || numbers[0] >= len(p) {
			return "", false
		}
		return modelText(modelCodes(p)[numbers[0]]) + "end\n", true
	case "whole":
		isNone := func(room int) bool { return room != 0 && room != 1 }
		yes := len(p) > 0 && len(numbers) == 5 && !slices.ContainsFunc(numbers, isNone) && modelWholeOk(p, numbers)
		return []string{"no\n", "yes\n"}[oneIf(yes)], true
	case "play", "can":
		if len(p) == 0 || len(numbers) > 200 {
			return "", false
		}
		m := newModel(p)
		codes := m.play(numbers)
		if name == "play" {
			return numbersLine("codes", codes...) + modelState(m.said, m.cells), true
		}
		return numbersLine("can", slices.DeleteFunc([]int{0, 1, 2}, func(who int) bool { return m.code(who) != 0 })...), true
	case "run", "alone":
		return modelExecuted(p, name, numbers)
	}
	return "", false
}

// modelExecuted is what a run or alone puts out.
func modelExecuted(p [][]impl.Stmt, name string, numbers []int) (string, bool) {
	isNoGap := func(gap int) bool { return gap < 1 || gap > 12 }
	if len(p) == 0 || len(numbers) < 2 || len(numbers) > 21 || numbers[0] < 0 || numbers[0] > 90 || slices.ContainsFunc(numbers[1:], isNoGap) {
		return "", false
	}
	m := newModelCpu(modelCodes(p), numbers[1:])
	for len(m.ran) < numbers[0] && len(m.ready()) > 0 {
		m.step()
	}
	out := []string{"done\n", "fuel\n", "stuck\n"}[m.how()]
	if name == "run" {
		return out + modelState(m.said, m.cells), true
	}
	order := modelOrder(p, m.picks)
	out += numbersLine("order", order...)
	played := newModel(p)
	played.play(m.picks)
	switch alone, ok := modelRun(p, order); {
	case !ok:
		return out + "none\n", true
	case looks(played.world()) == looks(alone):
		return out + "alike\n", true
	}
	return out + "unlike\n", true
}

func modelState(said []impl.Say, cells [3]int) string {
	out := ""
	for _, one := range said {
		out += fmt.Sprintln(one.Who, "says", one.N)
	}
	return out + fmt.Sprintln("cells", cells[0], cells[1], cells[2]) + "end\n"
}

// numbersLine is a line of a word and numbers, either of a script or of what it puts out.
func numbersLine(word string, numbers ...int) string {
	all := []any{word}
	for _, n := range numbers {
		all = append(all, n)
	}
	return fmt.Sprintln(all...)
}
