package tests

import (
	"fmt"
	"math/rand/v2"
	"runtime"
	"slices"
	"strings"
	"sync"
	"testing"
	"time"

	"loop.example/changeringer/impl"
)

// These tests hold promise 11: the output of a script begins with the output of every prefix that ends at a line break,
// and queries have no effect.

func TestDeskLimits(t *testing.T) {
	if impl.DeskMaxText != 20000 || impl.DeskMaxLines != 120 || impl.DeskMaxOut != 20000 {
		t.Error(impl.DeskMaxText, impl.DeskMaxLines, impl.DeskMaxOut)
	}
}

// checkDesk compares what a script that is not long puts out, also with the model, and holds the promise's first half.
func checkDesk(t *testing.T, script, want string) {
	t.Helper()
	checkOutput(t, script, want)
	for at := range len(script) {
		if script[at] != '\n' {
			continue
		}
		for _, prefix := range []string{script[:at], script[:at+1]} {
			if got := impl.DeskRun(prefix); !strings.HasPrefix(want, got) {
				t.Errorf("%s puts out\n%s, but %s\n%s", quoted(prefix), quoted(got), quoted(script), quoted(want))
			}
		}
	}
}

func checkOutput(t *testing.T, script, want string) {
	t.Helper()
	got := impl.DeskRun(script)
	if got != want {
		t.Errorf("%s puts out\n%s, not\n%s", quoted(script), quoted(got), quoted(want))
	}
	if again := impl.DeskRun(script); again != got {
		t.Errorf("%s puts out\n%s, and then\n%s", quoted(script), quoted(got), quoted(again))
	}
	if model := modelDesk(script); model != want {
		t.Errorf("by the model %s puts out\n%s, not\n%s", quoted(script), quoted(model), quoted(want))
	}
}

// quoted leaves out what is in the middle of a long text.
func quoted(text string) string {
	const most = 600
	if len(text) <= most {
		return fmt.Sprintf("%q", text)
	}
	return fmt.Sprintf("%q .. (%d bytes) .. %q", text[:most/2], len(text), text[len(text)-most/2:])
}

// checkSession has the lines of a script behind "> ", and behind each one what it puts out.
func checkSession(t *testing.T, session string) {
	t.Helper()
	script, want := "", ""
	for line := range strings.Lines(strings.TrimPrefix(session, "\n")) {
		if input, is := strings.CutPrefix(line, "> "); is {
			checkOutput(t, script, want)
			if t.Failed() {
				t.FailNow()
			}
			script += input
		} else {
			want += line
		}
	}
	checkDesk(t, script, want)
	checkAsked(t, script, "code 0", "run 90 1", "play 0 1 2 0", "can", "whole 0 0 0 0 0", "alone 90 1")
}

// checkAsked puts each of these lines, none of which has an effect, at each place of a script, and holds the promise's
// second half: it adds its own output there, twice the same if it is there twice, and changes no other.
func checkAsked(t *testing.T, script string, asked ...string) {
	t.Helper()
	lines := strings.Split(script, "\n")
	run := func(parts ...[]string) string { return impl.DeskRun(strings.Join(slices.Concat(parts...), "\n")) }
	out := impl.DeskRun(script)
	for at := range len(lines) + 1 {
		ahead := run(lines[:at])
		rest, ok := strings.CutPrefix(out, ahead)
		if !ok {
			t.Errorf("the first %d lines of %q put out\n%q", at, script, ahead)
		}
		for _, line := range asked {
			own, ok := strings.CutPrefix(run(lines[:at], []string{line}), ahead)
			if !ok || own == "" {
				t.Errorf("behind %d lines of %q, %q puts out %q", at, script, line, own)
			}
			if got := run(lines[:at], []string{line}, lines[at:]); got != ahead+own+rest {
				t.Errorf("with %q behind %d lines, %q puts out\n%q, not\n%q", line, at, script, got, ahead+own+rest)
			}
			if got := run(lines[:at], []string{line, line}, lines[at:]); got != ahead+own+own+rest {
				t.Errorf("with %q twice behind %d lines, %q puts out\n%q", line, at, script, got)
			}
		}
	}
}

func TestDeskExample(t *testing.T) {
	checkSession(t, `
> proc num 0 1 say 0 in 0 [ load 0 0 add 0 0 store 0 0 ]
fine
> proc num 0 5 in 0 [ store 0 0 ] say 0
fine
> whole 0 0 0 0 0
yes
> run 90 2
done
0 says 1
1 says 5
cells 10 0 0
end
> alone 90 2
done
order 1 0
alike
> code 1
num 0 5
enter 0
store 0 0
leave 0
say 0
end
end
> can
can 0 1
> play 1 1 0 1 1
codes 0 0 0 0 0
cells 5 0 0
end
> can 1 1
can 0 1
> clear
fine
> proc in 0 [ wait 0 ]
fine
> run 20 3
stuck
cells 0 0 0
end
> fly
what
`)
}

func TestDeskOfOneProcess(t *testing.T) {
	checkSession(t, `
> proc num 1 -7 in 1 [ store 2 1 signal 0 ] say 1 yield
fine
> code 0
num 1 -7
enter 1
store 2 1
signal 0
leave 1
say 1
yield
end
end
> code 1
what
> run 90 12
done
0 says -7
cells 0 0 -7
end
> run 3 12
fuel
cells 0 0 -7
end
> play 0 0 0 0 0 0 0 0 1
codes 0 0 0 0 0 0 0 1 3
0 says -7
cells 0 0 -7
end
> play 0 0 0
codes 0 0 0
cells 0 0 -7
end
> can
can 0
> can 0 0 0 0 0 0
can 0
> can 0 0 0 0 0 0 0
can
> whole 0 0 1 1 0
yes
> whole 1 0 1 1 1
yes
> whole 0 0 0 1 0
no
> whole 0 0 1 0 0
no
> alone 90 12
done
order 0
alike
> alone 3 12
fuel
order 0
unlike
> alone 1 12
fuel
order
alike
`)
}

func TestDeskOfTwoProcesses(t *testing.T) {
	checkSession(t, `
> proc in 0 [ load 0 0 num 1 2 add 0 1 store 0 0 ] say 0
fine
> proc in 0 [ load 1 0 mul 1 1 store 0 1 ] say 1
fine
> whole 0 1 1 1 1
yes
> whole 1 1 1 1 1
no
> code 1
enter 0
load 1 0
do 1 1 3
store 0 1
leave 0
say 1
end
end
> run 90 12
done
0 says 2
1 says 4
cells 4 0 0
end
> run 90 1
done
0 says 2
1 says 4
cells 4 0 0
end
> alone 90 1
done
order 0 1
alike
> play 1 0 1 1 1 1 0 0 0 0 1 0 0 0 0
codes 0 2 0 0 0 0 0 0 0 0 0 0 0 0 1
1 says 0
0 says 2
cells 2 0 0
end
> can 1
can 1
> can 1 1 1 1 1
can 0 1
> can 1 1 1 1 1 1
can 0
`)
}

func TestDeskOfThreeProcesses(t *testing.T) {
	checkSession(t, `
> proc in 0 [ wait 0 say 0 ]
fine
> proc in 0 [ wait 0 ] num 0 3 say 0
fine
> proc in 0 [ signal 0 ] in 0 [ signal 0 ]
fine
> proc -
what
> run 90 12
done
0 says 0
1 says 3
cells 0 0 0
end
> alone 90 12
done
order 0 1 2 0 2 1
alike
> alone 10 12
fuel
order 0 1 2 0 2
alike
> alone 8 12
fuel
order 0 1 2 0
unlike
> code 0
enter 0
wait 0
say 0
leave 0
end
end
> code 2
enter 0
signal 0
leave 0
enter 0
signal 0
leave 0
end
end
> code 3
what
> play 2 2 0 2 1 1 2 2 2 2 1 1 1
codes 0 0 2 0 0 0 0 0 0 1 0 0 0
cells 0 0 0
end
> can 2
can 2
> can 0 0 1 1
can 2
> can 0 0 1 1 2 2
can 2
> can 0 0 1 1 2 2 2
can 0 2
> whole 0 0 0 0 0
yes
> whole 0 0 0 1 0
no
`)
}

// TestDeskOfNothing asks without any process, and about a process without statements.
func TestDeskOfNothing(t *testing.T) {
	checkSession(t, `
> run 90 1
what
> run 0 12
what
> alone 90 1
what
> code 0
what
> play
what
> play 0
what
> can
what
> can 0
what
> whole 0 0 0 0 0
no
> whole
no
> clear
fine
> clear
fine
> proc -
fine
> run 90 1
done
cells 0 0 0
end
> run 1 1
done
cells 0 0 0
end
> run 0 1
fuel
cells 0 0 0
end
> alone 90 1
done
order
alike
> alone 0 1
fuel
order
alike
> code 0
end
end
> play
codes
cells 0 0 0
end
> play 0 0
codes 1 1
cells 0 0 0
end
> can
can
> whole 0 0 0 0 0
yes
> whole 1 0 1 0 1
yes
> proc -
fine
> proc -
fine
> proc -
what
> code 2
end
end
> code 3
what
`)
}

// TestDeskWords is about what is in a line and between two of them.
func TestDeskWords(t *testing.T) {
	for script, want := range map[string]string{
		"": "", "\n": "", "\n\n\n": "", " ": "", "     ": "", " \n": "", "\n ": "", "  \n   \n \n": "",
		"clear": "fine\n", "clear\n": "fine\n", "clear\n\n\n": "fine\n", "\nclear": "fine\n", "\n\n \nclear": "fine\n",
		"clear\nclear": "fine\nfine\n", "clear\nclear\n": "fine\nfine\n", "clear\n\n \nclear\n": "fine\nfine\n",
		" clear": "fine\n", "    clear": "fine\n", "clear ": "fine\n", "clear     ": "fine\n", "  clear  \n   clear   \n ": "fine\nfine\n",
		"proc -\n  code   0  ": "fine\nend\nend\n", "   proc    -   \ncode 0": "fine\nend\nend\n",
		"proc  num   0  5   say    0 \n run   9     1": "fine\ndone\n0 says 5\ncells 0 0 0\nend\n",
		" proc in  0   [  yield    ] \nplay  0   0 \n": "fine\ncodes 0 0\ncells 0 0 0\nend\n",
		"cle ar": "what\n", "cle\nar": "what\nwhat\n", "proc\n-": "what\nwhat\n", "proc -\ncode\n0": "fine\nwhat\nwhat\n",
		"proc num 0\n5": "what\nwhat\n", "proc -clear": "what\n", "proc -\nclear\ncode 0": "fine\nfine\nwhat\n",
	} {
		checkDesk(t, script, want)
	}
}

// TestDeskOtherSpaces has characters that separate no words: they are in one, or are a word of their own.
func TestDeskOtherSpaces(t *testing.T) {
	for _, space := range []string{"\t", "\r", "\v", "\f", "\x00", "\u0085", "\u00a0", "\u2003", "\u2028", "\u3000", "\ufeff", "\xa0", "\xff", "\xc2", "\xc0\xa0", "\xc0\x8a", "\xe2\x80", "_", ","} {
		for _, c := range [][2]string{
			{space, "what\n"}, {" " + space + " ", "what\n"}, {space + "\n" + space, "what\nwhat\n"},
			{"clear" + space, "what\n"}, {space + "clear", "what\n"}, {"clear " + space, "what\n"}, {space + " clear", "what\n"},
			{"clear" + space + "\nclear", "what\nfine\n"}, {"clear" + space + "clear", "what\n"},
			{"proc" + space + "-", "what\n"}, {"proc -" + space, "what\n"}, {"proc say" + space + "0", "what\n"}, {"proc yield" + space + "yield", "what\n"},
			{"proc -\nrun 9" + space + "1", "fine\nwhat\n"}, {"proc -\nrun" + space + "9 1", "fine\nwhat\n"}, {"proc -\nrun 9 1" + space, "fine\nwhat\n"},
			{"proc -\ncan" + space, "fine\nwhat\n"}, {"proc -\ncan 0" + space + "0", "fine\nwhat\n"}, {"proc -\nwhole 0 0 0 0" + space + "0", "fine\nwhat\n"},
			{"proc -\ncode 0" + space + "\ncode 0", "fine\nwhat\nend\nend\n"},
		} {
			checkDesk(t, c[0], c[1])
		}
	}
}

// checkProc makes sure that words are a process, and with which code.
func checkProc(t *testing.T, process []impl.Stmt, text string) {
	t.Helper()
	code := modelText(modelCodes([][]impl.Stmt{process})[0])
	checkDesk(t, "proc "+text+"\ncode 0\ncode 1", "fine\n"+code+"end\nwhat\n")
	checkDesk(t, "proc -\n  proc   "+strings.ReplaceAll(text, " ", "   ")+"  \n code  1 \ncode 0", "fine\nfine\n"+code+"end\nend\nend\n")
}

func TestDeskProcOfEachKind(t *testing.T) {
	for _, c := range flatTexts {
		checkProc(t, list(c.stmt), c.text)
		for _, b := range slices.Concat(bodyTexts(c.stmt, c.text), roomTexts(c.stmt, c.text)) {
			checkProc(t, list(b.stmt, c.stmt), b.text+" "+c.text)
		}
	}
	for _, c := range []stmtText{{wait(0), "wait 0"}, {wait(1), "wait 1"}} {
		for _, r := range roomTexts(c.stmt, c.text) {
			checkProc(t, list(r.stmt, r.stmt), r.text+" "+r.text)
			for _, b := range bodyTexts(r.stmt, r.text) {
				checkProc(t, list(b.stmt), b.text)
			}
		}
	}
	for _, c := range []stmtText{{in(0), "in 0 [ ]"}, {choose(1, nil, nil), "if 1 [ ] [ ]"}, {while(2), "while 2 [ ]"}} {
		checkProc(t, list(c.stmt), c.text)
	}
	checkProc(t, nil, "-")
}

// TestDeskProcOfNoProcess has words that are none, first, in between and last; the program stays as it was.
func TestDeskProcOfNoProcess(t *testing.T) {
	for _, texts := range [][]string{
		{"", "- -", "- yield", "yield -", "[ ]", "[", "]", "in 0 [ - ]", "proc -", "clear", "fine"},
		// What is no process as a whole.
		{"wait 0", "in 0 [ ] wait 0", "in 0 [ in 1 [ ] ]", "while 0 [ in 0 [ in 0 [ ] ] ]", "while 0 [ while 0 [ while 0 [ yield ] ] ]", "in 0 [ if 0 [ ] [ while 0 [ yield ] ] ]"},
		{strings.TrimSuffix(strings.Repeat("yield ", 15), " "), strings.TrimSuffix(strings.Repeat("if 0 [ yield ] [ yield ] ", 5), " ")},
		{strings.Repeat("num 0 -999 ", 40), strings.Repeat("x", 5000), strings.Repeat("[ ", 2000), strings.Repeat("in 0 [ ", 100) + strings.Repeat("] ", 100)},
	} {
		for _, text := range texts {
			checkDesk(t, "proc "+text, "what\n")
			checkDesk(t, "proc "+text+"\nproc say 1\ncode 0\ncode 1", "what\nfine\nsay 1\nend\nend\nwhat\n")
			checkDesk(t, "proc say 1\nproc "+text+"\ncode 0\ncode 1\nproc say 2\ncode 1", "fine\nwhat\nsay 1\nend\nend\nwhat\nfine\nsay 2\nend\nend\n")
			checkDesk(t, "proc -\nproc -\nproc "+text+"\ncode 2\nproc say 2\ncode 2", "fine\nfine\nwhat\nwhat\nfine\nsay 2\nend\nend\n")
		}
	}
	checkDesk(t, "proc", "what\n")
	checkDesk(t, "proc \n-", "what\nwhat\n")
}

// TestDeskProcOfUnreadTexts also has texts that a line has other than StmtsRead: with more spaces, or with line breaks.
func TestDeskProcOfUnreadTexts(t *testing.T) {
	fine := 0
	for _, text := range unreadTexts {
		script := "proc say 2\nproc " + text + "\ncode 0\ncode 1"
		want := modelDesk(script)
		checkDesk(t, script, want)
		if !strings.ContainsAny(text, " \n") && strings.Contains(want, "fine\nfine\n") {
			t.Errorf("%q is a process", text)
		}
		fine += strings.Count(want, "fine\nfine\n")
	}
	if fine == 0 || fine > 20 {
		t.Errorf("%d of the texts are those of processes", fine)
	}
}

// TestDeskLastProcess fills programs with processes of up to the most statements.
func TestDeskLastProcess(t *testing.T) {
	for _, process := range slices.Concat(manyStmts(14), manyStmts(13)) {
		text := written(process)
		checkProc(t, process, text)
		code := modelText(modelCodes([][]impl.Stmt{process})[0])
		checkDesk(t, strings.Repeat("proc "+text+"\n", 5)+"code 2\ncode 3", "fine\nfine\nfine\nwhat\nwhat\n"+code+"end\nwhat\n")
	}
}

func TestDeskOneProcessTooMany(t *testing.T) {
	checkSession(t, `
> proc say 0
fine
> proc say 1
fine
> proc say 2
fine
> proc yield
what
> code 2
say 2
end
end
> code 3
what
> proc -
what
> can
can 0 1 2
> run 90 12
done
0 says 0
1 says 0
2 says 0
cells 0 0 0
end
> clear
fine
> proc yield
fine
> code 0
yield
end
end
> code 1
what
`)
}

func TestDeskClear(t *testing.T) {
	checkSession(t, `
> clear
fine
> proc num 0 4 store 1 0 say 0
fine
> proc say 0
fine
> play 0 0 0
codes 0 0 0
0 says 4
cells 0 4 0
end
> clear 0
what
> clear clear
what
> clear -
what
> can
can 0 1
> clear
fine
> can
what
> code 0
what
> run 90 1
what
> alone 90 1
what
> play 0
what
> whole 0 0 0 0 0
no
> proc load 0 1 say 0
fine
> run 90 1
done
0 says 0
cells 0 0 0
end
> code 1
what
> clear
fine
> clear
fine
> code 0
what
`)
}

func TestDeskCode(t *testing.T) {
	checkSession(t, `
> code 0
what
> code -1
what
> proc if 0 [ say 1 ] [ say 2 ]
fine
> proc while 1 [ in 1 [ wait 0 ] ] signal 1
fine
> proc less 0 1 same 1 2 sub 2 0
fine
> code 0
skip 0 3
say 1
jump 4
say 2
end
end
> code 1
skip 1 5
enter 1
wait 0
leave 1
jump 0
signal 1
end
end
> code 2
do 0 1 4
do 1 2 5
do 2 0 2
end
end
> code 3
what
> code 4
what
> code -1
what
> code
what
> code 0 0
what
> code 0 1
what
> code 1 2 3
what
> code 0 x
what
> code x
what
> code 4294967296
what
> code -4294967296
what
> code 99999999999999999
what
> code all
what
`)
}

func TestDeskRunGapsAndFuel(t *testing.T) {
	for name, gaps := range invalidGaps() {
		for _, command := range []string{"run", "alone"} {
			for _, fuel := range []int{0, 5, 90} {
				line := numbersLine(command, append(ints(fuel), gaps...)...)
				checkOutput(t, "proc -\nproc say 0\n"+line+"can", "fine\nfine\nwhat\ncan 1\n")
				if t.Failed() {
					t.Fatalf("%s, %s", command, name)
				}
			}
		}
	}
	for _, gaps := range []string{" 1", " 12", " 1 12 3", strings.Repeat(" 1", 20), strings.Repeat(" 12", 20), " 5 4 3 2 1"} {
		checkDesk(t, "proc -\nrun 90"+gaps+"\nalone 90"+gaps, "fine\ndone\ncells 0 0 0\nend\ndone\norder\nalike\n")
		for _, fuel := range []string{"-1", "91", "92", "-90", "900", "4294967297", "-4294967295", "99999999999999999", "100000000000000000", "90.0", "090"} {
			checkDesk(t, "proc -\nrun "+fuel+gaps+"\nalone "+fuel+gaps+"\ncan", "fine\nwhat\nwhat\ncan\n")
		}
	}
	for _, words := range []string{"", " 0", " 1", " 90", " x", " x 1", " 1 x", " 1 1 x", " 90 1 2 x 3", " 90 - 1", " 90,1", " 90 1 -"} {
		checkDesk(t, "proc -\nrun"+words+"\nalone"+words+"\ncode 0", "fine\nwhat\nwhat\nend\nend\n")
	}
}

// TestDeskGapsMatter has the timer decide who says something first.
func TestDeskGapsMatter(t *testing.T) {
	checkSession(t, `
> proc say 0 num 0 1 say 0
fine
> proc num 0 8 say 0 num 0 9 say 0
fine
> run 90 12
done
0 says 0
0 says 1
1 says 8
1 says 9
cells 0 0 0
end
> run 90 1
done
0 says 0
1 says 8
0 says 1
1 says 9
cells 0 0 0
end
> run 90 1 2
done
0 says 0
1 says 8
1 says 9
0 says 1
cells 0 0 0
end
> run 5 1
fuel
0 says 0
1 says 8
0 says 1
cells 0 0 0
end
> run 4 1
fuel
0 says 0
1 says 8
cells 0 0 0
end
`)
}

// TestDeskFuel runs programs that end at their last instruction, that never end, and that get stuck.
func TestDeskFuel(t *testing.T) {
	checkSession(t, `
> proc num 0 28 num 1 1 say 0 yield while 0 [ sub 0 1 ]
fine
> run 90 12
done
0 says 28
cells 0 0 0
end
> alone 90 12
done
order
alike
> run 89 12
fuel
0 says 28
cells 0 0 0
end
> alone 89 12
fuel
order
alike
> run 91 12
what
> alone 91 12
what
> run 3 12
fuel
0 says 28
cells 0 0 0
end
> run 2 12
fuel
cells 0 0 0
end
> alone 2 12
fuel
order
unlike
> run 0 12
fuel
cells 0 0 0
end
> alone 0 12
fuel
order
unlike
> clear
fine
> proc num 0 1 while 0 [ ]
fine
> run 90 12
fuel
cells 0 0 0
end
> alone 90 12
fuel
order
none
> clear
fine
> proc in 0 [ wait 1 ] say 0
fine
> run 90 12
stuck
cells 0 0 0
end
> run 2 12
stuck
cells 0 0 0
end
> run 1 12
fuel
cells 0 0 0
end
> alone 90 12
stuck
order 0
alike
`)
}

// TestDeskAlone has programs that come to the same alone, to something else, and to nothing.
func TestDeskAlone(t *testing.T) {
	checkSession(t, `
> proc num 1 1 load 0 0 add 0 1 store 0 0
fine
> proc num 1 1 load 0 0 add 0 1 store 0 0
fine
> run 90 1
done
cells 1 0 0
end
> alone 90 1
done
order
unlike
> run 90 12
done
cells 2 0 0
end
> alone 90 12
done
order
alike
> clear
fine
> proc in 0 [ num 1 1 load 0 0 add 0 1 store 0 0 ]
fine
> proc in 1 [ num 1 1 load 0 0 add 0 1 store 0 0 ]
fine
> alone 90 1
done
order 0 1
unlike
> alone 90 12
done
order 0 1
alike
> proc in 0 [ num 0 1 while 0 [ ] ]
fine
> alone 20 12
fuel
order 0 1 2
none
> alone 8 12
fuel
order 0 1
unlike
> clear
fine
> proc in 0 [ wait 0 say 0 ]
fine
> proc in 1 [ signal 0 wait 0 say 0 ]
fine
> proc num 0 6 signal 0 say 0
fine
> alone 90 12
done
order 0 1 0 1
none
> whole 0 0 0 0 0
no
> whole 0 0 0 1 0
no
> run 90 12
done
2 says 6
0 says 0
1 says 0
cells 0 0 0
end
`)
}

func TestDeskPlayAndCan(t *testing.T) {
	checkSession(t, `
> proc num 0 2 say 0 in 1 [ store 1 0 ]
fine
> proc in 1 [ yield ]
fine
> play
codes
cells 0 0 0
end
> can
can 0 1
> play 2
codes 3
cells 0 0 0
end
> play -1 0 -2 0 5 -99999999999999999 99999999999999999 3
codes 3 0 3 0 3 3 3 3
0 says 2
cells 0 0 0
end
> can -1 0 -2 0 5 -99999999999999999 99999999999999999 3
can 0 1
> can -1 0 -2 0 5 1
can 1
> play 1 0 0 0 0 1 0 1 0 0 0
codes 0 0 0 2 2 0 2 0 0 0 0
0 says 2
cells 0 2 0
end
> play 1 1 1 1 1
codes 0 0 0 1 1
cells 0 0 0
end
> can 1 1 1 1 1 0 0
can 0
> can 1 1 1 1 1 0 0 0 0 0
can
> play x
what
> can x
what
> play 0 x
what
> can 0 -
what
> play 0 0 01
what
`)
}

func TestDeskMostPicks(t *testing.T) {
	for _, c := range []struct{ pick, code, after string }{{"0", " 0", " 0 1"}, {"1", " 1", " 0"}, {"2", " 3", " 0 1"}, {"-1", " 3", " 0 1"}} {
		cells := "cells 0 0 0\nend\n"
		if c.pick == "1" {
			cells = "1 says 0\n" + cells
		}
		picks := func(many int) string { return strings.Repeat(" "+c.pick, many) }
		for _, many := range []int{1, 199, 200} {
			codes := strings.Repeat(c.code, many)
			if c.pick == "1" {
				codes = " 0" + codes[2:]
			}
			checkDesk(t, "proc num 0 1 while 0 [ ]\nproc say 0\nplay"+picks(many)+"\ncan"+picks(many), "fine\nfine\ncodes"+codes+"\n"+cells+"can"+c.after+"\n")
		}
		for _, many := range []int{201, 202, 400, 5000} {
			checkDesk(t, "proc num 0 1 while 0 [ ]\nproc say 0\nplay"+picks(many)+"\ncan\n", "fine\nfine\nwhat\ncan 0 1\n")
			checkDesk(t, "proc num 0 1 while 0 [ ]\nproc say 0\ncan"+picks(many)+"\ncan\n", "fine\nfine\nwhat\ncan 0 1\n")
		}
	}
}

func TestDeskWhole(t *testing.T) {
	checkSession(t, `
> whole
no
> whole 0 0 0 0 0
no
> proc in 1 [ load 0 1 store 0 0 ] in 0 [ store 2 1 ]
fine
> proc in 0 [ wait 0 ] in 1 [ signal 1 ]
fine
> whole 1 1 0 0 1
yes
> whole
no
> whole 1
no
> whole 1 1 0 0
no
> whole 1 1 0 0 1 0
no
> whole 1 1 0 0 1 1
no
> whole 0 1 0 0 1
no
> whole 1 0 0 0 1
no
> whole 1 1 1 0 1
no
> whole 1 1 0 1 1
no
> whole 1 1 0 0 0
no
> whole 0 0 0 0 0
no
> whole 1 1 1 1 1
no
> whole 2 1 0 0 1
no
> whole 1 1 0 0 2
no
> whole 1 -1 0 0 1
no
> whole 99999999999999999 1 0 0 1
no
> whole -99999999999999999
no
> whole 4294967297 4294967297 4294967296 4294967296 4294967297
no
> whole 1 1 0 0 x
what
> whole x
what
> whole 1 1 0 0 1 x
what
> whole 1 1 0 0 01
what
> proc say 0
fine
> whole 1 1 0 0 1
yes
`)
}

// TestDeskAllOwners has a line for each number of rooms up to six, all of which are numbers of -1 to 2.
func TestDeskAllOwners(t *testing.T) {
	ahead := "proc in 0 [ load 0 0 load 0 2 ] in 1 [ signal 1 ]\nproc in 1 [ store 1 0 signal 1 ]\n"
	yes := 0
	for many := range 7 {
		for rooms := range sequences(many, 4) {
			for i := range rooms {
				rooms[i]--
			}
			want := "no\n"
			if fmt.Sprint(rooms) == "[0 1 0 0 1]" || fmt.Sprint(rooms) == "[0 1 0 1 1]" {
				want = "yes\n"
				yes++
			}
			if got := impl.DeskRun(ahead + numbersLine("whole", rooms...)); got != "fine\nfine\n"+want {
				t.Errorf("with %v the output is %q", rooms, got)
			}
		}
	}
	if yes != 2 {
		t.Error(yes)
	}
}

// notNumbers are not in the form of a number, or have too many digits.
var notNumbers = []string{
	"-0", "00", "000", "+0", "+1", "-", "+", "--1", "-+1", "+-1", "- 1x", "1-", "01", "-01", "007", "1.0", "1.", ".5", "1e1", "0x1", "0b1", "0o7", "1_0", "1,0", "x", "1x", "x1", "٣", "１", "²", "½", "\xb2", "1\xff", "\t1", "1\t", "1\r", "\"1\"", "(1)", "[1]", "one", "NaN", "Inf",
	"100000000000000000", "-100000000000000000", "999999999999999999", "-999999999999999999", "000000000000000001", "00000000000000001", "-00000000000000001", "-0000000000000001",
	"9223372036854775807", "-9223372036854775808", "9223372036854775808", "18446744073709551616", "18446744073709551617", "-18446744073709551616", strings.Repeat("9", 100), strings.Repeat("0", 400), "-" + strings.Repeat("1", 1000),
}

// TestDeskNumbers has each of these at each place of a line that would be fine with a 0 or a 1 in its place.
func TestDeskNumbers(t *testing.T) {
	for _, line := range []string{"code 0", "run 1 1", "run 90 1 1", "play 0", "play 0 1 0", "can 0", "can 1 1", "whole 0 0 0 0 0", "whole 1", "alone 1 1", "alone 90 1 1"} {
		words := strings.Split(line, " ")
		if got := impl.DeskRun("proc say 0\n" + line); strings.Contains(got, "what") {
			t.Errorf("%q puts out %q", line, got)
		}
		for at := 1; at < len(words); at++ {
			for _, word := range notNumbers {
				spoilt := slices.Clone(words)
				spoilt[at] = word
				script := "proc say 0\n" + strings.Join(spoilt, " ") + "\ncan"
				checkOutput(t, script, "fine\nwhat\ncan 0\n")
			}
		}
	}
}

// TestDeskWideNumbers has numbers of all lengths up to the most digits, which are numbers even where they are no process.
func TestDeskWideNumbers(t *testing.T) {
	for digits := 1; digits <= 40; digits++ {
		for _, first := range []string{"1", "2", "9", "-1", "-9"} {
			for _, rest := range []string{"0", "9", "5"} {
				number := first + strings.Repeat(rest, digits-1)
				if number == "1" {
					continue
				}
				want := "fine\nfine\ncodes 3 0\ncells 0 0 0\nend\ncan 0\nno\n"
				if digits > 17 {
					want = "fine\nfine\nwhat\nwhat\nwhat\n"
				}
				checkOutput(t, "proc yield\nproc yield\nplay "+number+" 0\ncan 1 "+number+"\nwhole "+number, want)
			}
		}
	}
}

// TestDeskOtherLines has lines that are none; nothing changes by them.
func TestDeskOtherLines(t *testing.T) {
	for _, line := range []string{
		"fly", "x", "0", "-", "-1", "[", "]", "#", "# proc -", "; clear", "what", "fine", "end", "done", "full", "long", "help", "quit", "exit", "say 0", "yield", "\"clear\"", "\x00", "\xff", "é", "🦆", "%s", "\\n",
		"Clear", "CLEAR", "cLear", "PROC -", "Proc -", "Code 0", "RUN 9 1", "Run 9 1", "Play 0", "CAN", "Can 0", "Whole 0 0 0 0 0", "ALONE 9 1",
		"clea", "clears", "cleare", "pro -", "procs -", "proc- -", "cod 0", "codes 0", "code0", "ru 9 1", "runs 9 1", "run9 1", "pla 0", "plays 0", "ca", "cans", "can0", "whol 0 0 0 0 0", "wholes 0 0 0 0 0", "alon 9 1", "alones 9 1", "clear,", ".clear", "proc:-", "clear;proc -",
		"clear 0", "clear now", "clear clear", "code", "code 0 0", "code 0 1", "code 1", "code -1", "code x", "run", "run 9", "alone", "alone 9", "proc", "proc - -", "run x", "run 91 1", "alone 91 1",
		"- clear", "0 code", "the clear", "now clear", "1 2 3", "proc proc -",
	} {
		checkDesk(t, line, "what\n")
		checkDesk(t, line+"\n"+line, "what\nwhat\n")
		checkDesk(t, "proc say 1\n"+line+"\ncode 0\n"+line+"\nproc say 2\ncan", "fine\nwhat\nsay 1\nend\nend\nwhat\nfine\ncan 0 1\n")
		checkAsked(t, "proc say 1\nclear\nproc -\nproc say 0\nrun 90 1", line)
	}
}

func TestDeskMostText(t *testing.T) {
	const most = 20000
	fill := func(ahead string, with string, many int) string {
		return ahead + strings.Repeat(with, (many-len(ahead))/len(with))
	}
	for _, c := range []struct{ ahead, with, want string }{
		{"", "\n", ""}, {"", " ", ""}, {"", "x", "what\n"}, {"clear", " ", "fine\n"}, {"clear", "\n", "fine\n"}, {"proc -\ncan\n", " ", "fine\ncan\n"},
		{"", "é", "what\n"}, {"", "🦆", "what\n"}, {"", "\xff", "what\n"}, {"xx", " 0", "what\n"}, {"clear \n", "\x00", "fine\nwhat\n"}, {"proc -\nplay xx", " 0", "fine\nwhat\n"}, {"proc ", "-", "what\n"}, {"can ", "9", "what\n"},
	} {
		script := fill(c.ahead, c.with, most)
		if len(script) != most {
			t.Fatalf("%d bytes begin with %q", len(script), c.ahead)
		}
		checkOutput(t, script, c.want)
		checkOutput(t, fill(c.ahead, c.with, most-4), c.want)
		for _, more := range []string{" ", "\n", "x", "\xff", "\x00", "é", "\nclear", strings.Repeat("\n", 100), strings.Repeat("x", 100000)} {
			checkOutput(t, script+more, "long\n")
			checkOutput(t, more+script, "long\n")
		}
	}
	checkOutput(t, strings.Repeat("clear\n", most/6+1), "long\n")
	checkOutput(t, strings.Repeat("clear\n", most/6), strings.Repeat("fine\n", 120)+"full\n")
}

func TestDeskMostLines(t *testing.T) {
	const most = 120
	blank := func(many int) string { return strings.Repeat("\n", many) }
	for _, c := range []struct {
		line, out string
	}{{"clear", "fine\n"}, {"x", "what\n"}, {"can", "what\n"}, {"whole", "no\n"}, {"proc 0", "what\n"}} {
		for _, many := range []int{1, 2, most - 1, most} {
			checkDesk(t, strings.Repeat(c.line+"\n", many), strings.Repeat(c.out, many))
			checkDesk(t, strings.Repeat(c.line+"\n", many)+blank(5)+"  \n", strings.Repeat(c.out, many))
			checkDesk(t, strings.TrimSuffix(strings.Repeat(c.line+"\n", many), "\n"), strings.Repeat(c.out, many))
		}
		for _, many := range []int{most + 1, most + 2, 2 * most} {
			checkDesk(t, strings.Repeat(c.line+"\n", many), strings.Repeat(c.out, most)+"full\n")
			checkDesk(t, strings.TrimSuffix(strings.Repeat(c.line+"\n", many), "\n"), strings.Repeat(c.out, most)+"full\n")
			checkDesk(t, strings.Repeat(c.line+"\n", most)+blank(3)+" "+c.line+blank(3)+c.line, strings.Repeat(c.out, most)+"full\n")
		}
		// Lines without words count, and have no output even where there are too many.
		checkDesk(t, blank(most-1)+c.line, c.out)
		checkDesk(t, blank(most)+c.line, "full\n")
		checkDesk(t, blank(most-1)+c.line+"\n"+c.line, c.out+"full\n")
		checkDesk(t, strings.Repeat("   \n", most-1)+c.line, c.out)
		checkDesk(t, strings.Repeat("   \n", most)+c.line, "full\n")
		checkDesk(t, c.line+blank(most-1)+c.line, c.out+c.out)
		checkDesk(t, c.line+blank(most)+c.line, c.out+"full\n")
		checkDesk(t, c.line+"\n"+strings.Repeat(" \n\n", most/2-1)+c.line+"\n"+c.line+"\n"+c.line, c.out+c.out+"full\n")
		checkOutput(t, blank(10000)+c.line, "full\n")
		checkOutput(t, c.line+blank(10000), c.out)
	}
	checkOutput(t, blank(most), "")
	checkOutput(t, blank(most+1), "")
	checkOutput(t, blank(20000), "")
	checkOutput(t, strings.Repeat(" \n", 10000), "")
}

// TestDeskMostLinesOfAProgram has a program that is still there in the last line, and not changed by what is behind.
func TestDeskMostLinesOfAProgram(t *testing.T) {
	script := "proc num 0 3 say 0\nproc -" + strings.Repeat("\ncan", 117) + "\nrun 9 1"
	want := "fine\nfine\n" + strings.Repeat("can 0\n", 117) + "done\n0 says 3\ncells 0 0 0\nend\n"
	checkDesk(t, script, want)
	for _, line := range []string{"clear", "can", "proc -", "code 0", "fly", "whole", "run 9 1", "alone 9 1", "play", "proc", "\t"} {
		checkDesk(t, script+"\n"+line, want+"full\n")
		checkDesk(t, script+"\n\n \n"+line+"\ncan\n\n", want+"full\n")
	}
	checkDesk(t, script+"\n \n\n", want)
}

// outputOf makes a script, without a line break at its end, that puts out just so many bytes.
func outputOf(t *testing.T, many int) string {
	t.Helper()
	lines := []string{"proc num 0 999 while 0 [ say 0 ]"}
	left := many - len("fine\n")
	long := "play" + strings.Repeat(" 0", 200)
	size := len(impl.DeskRun(lines[0]+"\n"+long)) - len("fine\n")
	for ; left >= size+20; left -= size {
		lines = append(lines, long)
	}
	for ; left >= 50; left -= 22 {
		lines = append(lines, "play")
	}
	// What is left is made of lines of three and of five bytes.
	for ; left%3 != 0; left -= 5 {
		lines = append(lines, "fly")
	}
	for ; left > 0; left -= 3 {
		lines = append(lines, "whole")
	}
	script := strings.Join(lines, "\n")
	if got := len(impl.DeskRun(script)); got != many || len(lines) > 115 {
		t.Fatalf("%d lines put out %d bytes, not %d", len(lines), got, many)
	}
	return script
}

func TestDeskMostOutput(t *testing.T) {
	const most = 20000
	checkDesk(t, outputOf(t, most), modelDesk(outputOf(t, most)))
	for many := most - 6; many <= most; many++ {
		script := outputOf(t, many)
		out := modelDesk(script)
		checkOutput(t, script+"\n\n  \n", out)
		for _, next := range [][2]string{{"clear", "fine\n"}, {"fly", "what\n"}, {"whole", "no\n"}, {"can", "can 0\n"}, {"run 90 1", modelLine(strings.Split(script, "\n"), []string{"run", "90", "1"})}} {
			checkOutput(t, script+"\n"+next[0], out+next[1])
			behind := "full\n"
			if many+len(next[1]) <= most {
				behind = "no\n"
			}
			checkOutput(t, script+"\n"+next[0]+"\nwhole", out+next[1]+behind)
			checkOutput(t, script+"\n"+next[0]+"\n\n   \nwhole\n\n", out+next[1]+behind)
			checkOutput(t, script+"\n"+next[0]+"\n\n", out+next[1])
		}
	}
	for _, script := range []string{outputOf(t, most-2) + "\nwhole", outputOf(t, most-1) + "\nfly", outputOf(t, most) + "\ncode 0", outputOf(t, most) + "\nplay" + strings.Repeat(" 0", 200)} {
		out := modelDesk(script)
		checkOutput(t, script+"\n\n ", out)
		for _, line := range []string{"clear", "fly", "whole", "can", "run 90 1", "alone 90 1", "play", "code 0", "proc -", "proc", "\t", "\xff", strings.Repeat("x", 5000)} {
			checkOutput(t, script+"\n"+line, out+"full\n")
			checkOutput(t, script+"\n \n"+line+"\nclear\n\n"+line, out+"full\n")
		}
	}
}

// word makes a word that some line has, or one that none has.
func (m maker) word() string {
	words := []string{"proc", "clear", "code", "run", "play", "can", "whole", "alone", "0", "1", "2", "3", "-1", "90", "91", "12", "13", "-0", "01", "-", "x", "\t", "\xff", "fly", "[", "]", "num", "say", "yield", "100000000000000000"}
	return words[m.IntN(len(words))]
}

// ask makes a line that has no effect, and mostly a meaning.
func (m maker) ask(owner []int) string {
	name := []string{"code", "run", "run", "play", "can", "whole", "alone", "alone"}[m.IntN(8)]
	var numbers []int
	switch name {
	case "code":
		numbers = ints(m.IntN(5) - 1)
	case "run", "alone":
		numbers = append(ints([]int{90, 90, m.IntN(90), m.IntN(20), 91}[m.IntN(5)]), m.gaps()...)
	case "play", "can":
		numbers = m.picks(3)
		if m.IntN(10) == 0 {
			numbers = fine(199 + m.IntN(4))
		}
	case "whole":
		numbers = owner
		if m.IntN(2) == 0 {
			numbers = m.owner()
		}
	}
	words := strings.Split(strings.TrimSuffix(numbersLine(name, numbers...), "\n"), " ")
	if m.IntN(8) == 0 {
		at := 1 + m.IntN(len(words))
		words = slices.Insert(words, at, m.word())
	}
	return strings.Join(words, " ")
}

// line makes a line of a script.
func (m maker) line(owner []int) string {
	switch m.IntN(12) {
	case 0:
		return "proc " + m.spoil(written(m.process()))
	case 1:
		return "clear"
	case 2:
		words := make([]string, m.IntN(5))
		for i := range words {
			words[i] = m.word()
		}
		return strings.Join(words, " ")
	case 3, 4:
		return "proc " + written(m.process())
	case 5:
		return "proc " + strings.Join(strings.Split(written(m.guarded(owner)[0]), " "), strings.Repeat(" ", 1+m.IntN(3)))
	}
	return strings.Repeat(" ", m.IntN(2)) + m.ask(owner) + strings.Repeat(" ", m.IntN(2))
}

func (m maker) script(owner []int, many int) string {
	var lines []string
	for range 1 + m.IntN(3) {
		lines = append(lines, "proc "+written(m.guarded(owner)[0]))
	}
	for range many {
		lines = append(lines, m.line(owner))
	}
	return strings.Join(lines, "\n")
}

// TestDeskOfMadeScripts counts what the lines of the output begin with, to see that everything happens.
func TestDeskOfMadeScripts(t *testing.T) {
	m := maker{rand.New(rand.NewPCG(10, 14))}
	seen := map[string]int{}
	for range 200 {
		script := m.script(m.owner(), m.IntN(30))
		if m.IntN(20) == 0 {
			script = m.script(m.owner(), 110+m.IntN(20))
		}
		out := modelDesk(script)
		checkDesk(t, script, out)
		if t.Failed() {
			t.Fatalf("%q", script)
		}
		for line := range strings.Lines(out) {
			seen[modelWords(strings.TrimSuffix(line, "\n"))[0]]++
		}
	}
	checkHappened(t, seen, "fine", "what", "end", "done", "fuel", "stuck", "codes", "can", "cells", "yes", "no", "order", "none", "alike", "unlike", "full", "0", "1", "2", "enter", "wait")
}

// TestDeskAskedAnywhere puts made lines without an effect everywhere into made scripts.
func TestDeskAskedAnywhere(t *testing.T) {
	m := maker{rand.New(rand.NewPCG(10, 15))}
	for range 60 {
		owner := m.owner()
		script := m.script(owner, m.IntN(12))
		checkAsked(t, script, m.ask(owner), m.ask(owner), "code "+m.word(), "run "+m.word()+" "+m.word(), "play "+m.word(), "can "+m.word(), "whole "+m.word(), "alone "+m.word()+" "+m.word())
		if t.Failed() {
			t.Fatalf("%q", script)
		}
	}
}

// TestDeskCallsAreApart has scripts after and beside each other that leave different programs behind.
func TestDeskCallsAreApart(t *testing.T) {
	checkOutput(t, "can\ncode 0\nproc say 0", "what\nwhat\nfine\n")
	checkOutput(t, "can\ncode 0\nproc say 0", "what\nwhat\nfine\n")
	m := maker{rand.New(rand.NewPCG(10, 16))}
	want := map[string]string{}
	for range 20 {
		script := m.script(m.owner(), 20)
		want[script] = impl.DeskRun(script)
	}
	before := runtime.NumGoroutine()
	var group sync.WaitGroup
	for range 8 {
		group.Go(func() {
			for script, out := range want {
				if got := impl.DeskRun(script); got != out {
					t.Errorf("%q puts out\n%q, and then\n%q", script, out, got)
				}
			}
		})
	}
	group.Wait()
	for range 100 {
		if runtime.NumGoroutine() <= before {
			return
		}
		time.Sleep(10 * time.Millisecond)
	}
	t.Errorf("%d goroutines have become %d", before, runtime.NumGoroutine())
}
