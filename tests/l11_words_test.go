package tests

import (
	"slices"
	"strings"
	"testing"

	"loop.example/g01331/impl"
)

// rightLines has a line of each command that is right on workDesk.
func rightLines() []string {
	return []string{"graph 3:0-1", "name k4", "jump 6 3 1", "put 0 1", "take 0 3", "complement", "plane 2", "polarity 3", "odd 3", "tuple 3 2", "ring 5 2", "double", "at 2", "half", "folded",
		"bruijn 2 3", "kautz 2 1", "line", "reverse", "both", "show", "look", "degrees", "levels 1", "far 0 5", "diameter", "girth", "cycles", "through 0 3", "excess", "defect", "moore", "arrays",
		"parameters", "antipodal", "reach", "walks 0 1 2", "words 2 3", "orbit 1", "count", "alike", "arcs", "reset"}
}

// workDesk has a graph and a digraph with which no function that these lines call has an error.
func workDesk(t *testing.T) impl.Desk {
	t.Helper()
	return deskWith(t, "name k33")
}

// TestRightLines asks that the lines that other tests make wrong are right as they are.
func TestRightLines(t *testing.T) {
	d := workDesk(t)
	var commands []string
	for _, line := range rightLines() {
		next, output := impl.RunLine(d, line)
		if output == "error" || output == "" || !impl.IsDesk(next) {
			t.Errorf("%q has the output %q", line, output)
		}
		commands = append(commands, strings.Split(line, " ")[0])
	}
	slices.Sort(commands)
	if len(slices.Compact(commands)) != 43 {
		t.Errorf("there are %d commands", len(slices.Compact(commands)))
	}
}

// tryDesks are desks on which lines are tried that are none. On the first one all commands can be right.
func tryDesks(t *testing.T) []impl.Desk {
	t.Helper()
	return []impl.Desk{workDesk(t), impl.NewDesk(), deskWith(t, "graph 1:\nbruijn 1 1")}
}

func TestWordsMissing(t *testing.T) {
	for _, d := range tryDesks(t) {
		for _, line := range rightLines() {
			words := strings.Split(line, " ")
			least := len(words)
			if words[0] == "jump" {
				least = 2
			}
			for count := 1; count < least; count++ {
				wantWrong(t, d, strings.Join(words[:count], " "))
			}
			wantWrong(t, d, strings.Join(words[1:], " "))
		}
	}
}

func TestWordsTooMany(t *testing.T) {
	for _, d := range tryDesks(t) {
		for _, line := range rightLines() {
			words := strings.Split(line, " ")
			for place := range words {
				for _, word := range []string{"", "x", "0", "1", words[place], "3:0-1", "k4"} {
					if place > 0 && words[0] == "jump" && (word == "1" || word == words[place]) {
						continue
					}
					wantWrong(t, d, strings.Join(slices.Insert(slices.Clone(words), place, word), " "))
				}
			}
			for _, behind := range []string{" ", "  ", " x", " x ", " 1 1", " .."} {
				if words[0] != "jump" || behind != " 1 1" {
					wantWrong(t, d, line+behind)
				}
			}
			if words[0] != "jump" {
				wantWrong(t, d, line+" 0")
				wantWrong(t, d, line+" 1")
			}
		}
	}
}

// TestBlanks asks for a blank ahead of the command, for two blanks in the place of each one, and for one at the end.
func TestBlanks(t *testing.T) {
	for _, d := range tryDesks(t) {
		for _, line := range rightLines() {
			wantWrong(t, d, " "+line)
			wantWrong(t, d, "  "+line)
			wantWrong(t, d, line+" ")
			for i, x := range line {
				if x == ' ' {
					wantWrong(t, d, line[:i]+" "+line[i:])
				}
			}
			for _, other := range []string{"\t", "\n", "\r", "\v", "\f", "\x00", "\u00a0", "\u2003", ","} {
				wantWrong(t, d, line+other)
				wantWrong(t, d, other+line)
				if strings.Contains(line, " ") {
					wantWrong(t, d, strings.Replace(line, " ", other, 1))
				}
			}
		}
	}
}

func TestOtherCommands(t *testing.T) {
	lines := []string{"", " ", "  ", "\n", "fly", "error", "ok", "none", "yes", "help", "0", "1 2", "3:0-1", "petersen", "k4", "newdesk", "renumber 0", "beside", "edges", "parts", "closed 0 2", "pair 0 1",
		"stabiliser 0", "same", "text", "N", "G", "X", "jump N", "far A B", "levels V", "graph TEXT", "levels -1", "girth;", "put, 0 2", "put,take 0 2", "diameters", "degree", "gir", "girths", "g", "réach", "\xff", "show\xff"}
	for _, d := range tryDesks(t) {
		for _, line := range lines {
			wantWrong(t, d, line)
		}
		for _, line := range rightLines() {
			command, others, _ := strings.Cut(line, " ")
			for _, other := range []string{strings.ToUpper(command), strings.ToUpper(command[:1]) + command[1:], command[1:], command[:len(command)-1], command + "s", command + command, "\"" + command + "\""} {
				wantWrong(t, d, strings.TrimSuffix(other+" "+others, " "))
			}
			wantWrong(t, d, strings.ToUpper(line))
		}
	}
}

// TestNumbersOfLines puts words into the place of each number.
func TestNumbersOfLines(t *testing.T) {
	d := workDesk(t)
	for _, line := range rightLines() {
		words := strings.Split(line, " ")
		if words[0] == "graph" || words[0] == "name" {
			continue
		}
		for place := 1; place < len(words); place++ {
			number := words[place]
			for _, word := range []string{"", "00", "0" + number, "00" + number, "000000000" + number, "+" + number, "-" + number, "-0", "+0", "-1", number + ".", number + ".0", number + "e0", number + ",", "0x" + number,
				"0b1", "0o1", "0_" + number, "1_0", "_" + number, number + "-", number + "+0", "1-1", "x", "one", "N", "\uff11", "\u0661", "\u00b2", number + "\x00", "'" + number + "'", "1000000000", "9999999999", "4294967296",
				"4294967297", "18446744073709551616", "18446744073709551617", "9223372036854775807", "-9223372036854775808", "36893488147419103232" + number, strings.Repeat("9", 400), strings.Repeat("0", 400) + number} {
				changed := slices.Clone(words)
				changed[place] = word
				wantWrong(t, d, strings.Join(changed, " "))
			}
			// These are numbers, but no function that a line calls takes such.
			for _, word := range []string{"999999999", "100000000", "536870912", "2000", "63"} {
				changed := slices.Clone(words)
				changed[place] = word
				wantWrong(t, d, strings.Join(changed, " "))
			}
		}
	}
}

// TestNoughtInLines asks that 0 is a number, wherever functions take it.
func TestNoughtInLines(t *testing.T) {
	for _, s := range []said{{"", "levels 0", "1 3 6"}, {"", "far 0 0", "0"}, {"", "walks 0 0 0", "1"}, {"", "walks 0 0 1", "0"}, {"", "through 1 0", "4"}, {"", "orbit 0", "0 1 2 3 4 5 6 7 8 9"},
		{"graph 2:", "put 1 0", "2:0-1"}, {"graph 2:0-1", "take 1 0", "2:"}} {
		wantSaid(t, s)
	}
}

// TestJumpLines asks for no number, one alone, as many as the graph takes, and one more.
func TestJumpLines(t *testing.T) {
	d := impl.NewDesk()
	wantWrong(t, d, "jump")
	wantWrong(t, d, "jump ")
	for count := range 30 {
		line := "jump 40" + strings.Repeat(" 11", count)
		if count > 20 {
			wantWrong(t, d, line)
			continue
		}
		jumps := slices.Repeat([]int64{11}, count)
		g, code := impl.JumpGraph(40, jumps)
		wantCode(t, "JumpGraph", code, impl.ErrNone)
		_, next := wantSaid(t, said{"", line, textOf(t, g)})
		wantDesk(t, line, next, impl.Desk{Graph: g, Digraph: d.Digraph})
	}
	wantWrong(t, d, "jump 40"+strings.Repeat(" 11", 1000))
	wantWrong(t, d, "jump 40 11 x")
	wantWrong(t, d, "jump 40 11 ")
	wantWrong(t, d, "jump 40  11")
	wantWrong(t, d, "jump x 11")
}
