package tests

import (
	"fmt"
	"slices"
	"strings"
	"testing"

	"loop.example/g01331/impl"
)

const (
	petersenText = "10:0-1,0-4,0-5,1-2,1-6,2-3,2-7,3-4,3-8,4-9,5-7,5-8,6-8,6-9,7-9"
	kautzArcs    = "0>2,0>3,1>4,1>5,2>0,2>1,3>4,3>5,4>0,4>1,5>2,5>3"
	cubeText     = "8:0-1,0-2,0-4,1-3,1-5,2-3,2-6,3-7,4-5,4-6,5-7,6-7"
	k4Text       = "4:0-1,0-2,0-3,1-2,1-3,2-3"
)

// said is a line with the output that it must have on the desk behind the lines ahead of it.
type said struct {
	ahead  string
	line   string
	output string
}

func sameGraph(g impl.Graph, h impl.Graph) bool {
	return g.Size == h.Size && slices.Equal(g.Rows, h.Rows)
}

func sameDesk(d impl.Desk, e impl.Desk) bool {
	return sameGraph(d.Graph, e.Graph) && sameGraph(impl.Graph(d.Digraph), impl.Graph(e.Digraph))
}

func wantDesk(t *testing.T, what string, got impl.Desk, want impl.Desk) {
	t.Helper()
	if !sameDesk(got, want) {
		t.Errorf("%s: the desk is %v, want %v", what, got, want)
	}
}

// deskWith is the new desk with what lines lead to, none of which may be wrong.
func deskWith(t *testing.T, lines string) impl.Desk {
	t.Helper()
	d := impl.NewDesk()
	if lines == "" {
		return d
	}
	for _, line := range strings.Split(lines, "\n") {
		next, output := impl.RunLine(d, line)
		if output == "error" || !impl.IsDesk(next) {
			t.Errorf("%q among %q has the output %q, and the desk %v", line, lines, output, next)
		}
		d = next
	}
	return d
}

// wantSaid asks for the output of a line, and returns the desks ahead of it and behind it.
func wantSaid(t *testing.T, s said) (impl.Desk, impl.Desk) {
	t.Helper()
	d := deskWith(t, s.ahead)
	next, output := impl.RunLine(d, s.line)
	if output != s.output {
		t.Errorf("%q behind %q: the output is %q, want %q", s.line, s.ahead, output, s.output)
	}
	return d, next
}

// wantWrong asks that a line has the output error, and changes nothing.
func wantWrong(t *testing.T, d impl.Desk, line string) {
	t.Helper()
	next, output := impl.RunLine(d, line)
	if output != "error" {
		t.Errorf("%q on %v has the output %q", line, d, output)
	}
	wantDesk(t, line, next, d)
}

// textOfArcs returns the arcs as the document tells them.
func textOfArcs(x impl.Digraph) string {
	var texts []string
	for _, arc := range digraphTable(x).arcs() {
		texts = append(texts, fmt.Sprintf("%d>%d", arc[0], arc[1]))
	}
	if len(texts) == 0 {
		return "none"
	}
	return strings.Join(texts, ",")
}

// graphLines put graphs onto the desk.
func graphLines() []said {
	return []said{
		{"", "graph 3:0-1", "3:0-1"},
		{"", "graph 1:", "1:"},
		{"", "graph 62:0-61,60-61", "62:0-61,60-61"},
		{"name cube", "graph " + petersenText, petersenText},
		{"", "name k4", k4Text},
		{"", "name cube", cubeText},
		{"name k4", "name petersen", petersenText},
		{"", "jump 3", "3:0-1,0-2,1-2"},
		{"", "jump 5", "5:0-1,0-4,1-2,2-3,3-4"},
		{"", "jump 6 3", "6:0-1,0-3,0-5,1-2,1-4,2-3,2-5,3-4,4-5"},
		{"", "jump 6 2 4", "6:0-1,0-2,0-4,0-5,1-2,1-3,1-5,2-3,2-4,3-4,3-5,4-5"},
		{"", "jump 8 1 3 1 1 1 1 1 1", "8:0-1,0-7,1-2,1-4,2-3,3-4,4-5,5-6,6-7"},
		{"", "jump 4 2 1 1 1 1 1 1 1 1 1 1 1 1 1 1 1 1 1 1 1", "4:0-1,0-2,0-3,1-2,2-3"},
		{"graph 3:0-1", "put 1 2", "3:0-1,1-2"},
		{"graph 3:0-1", "put 2 0", "3:0-1,0-2"},
		{"graph 3:0-1,1-2", "take 0 1", "3:1-2"},
		{"graph 3:0-1,1-2", "take 2 1", "3:0-1"},
		{"graph 3:0-1", "complement", "3:0-2,1-2"},
		{"name k4", "complement", "4:"},
		{"", "plane 2", "14:0-8,0-10,0-12,1-7,1-10,1-11,2-9,2-10,2-13,3-7,3-8,3-9,4-8,4-11,4-13,5-7,5-12,5-13,6-9,6-11,6-12"},
		{"", "polarity 2", "7:0-1,0-3,0-5,1-3,1-4,2-3,2-6,4-6,5-6"},
		{"", "odd 2", "3:0-1,0-2,1-2"},
		{"", "odd 3", "10:0-7,0-8,0-9,1-5,1-6,1-9,2-4,2-6,2-8,3-4,3-5,3-7,4-9,5-8,6-7"},
		{"", "tuple 2 2", "8:0-4,0-6,1-5,1-7,2-4,2-7,3-5,3-6"},
		{"", "ring 4 1", "8:0-1,0-3,0-4,1-2,1-5,2-3,2-6,3-7,4-5,4-7,5-6,6-7"},
		{"graph 1:", "ring 5 2", petersenText},
		{"graph 3:0-1", "double", "6:0-4,1-3"},
		{"graph 3:0-1,1-2", "at 2", "3:0-2"},
		{"graph 3:0-1,1-2", "at 61", "3:"},
		{"name cube", "half", k4Text},
		{"graph 1:", "half", "1:"},
		{"name cube", "folded", k4Text},
		{"jump 6", "folded", "3:0-1,0-2,1-2"},
	}
}

// digraphLines put digraphs onto the desk.
func digraphLines() []said {
	return []said{
		{"", "bruijn 2 1", "0>0,0>1,1>0,1>1"},
		{"", "bruijn 2 2", "0>0,0>1,1>2,1>3,2>0,2>1,3>2,3>3"},
		{"", "bruijn 1 10", "0>0"},
		{"bruijn 1 1", "kautz 2 2", kautzArcs},
		{"", "kautz 1 3", "0>1,1>0"},
		{"", "kautz 2 1", "0>1,0>2,1>0,1>2,2>0,2>1"},
		{"bruijn 2 1", "line", "0>0,0>1,1>2,1>3,2>0,2>1,3>2,3>3"},
		{"kautz 1 1", "line", "0>1,1>0"},
		{"", "reverse", "0>2,0>4,1>2,1>4,2>0,2>5,3>0,3>5,4>1,4>3,5>1,5>3"},
		{"graph 2:\nboth", "reverse", "none"},
		{"graph 3:0-1,1-2", "both", "0>1,1>0,1>2,2>1"},
		{"graph 2:", "both", "none"},
		{"graph 1:", "both", "none"},
	}
}

// tellingLines change nothing.
func tellingLines() []said {
	return []said{
		{"", "show", petersenText},
		{"graph 1:", "show", "1:"},
		{"", "look", kautzArcs},
		{"graph 1:\nboth", "look", "none"},
		{"", "degrees", "3 3 3 3 3 3 3 3 3 3"},
		{"graph 3:0-1", "degrees", "1 1 0"},
		{"", "levels 0", "1 3 6"},
		{"graph 3:0-1,1-2", "levels 1", "1 2"},
		{"graph 3:0-1", "levels 2", "1"},
		{"", "far 0 7", "2"},
		{"", "far 9 9", "0"},
		{"jump 62", "far 61 30", "31"},
		{"", "diameter", "2 2"},
		{"graph 3:0-1,1-2", "diameter", "2 1"},
		{"graph 1:", "diameter", "0 0"},
		{"", "girth", "5"},
		{"jump 62", "girth", "62"},
		{"", "cycles", "12"},
		{"name k4", "cycles", "4"},
		{"", "through 0 1", "4"},
		{"graph 5:0-1,0-2,1-2,2-3,2-4,3-4", "through 3 2", "1"},
		{"graph 4:0-1,0-2,0-3,1-2", "through 0 3", "0"},
		{"", "excess", "0"},
		{"name cube", "excess", "2"},
		{"graph 6:0-1,0-2,1-2,3-4,3-5,4-5", "excess", "3"},
		{"", "defect", "0"},
		{"name cube", "defect", "14"},
		{"", "moore", "yes"},
		{"name cube", "moore", "no"},
		{"graph 3:0-1", "moore", "no"},
		{"", "arrays", "3 2;1 1"},
		{"name cube", "arrays", "3 2 1;1 2 3"},
		{"graph 1:", "arrays", "none;none"},
		{"", "parameters", "10 3 0 1"},
		{"jump 5", "parameters", "5 2 0 1"},
		{"", "antipodal", "no"},
		{"name cube", "antipodal", "yes"},
		{"graph 1:", "antipodal", "no"},
		{"", "reach", "2"},
		{"bruijn 2 5", "reach", "5"},
		{"bruijn 1 1", "reach", "0"},
		{"", "walks 0 3 1", "1"},
		{"", "walks 3 0 1", "0"},
		{"", "walks 0 1 3", "1"},
		{"", "walks 5 5 0", "1"},
		{"bruijn 2 1", "walks 0 1 8", "128"},
		{"", "words 2 3", "0 0 0 1 0 1 1 1"},
		{"", "words 3 2", "0 0 1 0 2 1 1 2 2"},
		{"", "words 1 10", "0"},
		{"graph 3:0-1,1-2", "orbit 2", "0 2"},
		{"graph 3:0-1,1-2", "orbit 1", "1"},
		{"", "count", "120"},
		{"graph 3:0-1", "count", "2"},
		{"graph 17:", "count", "355687428096000"},
		{"", "alike", "yes"},
		{"graph 3:0-1", "alike", "no"},
		{"", "arcs", "yes"},
		{"ring 3 1", "arcs", "no"},
		{"graph 3:", "arcs", "no"},
	}
}

func TestLinesOfGraphs(t *testing.T) {
	for _, s := range graphLines() {
		d, next := wantSaid(t, s)
		if text := textOf(t, next.Graph); text != s.output {
			t.Errorf("%q behind %q: the graph is %s, want %s", s.line, s.ahead, text, s.output)
		}
		wantDesk(t, s.line, next, impl.Desk{Graph: next.Graph, Digraph: d.Digraph})
	}
}

func TestLinesOfDigraphs(t *testing.T) {
	for _, s := range digraphLines() {
		d, next := wantSaid(t, s)
		if text := textOfArcs(next.Digraph); text != s.output {
			t.Errorf("%q behind %q: the arcs are %s, want %s", s.line, s.ahead, text, s.output)
		}
		wantDesk(t, s.line, next, impl.Desk{Graph: d.Graph, Digraph: next.Digraph})
	}
}

func TestLinesThatTell(t *testing.T) {
	for _, s := range tellingLines() {
		d, next := wantSaid(t, s)
		wantDesk(t, s.line, next, d)
	}
}

// TestLineSizes asks for the sizes of digraphs, which their arcs do not tell.
func TestLineSizes(t *testing.T) {
	for lines, size := range map[string]int64{"bruijn 2 5": 32, "bruijn 62 1": 62, "kautz 61 1": 62, "kautz 2 5": 48, "line": 12, "line\nline": 24, "reverse": 6,
		"graph 7:\nboth": 7, "graph 62:0-1\nboth\nreverse": 62, "graph 62:0-1\nboth\nline": 2} {
		if x := deskWith(t, lines).Digraph; x.Size != size {
			t.Errorf("behind %q the digraph has %d vertices, want %d", lines, x.Size, size)
		}
	}
	for lines, size := range map[string]int64{"plane 5": 62, "polarity 7": 57, "odd 4": 35, "tuple 3 2": 16, "tuple 2 3": 18, "tuple 3 3": 54, "ring 31 15": 62,
		"name hoffmansingleton": 50, "graph 31:\ndouble": 62, "jump 62 31": 62, "name tuttecoxeter\nhalf": 15, "name dodecahedron\nfolded": 10, "at 2": 10} {
		if g := deskWith(t, lines).Graph; g.Size != size {
			t.Errorf("behind %q the graph has %d vertices, want %d", lines, g.Size, size)
		}
	}
}

func TestResetLine(t *testing.T) {
	for _, ahead := range []string{"", "name cube", "bruijn 2 1", "jump 5\nboth\nput 0 2", "reset"} {
		_, next := wantSaid(t, said{ahead, "reset", "ok"})
		wantDesk(t, "reset behind "+ahead, next, impl.NewDesk())
	}
}

// TestLinesOfOneGraph asks that names, numbers and texts put the same graph onto the desk.
func TestLinesOfOneGraph(t *testing.T) {
	for _, name := range names() {
		d := deskWith(t, "name "+name)
		wantDesk(t, name, d, impl.Desk{Graph: named(t, name), Digraph: impl.NewDesk().Digraph})
		wantDesk(t, name+" by its text", deskWith(t, "graph "+textOf(t, d.Graph)), d)
	}
	for one, other := range map[string]string{"jump 14 5 9": "name heawood", "jump 18 5 7 11 7 11 13": "name pappus", "jump 24 12 7 17": "name mcgee", "ring 5 2": "name petersen"} {
		wantDesk(t, one, deskWith(t, one), deskWith(t, other))
	}
}
