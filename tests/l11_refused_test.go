package tests

import (
	"fmt"
	"strings"
	"testing"

	"loop.example/g01331/impl"
)

// refusedLines are lines of graphs for which functions return another code than ErrNone, by the lines ahead of them.
func refusedLines() map[string][]string {
	return map[string][]string{
		"": {"graph x", "graph 3", "graph :", "graph 0:", "graph 63:", "graph 03:", "graph 3:1-0", "graph 3:0-3", "graph 3:0-0", "graph 3:0-1,", "graph 3:1-2,0-1", "graph 3:0-1,0-1", "graph 3:0--1", "graph -1:",
			"name k6", "name Petersen", "name x", "name 5", "name petersen,", "name 3:0-1",
			"jump 0", "jump 1", "jump 2", "jump 63", "jump 5 0", "jump 5 5", "jump 5 1 0", "jump 5 1 5", "jump 2 1",
			"put 0 1", "put 1 0", "put 0 0", "put 0 10", "put 10 0", "take 0 2", "take 2 0", "take 0 0", "take 0 10", "take 10 0",
			"plane 0", "plane 1", "plane 4", "plane 6", "plane 7", "plane 11", "polarity 0", "polarity 1", "polarity 4", "polarity 11", "odd 0", "odd 1", "odd 5",
			"tuple 1 2", "tuple 5 2", "tuple 2 4", "tuple 2 7", "tuple 3 5", "tuple 4 3", "tuple 0 0", "ring 2 1", "ring 32 1", "ring 5 0", "ring 5 5", "ring 4 2", "ring 0 0",
			"at 0", "at 62", "half", "folded",
			"levels 10", "far 0 10", "far 10 0", "far 10 10", "through 0 2", "through 0 0", "through 0 10", "through 10 0",
			"orbit 10", "orbit 20"},
		"graph 32:":                       {"double"},
		"graph 62:0-1":                    {"double", "half", "folded", "diameter", "arrays", "antipodal", "far 0 2", "girth", "cycles", "through 0 1", "excess", "defect", "parameters", "levels 62", "orbit 0", "count", "alike", "arcs"},
		"graph 2:":                        {"half", "folded", "diameter", "girth", "cycles", "through 0 1", "excess", "defect", "arrays", "parameters", "antipodal", "far 0 1", "far 1 0"},
		"graph 4:0-1,2-3":                 {"half", "folded", "diameter", "girth", "cycles", "through 0 1", "excess", "defect", "arrays", "antipodal", "far 0 2"},
		"graph 6:0-1,0-2,1-2,3-4,3-5":     {"half", "folded", "excess", "defect", "through 0 3", "parameters"},
		"graph 4:0-1,0-2,1-2,1-3":         {"excess", "defect", "arrays", "parameters", "half"},
		"graph 6:0-1,0-2,1-2,3-4,3-5,4-5": {"defect", "arrays", "diameter", "antipodal"},
		"name k4":                         {"half", "folded", "parameters"},
		"name pappus":                     {"parameters", "put 0 5"},
		"graph 18:":                       {"count"},
		"graph 20:":                       {"count", "girth"},
		"graph 20:0-1":                    {"count", "excess"},
		"graph 1:":                        {"excess", "defect", "girth", "cycles", "through 0 0", "put 0 0", "take 0 0", "parameters", "folded", "levels 1", "orbit 1", "far 0 1"},
	}
}

func TestLinesRefused(t *testing.T) {
	for ahead, lines := range refusedLines() {
		d := deskWith(t, ahead)
		for _, line := range lines {
			wantWrong(t, d, line)
		}
	}
	// This cubic graph has the diameter 39, for which the diameter bound is greater than MaxBound.
	far := deskWith(t, "graph "+textOf(t, chain(longEnd(), 11, shortEnd()).graph()))
	wantWrong(t, far, "defect")
	near := deskWith(t, "graph "+textOf(t, chain(shortEnd(), 11, shortEnd()).graph()))
	if _, output := impl.RunLine(near, "defect"); output != "824633720776" {
		t.Errorf("the defect is %s", output)
	}
}

func TestDigraphLinesRefused(t *testing.T) {
	for ahead, lines := range map[string][]string{
		"": {"bruijn 0 1", "bruijn 63 1", "bruijn 2 0", "bruijn 1 11", "bruijn 2 6", "bruijn 8 2", "bruijn 63 0", "kautz 0 1", "kautz 62 1", "kautz 2 0", "kautz 1 11", "kautz 8 2", "kautz 2 6",
			"walks 0 6 1", "walks 6 0 1", "walks 0 0 9", "walks 6 6 9", "words 0 1", "words 11 1", "words 2 0", "words 2 11", "words 1 11", "words 4 6", "words 10 4"},
		"bruijn 2 5":                  {"line", "walks 0 32 1", "walks 32 0 1"},
		"graph 3:\nboth":              {"line", "reach", "walks 0 3 0"},
		"graph 1:\nboth":              {"line", "walks 1 0 0", "walks 0 1 0"},
		"graph 3:0-1\nboth":           {"reach"},
		"line\nline\nline":            {"line"},
		"name hoffmansingleton\nboth": {"line"},
	} {
		d := deskWith(t, ahead)
		for _, line := range lines {
			wantWrong(t, d, line)
		}
	}
}

// TestTwentyVertices asks of the lines for symmetry, and of all others, with 20 and with 21 vertices.
func TestTwentyVertices(t *testing.T) {
	for _, s := range []said{
		{"name dodecahedron", "orbit 19", strings.Trim(fmt.Sprint(turn(20, 0)), "[]")},
		{"name dodecahedron", "count", "120"},
		{"name dodecahedron", "alike", "yes"},
		{"name dodecahedron", "arcs", "yes"},
		{"name desargues", "count", "240"},
		{"graph 20:", "alike", "yes"},
		{"graph 20:0-1", "orbit 1", "0 1"},
		{"graph 20:0-1", "arcs", "yes"},
		{"jump 20", "count", "40"},
		{"jump 21", "girth", "21"},
		{"jump 21", "levels 0", "1 2 2 2 2 2 2 2 2 2 2"},
		{"jump 21", "defect", "0"},
		{"jump 21", "moore", "yes"},
		{"jump 21\nreset", "count", "120"},
		{"jump 21\nkautz 1 1", "reach", "1"},
	} {
		d, next := wantSaid(t, s)
		wantDesk(t, s.line, next, d)
	}
	for _, ahead := range []string{"jump 21", "graph 21:", "graph 21:0-1", "name mcgee", "name tuttecoxeter", "name hoffmansingleton", "jump 62", "graph 62:", "plane 3"} {
		d := deskWith(t, ahead)
		for _, line := range []string{"orbit 0", "orbit 20", "orbit 21", "count", "alike", "arcs"} {
			wantWrong(t, d, line)
		}
	}
	// The limit is one of the graph alone.
	wantSaid(t, said{"graph 20:\nbruijn 62 1", "orbit 0", strings.Trim(fmt.Sprint(turn(20, 0)), "[]")})
}

// isNoDesk reports whether a desk is the zero value.
func isNoDesk(d impl.Desk) bool {
	return d.Graph.Size == 0 && len(d.Graph.Rows) == 0 && d.Digraph.Size == 0 && len(d.Digraph.Rows) == 0
}

// TestNoDesk asks of graphs that are none, of digraphs that are none, and of both.
func TestNoDesk(t *testing.T) {
	some := impl.NewDesk()
	desks := map[string]impl.Desk{"the zero value": {}}
	for why, g := range notGraphs() {
		desks["its graph alone, "+why] = impl.Desk{Graph: g, Digraph: some.Digraph}
		for other, x := range notDigraphs() {
			desks["both, "+why+", "+other] = impl.Desk{Graph: g, Digraph: x}
		}
	}
	for why, x := range notDigraphs() {
		desks["its digraph alone, "+why] = impl.Desk{Graph: some.Graph, Digraph: x}
	}
	for why, d := range desks {
		if impl.IsDesk(d) {
			t.Errorf("%s: %v is no desk", why, d)
		}
		for _, line := range append(rightLines(), "", " ", "fly", "error", "reset ", "show 1") {
			next, output := impl.RunLine(d, line)
			if !isNoDesk(next) || output != "" {
				t.Errorf("%s: %q has the desk %v, and the output %q", why, line, next, output)
			}
		}
	}
}
