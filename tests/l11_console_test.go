package tests

import (
	"strings"
	"testing"

	"loop.example/g01331/impl"
)

func TestConsoleConstants(t *testing.T) {
	if impl.MaxConsole != 4000 || impl.MaxLines != 40 {
		t.Errorf("MaxConsole is %d, MaxLines %d", impl.MaxConsole, impl.MaxLines)
	}
}

func TestNewDesk(t *testing.T) {
	d := impl.NewDesk()
	kautz, code := impl.KautzDigraph(2, 2)
	wantCode(t, "KautzDigraph", code, impl.ErrNone)
	wantDesk(t, "NewDesk", d, impl.Desk{Graph: named(t, "petersen"), Digraph: kautz})
	if text, arcs := textOf(t, d.Graph), textOfArcs(d.Digraph); text != petersenText || arcs != kautzArcs || d.Digraph.Size != 6 {
		t.Errorf("NewDesk has %s and %s", text, arcs)
	}
}

func TestIsDesk(t *testing.T) {
	graphs, digraphs := []impl.Graph{impl.NewDesk().Graph}, []impl.Digraph{impl.NewDesk().Digraph}
	for x := range largeTables {
		graphs = append(graphs, x.graph())
	}
	met := 0
	for x := range sampleDigraphs {
		if met++; met%100 == 0 || len(x) > 10 {
			digraphs = append(digraphs, x.digraph())
		}
	}
	for _, g := range graphs {
		for _, x := range digraphs {
			if d := (impl.Desk{Graph: g, Digraph: x}); !impl.IsDesk(d) {
				t.Errorf("%v is a desk", d)
			}
		}
	}
	// What is a digraph need not be a graph.
	if d := impl.NewDesk(); impl.IsDesk(impl.Desk{Graph: impl.Graph(d.Digraph), Digraph: d.Digraph}) {
		t.Errorf("%v are no rows of a graph", d.Digraph)
	}
}

// wantConsole asks for the outputs of a text that is within the limits, and returns the desk after it.
func wantConsole(t *testing.T, text string, outputs string) impl.Desk {
	t.Helper()
	if got := impl.Console(text); got != outputs {
		t.Errorf("Console(%q) is %q, want %q", text, got, outputs)
	}
	d, ok := impl.DeskAfter(text)
	if !ok || !impl.IsDesk(d) {
		t.Errorf("DeskAfter(%q) is %v, %v", text, d, ok)
	}
	return d
}

// wantNoConsole asks that a text is refused.
func wantNoConsole(t *testing.T, what string, text string) {
	t.Helper()
	d, ok := impl.DeskAfter(text)
	if outputs := impl.Console(text); outputs != "" || ok || !isNoDesk(d) {
		t.Errorf("%s: %q, %v, %v", what, outputs, d, ok)
	}
}

func TestConsole(t *testing.T) {
	wantDesk(t, "a line", wantConsole(t, "girth", "5\n"), impl.NewDesk())
	wantDesk(t, "a line that ends", wantConsole(t, "girth\n", "5\n"), impl.NewDesk())
	wantDesk(t, "two lines", wantConsole(t, "name cube\ngirth", cubeText+"\n4\n"), deskWith(t, "name cube"))
	wantDesk(t, "two lines that end", wantConsole(t, "name cube\ngirth\n", cubeText+"\n4\n"), deskWith(t, "name cube"))
	wantDesk(t, "both parts", wantConsole(t, "graph 2:0-1\nbruijn 2 1\nshow\nlook\nboth", "2:0-1\n0>0,0>1,1>0,1>1\n2:0-1\n0>0,0>1,1>0,1>1\n0>1,1>0\n"), deskWith(t, "graph 2:0-1\nboth"))
	wantDesk(t, "reset", wantConsole(t, "name cube\nbruijn 2 1\nreset\ngirth\nreach", cubeText+"\n0>0,0>1,1>0,1>1\nok\n5\n2\n"), impl.NewDesk())
	wantDesk(t, "a wrong line alone", wantConsole(t, "fly", "error\n"), impl.NewDesk())
	wantDesk(t, "no words", wantConsole(t, "none", "error\n"), impl.NewDesk())
}

// TestConsoleErrors puts lines with the output error between others.
func TestConsoleErrors(t *testing.T) {
	lines := [][2]string{{"graph 3:0-1", "3:0-1"}, {"put 0 1", "error"}, {"girth", "error"}, {"fly", "error"}, {"put 1 2 ", "error"}, {"put 1 2", "3:0-1,1-2"}, {"take 0 2", "error"}, {"plane 7", "error"},
		{" levels 0", "error"}, {"levels 0", "1 1 1"}, {"line 2", "error"}, {"both", "0>1,1>0,1>2,2>1"}, {"walks 0 3 1", "error"}, {"line", "0>1,0>2,1>0,2>3,3>1,3>2"}, {"words 0 0", "error"}, {"show", "3:0-1,1-2"}}
	text, outputs := "", ""
	for _, line := range lines {
		text += line[0] + "\n"
		outputs += line[1] + "\n"
		wantConsole(t, text, outputs)
		wantConsole(t, strings.TrimSuffix(text, "\n"), outputs)
	}
	wantDesk(t, text, wantConsole(t, text, outputs), deskWith(t, "graph 3:0-1,1-2\nboth\nline"))
}

// TestEmptyLines asks that empty lines have no output, and lines of blanks alone have one.
func TestEmptyLines(t *testing.T) {
	some := impl.NewDesk()
	for text, outputs := range map[string]string{"": "", "\n": "", "\n\n": "", strings.Repeat("\n", 40): "", "\ngirth": "5\n", "\n\ngirth\n\n": "5\n", "girth\n\n\ncycles": "5\n12\n", "girth\n\ncycles\n\n": "5\n12\n",
		" ": "error\n", " \n": "error\n", "\n \n\n": "error\n", "  \n \n": "error\nerror\n", "girth\n \ncycles": "5\nerror\n12\n", "girth\r\n\r\ncycles\r\n": "error\nerror\nerror\n", "\r": "error\n", "\t\n": "error\n", "\x00": "error\n",
		"girth\vcycles": "error\n", "girth\u2028cycles": "error\n", "girth;cycles": "error\n", "girth\rcycles\n": "error\n"} {
		wantDesk(t, text, wantConsole(t, text, outputs), some)
	}
}

// TestMaxConsole asks of texts of just MaxConsole bytes, and of one more.
func TestMaxConsole(t *testing.T) {
	for _, end := range []string{"", "\n", "\n\n", "\ngirth", "\ngirth\n"} {
		for _, fill := range []string{"x", " ", "9", "\u00e9"} {
			start := "name cube\n"
			left := impl.MaxConsole - len(start) - len(end)
			long := start + strings.Repeat(fill, left/len(fill)) + strings.Repeat("z", left%len(fill)) + end
			if len(long) != impl.MaxConsole {
				t.Fatalf("the text has %d bytes", len(long))
			}
			outputs := cubeText + "\nerror\n" + strings.Repeat("4\n", strings.Count(end, "girth"))
			wantDesk(t, "4000 bytes", wantConsole(t, long, outputs), deskWith(t, "name cube"))
			wantNoConsole(t, "4001 bytes", long+"x")
			wantNoConsole(t, "4001 bytes, with a newline", long+"\n")
			wantNoConsole(t, "many bytes", strings.Repeat(long, 100))
		}
	}
	wantConsole(t, strings.Repeat("x", impl.MaxConsole), "error\n")
	wantNoConsole(t, "a line of 4001 bytes", strings.Repeat("x", impl.MaxConsole+1))
	wantNoConsole(t, "4001 newlines", strings.Repeat("\n", impl.MaxConsole+1))
}

// TestMaxLines asks of texts of just MaxLines lines, and of one more.
func TestMaxLines(t *testing.T) {
	lines := strings.Repeat("girth\n", impl.MaxLines)
	wantConsole(t, lines, strings.Repeat("5\n", impl.MaxLines))
	wantConsole(t, strings.TrimSuffix(lines, "\n"), strings.Repeat("5\n", impl.MaxLines))
	wantNoConsole(t, "41 lines", lines+"girth")
	wantNoConsole(t, "41 lines that end", lines+"girth\n")
	wantNoConsole(t, "41 lines, the last one empty", lines+"\n")
	wantNoConsole(t, "41 lines, the first one empty", "\n"+lines)
	wantNoConsole(t, "41 lines, the first one empty, the last one without an end", "\n"+strings.TrimSuffix(lines, "\n"))
	wantNoConsole(t, "41 lines, one in between empty", strings.Replace(lines, "h\n", "h\n\n", 1))
	wantNoConsole(t, "41 lines, the last one a blank", lines+" ")
	wantNoConsole(t, "41 newlines", strings.Repeat("\n", impl.MaxLines+1))
	wantNoConsole(t, "40 newlines and a line", strings.Repeat("\n", impl.MaxLines)+"girth")
	wantConsole(t, strings.Repeat("\n", impl.MaxLines), "")
	wantConsole(t, strings.Repeat("\n", impl.MaxLines-1)+"girth", "5\n")
	wantConsole(t, strings.Repeat("\n", impl.MaxLines-1)+"girth\n", "5\n")
	wantConsole(t, "girth"+strings.Repeat("\n", impl.MaxLines), "5\n")
	wantNoConsole(t, "a line and 40 more", "girth"+strings.Repeat("\n", impl.MaxLines+1))
	wantConsole(t, strings.Repeat("girth\n\n", impl.MaxLines/2), strings.Repeat("5\n", impl.MaxLines/2))
	wantNoConsole(t, "41 lines, each second one empty", strings.Repeat("girth\n\n", impl.MaxLines/2)+"girth")
	wantNoConsole(t, "41 wrong lines", strings.Repeat("x\n", impl.MaxLines+1))
}
