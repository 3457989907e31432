package tests

import (
	"fmt"
	"regexp"
	"strings"
	"testing"

	"loop.example/g01331/impl"
)

// rule is a line of the table in chapter 11: its form, and what is done, which makes a graph, a digraph, or something to be told.
type rule struct {
	form string
	do   func(d impl.Desk, text string, n []int64) (any, int64)
}

// boxed hands on what functions return.
func boxed[T any](x T, code int64) (any, int64) { return x, code }

// ofGraph makes a rule of a function of a graph alone.
func ofGraph[T any](form string, ask func(impl.Graph) (T, int64)) rule {
	return rule{form, func(d impl.Desk, _ string, _ []int64) (any, int64) { return boxed(ask(d.Graph)) }}
}

// ofSmall makes one that asks for the symmetry.
func ofSmall[T any](form string, ask func(impl.Graph) (T, int64)) rule {
	return rule{form, func(d impl.Desk, _ string, _ []int64) (any, int64) {
		if d.Graph.Size > 20 {
			return nil, impl.ErrLimit
		}
		return boxed(ask(d.Graph))
	}}
}

func ofDigraph[T any](form string, ask func(impl.Digraph) (T, int64)) rule {
	return rule{form, func(d impl.Desk, _ string, _ []int64) (any, int64) { return boxed(ask(d.Digraph)) }}
}

// ofTwo makes a rule of a function of a graph and two of its vertices.
func ofTwo[T any](form string, ask func(impl.Graph, int64, int64) (T, int64)) rule {
	return rule{form, func(d impl.Desk, _ string, n []int64) (any, int64) { return boxed(ask(d.Graph, n[0], n[1])) }}
}

func ofNumber[T any](form string, ask func(int64) (T, int64)) rule {
	return rule{form, func(_ impl.Desk, _ string, n []int64) (any, int64) { return boxed(ask(n[0])) }}
}

func ofNumbers[T any](form string, ask func(int64, int64) (T, int64)) rule {
	return rule{form, func(_ impl.Desk, _ string, n []int64) (any, int64) { return boxed(ask(n[0], n[1])) }}
}

func ofText[T any](form string, ask func(string) (T, int64)) rule {
	return rule{form, func(_ impl.Desk, text string, _ []int64) (any, int64) { return boxed(ask(text)) }}
}

// rules are those of the table, one for each command, and shapes are those of their forms.
var (
	rules  = tableOfRules()
	shapes = shapesOf(rules)
)

func tableOfRules() []rule {
	return []rule{
		ofText("graph TEXT", impl.ParseGraph), ofText("name TEXT", impl.NamedGraph),
		{"jump N N..", func(_ impl.Desk, _ string, n []int64) (any, int64) { return boxed(impl.JumpGraph(n[0], n[1:])) }},
		ofTwo("put A B", impl.PutEdge), ofTwo("take A B", impl.TakeEdge), ofGraph("complement", impl.ComplementOf),
		ofNumber("plane Q", impl.PlaneGraph), ofNumber("polarity Q", impl.PolarityGraph), ofNumber("odd K", impl.OddGraph),
		ofNumbers("tuple K Q", impl.TupleGraph), ofNumbers("ring N K", impl.RingGraph), ofGraph("double", impl.DoubleGraph),
		{"at I", func(d impl.Desk, _ string, n []int64) (any, int64) { return boxed(impl.GraphAt(d.Graph, n[0])) }},
		ofGraph("half", impl.HalfOf), ofGraph("folded", impl.FoldedGraph),
		ofNumbers("bruijn D K", impl.DeBruijnDigraph), ofNumbers("kautz D K", impl.KautzDigraph),
		ofDigraph("line", impl.LineDigraph), ofDigraph("reverse", impl.ReverseDigraph), ofGraph("both", impl.DigraphOf),
		{"show", func(d impl.Desk, _ string, _ []int64) (any, int64) { return d.Graph, impl.ErrNone }},
		{"look", func(d impl.Desk, _ string, _ []int64) (any, int64) { return d.Digraph, impl.ErrNone }},
		ofGraph("degrees", impl.DegreesOf),
		{"levels V", func(d impl.Desk, _ string, n []int64) (any, int64) { return boxed(impl.LevelsFrom(d.Graph, n[0])) }},
		ofTwo("far A B", impl.DistanceOf),
		{"diameter", func(d impl.Desk, _ string, _ []int64) (any, int64) {
			diameter, radius, code := impl.DiameterOf(d.Graph)
			return []int64{diameter, radius}, code
		}},
		ofGraph("girth", impl.GirthOf), ofGraph("cycles", impl.CountShortest), ofTwo("through A B", impl.ShortestThrough),
		ofGraph("excess", impl.ExcessOf), ofGraph("defect", impl.DefectOf), ofGraph("moore", impl.IsMooreGraph),
		{"arrays", func(d impl.Desk, _ string, _ []int64) (any, int64) {
			b, c, code := impl.ArraysOf(d.Graph)
			return [][]int64{b, c}, code
		}},
		ofGraph("parameters", impl.ParametersOf), ofGraph("antipodal", impl.IsAntipodal), ofDigraph("reach", impl.DiameterOfDigraph),
		{"walks A B K", func(d impl.Desk, _ string, n []int64) (any, int64) {
			return boxed(impl.CountWalks(d.Digraph, n[0], n[1], n[2]))
		}},
		ofNumbers("words D K", impl.WordSequence),
		{"orbit V", func(d impl.Desk, _ string, n []int64) (any, int64) {
			return ofSmall("", func(g impl.Graph) ([]int64, int64) { return impl.OrbitOf(g, n[0]) }).do(d, "", n)
		}},
		ofSmall("count", impl.CountAutomorphisms), ofSmall("alike", impl.LooksAlike), ofSmall("arcs", impl.LooksAlikeByArcs),
		{"reset", func(impl.Desk, string, []int64) (any, int64) { return impl.NewDesk(), impl.ErrNone }},
	}
}

func shapesOf(some []rule) []*regexp.Regexp {
	var list []*regexp.Regexp
	for _, r := range some {
		list = append(list, shapeOf(r.form))
	}
	return list
}

// shapeOf makes a regular expression of a form.
func shapeOf(form string) *regexp.Regexp {
	number := `(?:0|[1-9][0-9]{0,8})`
	pattern := ""
	for i, word := range strings.Split(form, " ") {
		switch {
		case i == 0:
			pattern = word
		case word == "TEXT":
			pattern += ` [^ ]*`
		case strings.HasSuffix(word, ".."):
			pattern += `(?: ` + number + `)*`
		default:
			pattern += ` ` + number
		}
	}
	return regexp.MustCompile(`\A` + pattern + `\z`)
}

// told puts something out as the chapter says.
func told(x any) string {
	switch x := x.(type) {
	case impl.Graph:
		var edges []string
		for _, e := range tableOf(x).edges() {
			edges = append(edges, fmt.Sprintf("%d-%d", e[0], e[1]))
		}
		return fmt.Sprintf("%d:", x.Size) + strings.Join(edges, ",")
	case impl.Digraph:
		return textOfArcs(x)
	case impl.Desk:
		return "ok"
	case bool:
		return map[bool]string{true: "yes", false: "no"}[x]
	case [][]int64:
		return told(x[0]) + ";" + told(x[1])
	case []int64:
		if len(x) == 0 {
			return "none"
		}
		return strings.Trim(fmt.Sprint(x), "[]")
	}
	return fmt.Sprint(x)
}

// ruled is what a line does by the rules, and the form of its rule, if it has one.
func ruled(d impl.Desk, line string) (impl.Desk, string, string) {
	for i, r := range rules {
		if !shapes[i].MatchString(line) {
			continue
		}
		words := strings.Split(line, " ")[1:]
		numbers := make([]int64, len(words))
		for i, word := range words {
			fmt.Sscan(word, &numbers[i])
		}
		x, code := r.do(d, strings.Join(words, " "), numbers)
		if code != impl.ErrNone {
			return d, "error", r.form
		}
		switch x := x.(type) {
		case impl.Graph:
			d.Graph = x
		case impl.Digraph:
			d.Digraph = x
		case impl.Desk:
			d = x
		}
		return d, told(x), r.form
	}
	return d, "error", ""
}

// scatter is a source of numbers that are the same in each run.
type scatter uint32

func (s *scatter) below(n int) int {
	*s = *s*1664525 + 1013904223
	return int(*s>>8) % n
}

// text is one for graph, or for name, which need not be right.
func (s *scatter) text() string {
	switch s.below(4) {
	case 0:
		return names()[s.below(len(names()))]
	case 1:
		return []string{"1:", "2:0-1", "3:0-1,1-2", "8:", "21:0-20", "4:0-1,0-3,1-2,2-3"}[s.below(6)]
	case 2:
		return told(scatteredTable(int64(5+s.below(20)), s.below(10), uint32(*s)).graph())
	}
	return []string{"", "3:1-0", "x", "k6", "63:", "5"}[s.below(6)]
}

// number is mostly a small one.
func (s *scatter) number() string {
	switch s.below(12) {
	case 0:
		return fmt.Sprint(s.below(63))
	case 1:
		return []string{"00", "-1", "999999999", "1000000000", "", "x", "+2", "07"}[s.below(8)]
	}
	return fmt.Sprint(s.below(6))
}

// line is one for some command, which need not be right.
func (s *scatter) line() string {
	words := strings.Split(rules[s.below(len(rules))].form, " ")
	if words[0] == "reset" && s.below(3) > 0 {
		return "show"
	}
	for i := 1; i < len(words); i++ {
		if words[i] == "TEXT" {
			words[i] = s.text()
		} else {
			words[i] = s.number()
		}
	}
	if words[0] == "jump" && s.below(2) == 0 {
		words = append([]string{"jump", fmt.Sprint(6 + s.below(30))}, words[2:]...)
	}
	switch line := strings.Join(words, " "); s.below(60) {
	case 0:
		return line + " "
	case 1:
		return " " + line
	case 2:
		return line + " " + s.number()
	case 3:
		return strings.ToUpper(line)
	case 4:
		return strings.Join(words[:len(words)-1], " ")
	default:
		return line
	}
}

// wantRuled holds what a line does against the rules, and returns the desk behind it, the output, and the form of its rule.
func wantRuled(t *testing.T, d impl.Desk, line string) (impl.Desk, string, string) {
	t.Helper()
	after, output, form := ruled(d, line)
	next, got := impl.RunLine(d, line)
	if got != output {
		t.Errorf("%q on %v has the output %q, want %q", line, d, got, output)
	}
	wantDesk(t, line, next, after)
	if !impl.IsDesk(next) {
		t.Errorf("%q leads from %v to %v", line, d, next)
	}
	if got == "" || strings.Contains(got, "\n") {
		t.Errorf("%q on %v has the output %q", line, d, got)
	}
	return next, got, form
}

// TestPromise11Sessions asks of lines one behind the other that each leads from a desk to a desk as the rules say, and that the console joins their outputs.
func TestPromise11Sessions(t *testing.T) {
	right, wrong := map[string]int{}, map[string]int{}
	for seed := range 400 {
		s := scatter(seed)
		d := impl.NewDesk()
		text, outputs := "", ""
		for range impl.MaxLines {
			line := s.line()
			next, output, form := wantRuled(t, d, line)
			if output == "error" {
				wrong[form]++
				wantDesk(t, "a wrong line", next, d)
			} else {
				right[form]++
			}
			d = next
			text += line + "\n"
			if line != "" {
				outputs += output + "\n"
			}
		}
		if len(text) > impl.MaxConsole {
			wantNoConsole(t, text, text)
			continue
		}
		wantDesk(t, text, wantConsole(t, text, outputs), d)
		wantDesk(t, text, wantConsole(t, strings.TrimSuffix(text, "\n"), outputs), d)
	}
	for _, r := range rules {
		if right[r.form] < 20 {
			t.Errorf("the line %s was right %d times", r.form, right[r.form])
		}
	}
	if wrong[""] < 500 || len(wrong) < 25 {
		t.Errorf("wrong lines: %v", wrong)
	}
}

// TestPromise11Desks asks of all kinds of desks that lines lead from them as the rules say.
func TestPromise11Desks(t *testing.T) {
	s := scatter(7)
	var digraphs []impl.Digraph
	for x := range sampleDigraphs {
		if s.below(40) == 0 || len(x) > 10 {
			digraphs = append(digraphs, x.digraph())
		}
	}
	right := map[string]int{}
	i := 0
	for x := range sampleTables {
		i++
		d := impl.Desk{Graph: x.graph(), Digraph: digraphs[i%len(digraphs)]}
		lines := []string{s.line(), s.line(), s.line()}
		if i%40 == 0 || len(x) > 10 {
			lines = append(rightLines(), lines...)
		}
		for _, line := range lines {
			if _, output, form := wantRuled(t, d, line); output != "error" {
				right[form]++
			}
		}
	}
	for _, r := range rules {
		if right[r.form] < 3 {
			t.Errorf("the line %s was right %d times", r.form, right[r.form])
		}
	}
}

// TestPromise11Joined asks that the outputs of two texts joined begin with those of the first one, and that those of the second one alone follow if the desk becomes new in between.
func TestPromise11Joined(t *testing.T) {
	for seed := range 200 {
		s := scatter(seed + 1000)
		first, second := "", ""
		for range 10 {
			first, second = first+s.line()+"\n", second+s.line()+"\n"
		}
		d := wantConsole(t, first, impl.Console(first))
		both := impl.Console(first + second)
		if !strings.HasPrefix(both, impl.Console(first)) {
			t.Errorf("the outputs of %q do not begin with those of %q", first+second, first)
		}
		wantConsole(t, first+"reset\n"+second, impl.Console(first)+"ok\n"+impl.Console(second))
		wantConsole(t, first+"\n\nreset\n\n"+second, impl.Console(first)+"ok\n"+impl.Console(second))
		again, outputs := d, ""
		for _, line := range strings.Split(strings.TrimSuffix(second, "\n"), "\n") {
			next, output := impl.RunLine(again, line)
			again = next
			if line != "" {
				outputs += output + "\n"
			}
		}
		wantDesk(t, second, wantConsole(t, first+second, impl.Console(first)+outputs), again)
	}
}

// TestPromise11Telling asks that lines that make a graph or a digraph put out what show and look put out behind them.
func TestPromise11Telling(t *testing.T) {
	met := 0
	for seed := range 200 {
		s := scatter(seed + 5000)
		d := impl.NewDesk()
		for range 20 {
			line := s.line()
			next, output, form := wantRuled(t, d, line)
			_, graph := impl.RunLine(next, "show")
			_, digraph := impl.RunLine(next, "look")
			if !sameGraph(d.Graph, next.Graph) && form != "reset" && output != graph || !sameGraph(impl.Graph(d.Digraph), impl.Graph(next.Digraph)) && form != "reset" && output != digraph {
				t.Errorf("%q has the output %q, behind it the desk shows %q and %q", line, output, graph, digraph)
			}
			if !sameDesk(d, next) {
				met++
				back := deskWith(t, "graph "+graph)
				wantDesk(t, "graph with the text", back, impl.Desk{Graph: next.Graph, Digraph: impl.NewDesk().Digraph})
			}
			d = next
		}
	}
	if met < 500 {
		t.Errorf("%d lines alone change the desk", met)
	}
}

// TestAnswersOwnTheirMemory11 writes over the answers of chapter 11, asks again, and looks at the desk that was given, and what lies behind it.
func TestAnswersOwnTheirMemory11(t *testing.T) {
	for range 2 {
		d := impl.NewDesk()
		wantDesk(t, "NewDesk", d, impl.Desk{Graph: named(t, "petersen"), Digraph: deskWith(t, "kautz 2 2").Digraph})
		spoil(d.Graph.Rows)
		spoil(d.Digraph.Rows)
		after, _ := impl.DeskAfter("name k4\nboth")
		spoil(after.Graph.Rows)
		if text := textOfArcs(after.Digraph); text != "0>1,0>2,0>3,1>0,1>2,1>3,2>0,2>1,2>3,3>0,3>1,3>2" {
			t.Errorf("the digraph has the arcs %s behind a graph that is written over", text)
		}
		spoil(after.Digraph.Rows)
	}
	kept := deskWith(t, "name k33")
	d := impl.Desk{Graph: impl.Graph{Size: 6, Rows: guarded(kept.Graph.Rows)}, Digraph: impl.Digraph{Size: 6, Rows: guarded(kept.Digraph.Rows)}}
	for _, line := range append(rightLines(), "", "fly", "show ", "plane 7", "put 0 0", "bruijn 2 6", "reset x") {
		want, output, _ := ruled(kept, line)
		for range 2 {
			next, got := impl.RunLine(d, line)
			wantDesk(t, line, next, want)
			if got != output {
				t.Errorf("%q has the output %q, want %q", line, got, output)
			}
			spoil(next.Graph.Rows)
			if x := impl.Graph(next.Digraph); !sameGraph(x, impl.Graph(want.Digraph)) {
				t.Errorf("%q: the digraph is %v behind a graph that is written over", line, x)
			}
			spoil(next.Digraph.Rows)
			impl.IsDesk(d)
			wantGuarded(t, line+", the graph", d.Graph.Rows, kept.Graph.Rows)
			wantGuarded(t, line+", the digraph", d.Digraph.Rows, kept.Digraph.Rows)
		}
	}
}
