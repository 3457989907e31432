package tests

import (
	"math"
	"slices"
	"testing"

	"loop.example/g01331/impl"
)

// A table may also tell of a digraph: then its places need not be the same both ways, and a vertex may be joined with itself.

func (t table) digraph() impl.Digraph { return impl.Digraph(t.graph()) }

func digraphTable(x impl.Digraph) table { return tableOf(impl.Graph(x)) }

// point puts an arc in.
func (t table) point(v int64, w int64) { t[v][w] = true }

// without returns the table without an arc.
func (t table) without(v int64, w int64) table {
	less := digraphTable(t.digraph())
	less[v][w] = false
	return less
}

// with returns the table with an arc more.
func (t table) with(v int64, w int64) table {
	more := digraphTable(t.digraph())
	more[v][w] = true
	return more
}

// arcs returns the arcs of the table in order.
func (t table) arcs() [][]int64 {
	var list [][]int64
	for v := range t {
		for w := range t {
			if t[v][w] {
				list = append(list, []int64{int64(v), int64(w)})
			}
		}
	}
	return list
}

// reversed has the rows of the table as columns.
func (t table) reversed() table {
	turned := newTable(int64(len(t)))
	for v := range t {
		for w := range t {
			turned[w][v] = t[v][w]
		}
	}
	return turned
}

// pointed has an arc from v to w if led says so.
func pointed(n int64, led func(v int64, w int64) bool) table {
	x := newTable(n)
	for v := range n {
		for w := range n {
			x[v][w] = led(v, w)
		}
	}
	return x
}

// circle leads around through n vertices, by a number each time.
func circle(n int64, by int64) table {
	return pointed(n, func(v int64, w int64) bool { return w == (v+by)%n })
}

// everyArc has all arcs, from each vertex to itself, too.
func everyArc(n int64) table {
	return pointed(n, func(int64, int64) bool { return true })
}

// smallDigraphs yields all digraphs of at most three vertices, and some of those of four.
func smallDigraphs(yield func(table) bool) {
	for n := int64(1); n <= 4; n++ {
		step := 1
		if n == 4 {
			step = 13
		}
		for choice := 0; choice < 1<<(n*n); choice += step {
			left := choice
			x := newTable(n)
			for v := range n {
				for w := range n {
					x[v][w] = left%2 == 1
					left /= 2
				}
			}
			if !yield(x) {
				return
			}
		}
	}
}

// largeDigraphs yields digraphs of 5 to 62 vertices: without arcs, with all, circles and what is almost one, and scattered ones.
func largeDigraphs(yield func(table) bool) {
	state := uint32(7)
	for _, n := range []int64{5, 6, 7, 8, 11, 16, 23, 31, 32, 33, 40, 61, 62} {
		around := circle(n, 1)
		list := []table{newTable(n), everyArc(n), around, circle(n, n-2), around.without(n-1, 0), around.with(1, 0), everyArc(n).without(n-1, n-2), path(n, 1), ring(n), star(n)}
		for _, share := range []uint32{3, 10, 30, 80} {
			list = append(list, pointed(n, func(int64, int64) bool {
				state = state*1664525 + 1013904223
				return state>>8%100 < share
			}))
		}
		for _, x := range list {
			if !yield(x) {
				return
			}
		}
	}
}

// sampleDigraphs yields the small and the large ones, and those of the named graphs.
func sampleDigraphs(yield func(table) bool) {
	for x := range smallDigraphs {
		if !yield(x) {
			return
		}
	}
	for x := range largeDigraphs {
		if !yield(x) {
			return
		}
	}
	for _, name := range names() {
		g, _ := impl.NamedGraph(name)
		if !yield(tableOf(g)) {
			return
		}
	}
}

// notDigraphs are values each of which breaks one rule of a digraph.
func notDigraphs() map[string]impl.Digraph {
	many := make([]int64, impl.MaxVertices+1)
	top, below, last := make([]int64, impl.MaxVertices), make([]int64, impl.MaxVertices), make([]int64, impl.MaxVertices)
	top[0], below[0], last[impl.MaxVertices-1] = 1<<impl.MaxVertices, math.MinInt64, -1
	return map[string]impl.Digraph{
		"the zero value":         {},
		"no size, one row":       {Size: 0, Rows: []int64{0}},
		"a negative size":        {Size: -1},
		"63 vertices":            {Size: impl.MaxVertices + 1, Rows: many},
		"62 and 63 rows":         {Size: impl.MaxVertices, Rows: many},
		"62 and 61 rows":         {Size: impl.MaxVertices, Rows: many[:impl.MaxVertices-1]},
		"64 vertices":            {Size: 64, Rows: append(many, 0)},
		"the greatest size":      {Size: math.MaxInt64},
		"the least size":         {Size: math.MinInt64},
		"no rows":                {Size: 1},
		"a row too few":          {Size: 3, Rows: []int64{2, 4}},
		"a row too many":         {Size: 2, Rows: []int64{2, 1, 0}},
		"2^32 + 1 and one row":   {Size: 1<<32 + 1, Rows: []int64{0}},
		"a negative row":         {Size: 2, Rows: []int64{-2, 1}},
		"a last negative row":    {Size: 2, Rows: []int64{2, -1}},
		"a row of 2^n":           {Size: 2, Rows: []int64{4, 0}},
		"a last row of 2^n":      {Size: 3, Rows: []int64{7, 7, 8}},
		"2^n with an arc":        {Size: 2, Rows: []int64{6, 1}},
		"one vertex, 2":          {Size: 1, Rows: []int64{2}},
		"one vertex, -1":         {Size: 1, Rows: []int64{-1}},
		"2^62 with 62 vertices":  {Size: impl.MaxVertices, Rows: top},
		"-2^63 with 62 vertices": {Size: impl.MaxVertices, Rows: below},
		"-1 with 62 vertices":    {Size: impl.MaxVertices, Rows: last},
	}
}

// wantDigraph holds a digraph that came with a code against the one that must have come.
func wantDigraph(t *testing.T, what string, got impl.Digraph, code int64, want impl.Digraph) {
	t.Helper()
	wantGraph(t, what, impl.Graph(got), code, impl.Graph(want))
}

func TestIsDigraph(t *testing.T) {
	for x := range sampleDigraphs {
		if !impl.IsDigraph(x.digraph()) {
			t.Errorf("%v is a digraph", x.digraph())
		}
	}
	for why, x := range notDigraphs() {
		if impl.IsDigraph(x) {
			t.Errorf("%s: %v is no digraph", why, x)
		}
	}
	for n := int64(1); n <= impl.MaxVertices; n++ {
		if !impl.IsDigraph(newTable(n).digraph()) || !impl.IsDigraph(everyArc(n).digraph()) {
			t.Errorf("there are digraphs of %d vertices", n)
		}
		if x := newTable(n).digraph(); impl.IsDigraph(impl.Digraph{Size: n - 1, Rows: x.Rows}) || impl.IsDigraph(impl.Digraph{Size: n + 1, Rows: x.Rows}) {
			t.Errorf("%d rows are those of %d vertices alone", n, n)
		}
	}
}

// TestIsDigraphRows tries all rows near the limits for one, two and three vertices.
func TestIsDigraphRows(t *testing.T) {
	for a := int64(-2); a <= 9; a++ {
		for b := int64(-2); b <= 9; b++ {
			one := impl.IsDigraph(impl.Digraph{Size: 1, Rows: []int64{a}})
			two := impl.IsDigraph(impl.Digraph{Size: 2, Rows: []int64{a, b}})
			three := impl.IsDigraph(impl.Digraph{Size: 3, Rows: []int64{0, a, b}})
			if one != (a == 0 || a == 1) || two != (min(a, b) >= 0 && max(a, b) < 4) || three != (min(a, b) >= 0 && max(a, b) < 8) {
				t.Errorf("with rows %d and %d: %v, %v, %v", a, b, one, two, three)
			}
		}
	}
}

func TestArcsOf(t *testing.T) {
	for x := range sampleDigraphs {
		arcs, code := impl.ArcsOf(x.digraph())
		wantLists(t, call("ArcsOf", x.digraph()), arcs, code, x.arcs())
	}
	for _, c := range []struct {
		x    impl.Digraph
		want [][]int64
	}{
		{impl.Digraph{Size: 1, Rows: []int64{0}}, nil},
		{impl.Digraph{Size: 1, Rows: []int64{1}}, [][]int64{{0, 0}}},
		{impl.Digraph{Size: 2, Rows: []int64{0, 3}}, [][]int64{{1, 0}, {1, 1}}},
		{impl.Digraph{Size: 3, Rows: []int64{6, 1, 3}}, [][]int64{{0, 1}, {0, 2}, {1, 0}, {2, 0}, {2, 1}}},
	} {
		arcs, code := impl.ArcsOf(c.x)
		wantLists(t, call("ArcsOf", c.x), arcs, code, c.want)
	}
	arcs, code := impl.ArcsOf(everyArc(62).digraph())
	if len(arcs) != 62*62 || code != impl.ErrNone {
		t.Errorf("ArcsOf all arcs of 62 has %d, %d", len(arcs), code)
	}
}

// lineByArcs looks for a walk along any two arcs.
func lineByArcs(x table) table {
	arcs := x.arcs()
	return pointed(int64(len(arcs)), func(v int64, w int64) bool { return arcs[v][1] == arcs[w][0] })
}

func TestLineDigraph(t *testing.T) {
	refused := 0
	for x := range sampleDigraphs {
		what := call("LineDigraph", x.digraph())
		switch arcs := len(x.arcs()); {
		case arcs == 0:
			wantError(t, what, impl.ErrState, results(impl.LineDigraph(x.digraph()))...)
		case arcs > impl.MaxVertices:
			wantError(t, what, impl.ErrLimit, results(impl.LineDigraph(x.digraph()))...)
			refused++
		default:
			line, code := impl.LineDigraph(x.digraph())
			wantDigraph(t, what, line, code, lineByArcs(x).digraph())
		}
	}
	if refused < 20 {
		t.Errorf("%d digraphs alone have too many arcs", refused)
	}
}

func TestLineDigraphsByHand(t *testing.T) {
	for _, c := range []struct{ x, want impl.Digraph }{
		{impl.Digraph{Size: 1, Rows: []int64{1}}, impl.Digraph{Size: 1, Rows: []int64{1}}},
		{impl.Digraph{Size: 2, Rows: []int64{2, 0}}, impl.Digraph{Size: 1, Rows: []int64{0}}},
		{impl.Digraph{Size: 2, Rows: []int64{2, 1}}, impl.Digraph{Size: 2, Rows: []int64{2, 1}}},
		{impl.Digraph{Size: 2, Rows: []int64{3, 0}}, impl.Digraph{Size: 2, Rows: []int64{3, 0}}},
		{impl.Digraph{Size: 2, Rows: []int64{3, 3}}, impl.Digraph{Size: 4, Rows: []int64{3, 12, 3, 12}}},
		{impl.Digraph{Size: 3, Rows: []int64{6, 0, 3}}, impl.Digraph{Size: 4, Rows: []int64{0, 12, 3, 0}}},
	} {
		line, code := impl.LineDigraph(c.x)
		wantDigraph(t, call("LineDigraph", c.x), line, code, c.want)
	}
}

// TestLineDigraphLimits has 62 arcs, and 63, on few vertices and on many.
func TestLineDigraphLimits(t *testing.T) {
	for _, n := range []int64{8, 10, 31, 61, 62} {
		x := newTable(n)
		for i := range int64(impl.MaxVertices) {
			x.point(i%n, (i*i/n+i)%n)
		}
		for v := range n {
			for w := range n {
				if len(x.arcs()) < impl.MaxVertices {
					x.point(v, w)
				}
			}
		}
		line, code := impl.LineDigraph(x.digraph())
		wantDigraph(t, call("LineDigraph", x.digraph()), line, code, lineByArcs(x).digraph())
		if line.Size != impl.MaxVertices {
			t.Errorf("a line digraph has %d vertices", line.Size)
		}
		for v := range n {
			for w := range n {
				if !x[v][w] {
					wantError(t, "LineDigraph of 63 arcs", impl.ErrLimit, results(impl.LineDigraph(x.with(v, w).digraph()))...)
				}
			}
		}
	}
	wantError(t, "LineDigraph of all arcs", impl.ErrLimit, results(impl.LineDigraph(everyArc(62).digraph()))...)
	wantError(t, "LineDigraph of 64 arcs", impl.ErrLimit, results(impl.LineDigraph(everyArc(8).digraph()))...)
	for n := int64(1); n <= impl.MaxVertices; n++ {
		wantError(t, "LineDigraph without arcs", impl.ErrState, results(impl.LineDigraph(newTable(n).digraph()))...)
		line, code := impl.LineDigraph(newTable(n).with(n-1, 0).digraph())
		wantDigraph(t, "LineDigraph of one arc", line, code, pointed(1, func(int64, int64) bool { return n == 1 }).digraph())
	}
}

func TestDigraphOf(t *testing.T) {
	for x := range sampleTables {
		got, code := impl.DigraphOf(x.graph())
		wantDigraph(t, call("DigraphOf", x.graph()), got, code, x.digraph())
	}
	got, code := impl.DigraphOf(parsed(t, "4:0-1,0-3,2-3"))
	wantDigraph(t, "DigraphOf", got, code, impl.Digraph{Size: 4, Rows: []int64{10, 1, 8, 5}})
	for why, g := range notGraphs() {
		wantError(t, "DigraphOf: "+why, impl.ErrInvalid, results(impl.DigraphOf(g))...)
	}
	// These are digraphs, and no graphs.
	for _, x := range []table{circle(3, 1), everyArc(2), newTable(1).with(0, 0)} {
		wantError(t, "DigraphOf", impl.ErrInvalid, results(impl.DigraphOf(x.graph()))...)
	}
}

func TestReverseDigraph(t *testing.T) {
	for x := range sampleDigraphs {
		got, code := impl.ReverseDigraph(x.digraph())
		wantDigraph(t, call("ReverseDigraph", x.digraph()), got, code, x.reversed().digraph())
	}
	got, code := impl.ReverseDigraph(impl.Digraph{Size: 3, Rows: []int64{7, 1, 0}})
	wantDigraph(t, "ReverseDigraph", got, code, impl.Digraph{Size: 3, Rows: []int64{3, 1, 1}})
}

// degreeByArcs counts the arcs from and to each vertex; it returns -1 if they are not equally many.
func degreeByArcs(x table) int64 {
	from, to := make([]int64, len(x)), make([]int64, len(x))
	for _, arc := range x.arcs() {
		from[arc[0]]++
		to[arc[1]]++
	}
	for v := range x {
		if from[v] != from[0] || to[v] != from[0] {
			return -1
		}
	}
	return from[0]
}

func wantDegree(t *testing.T, x table, want int64) {
	t.Helper()
	what := call("DegreeOfDigraph", x.digraph())
	if want == -1 {
		wantError(t, what, impl.ErrState, results(impl.DegreeOfDigraph(x.digraph()))...)
	} else if degree, code := impl.DegreeOfDigraph(x.digraph()); degree != want || code != impl.ErrNone {
		t.Errorf("%s = %d, %d, want %d", what, degree, code, want)
	}
}

func TestDegreeOfDigraph(t *testing.T) {
	for x := range sampleDigraphs {
		wantDegree(t, x, degreeByArcs(x))
	}
	for n := int64(1); n <= impl.MaxVertices; n++ {
		wantDegree(t, newTable(n), 0)
		wantDegree(t, everyArc(n), n)
		wantDegree(t, circle(n, n/2), 1)
		if n > 1 {
			wantDegree(t, everyArc(n).without(n-1, 0), -1)
			wantDegree(t, newTable(n).with(0, n-1), -1)
			// From each vertex there is one arc, and all of them lead to one, or the other way around.
			wantDegree(t, pointed(n, func(_ int64, w int64) bool { return w == n-1 }), -1)
			wantDegree(t, pointed(n, func(v int64, _ int64) bool { return v == n-1 }), -1)
		}
	}
}

// TestDegreesOneWay has as many arcs from each vertex, but not to each one, by one arc that leads elsewhere.
func TestDegreesOneWay(t *testing.T) {
	for n := int64(3); n <= impl.MaxVertices; n++ {
		x := circle(n, 1).without(n-1, 0).with(n-1, 1)
		wantDegree(t, x, -1)
		wantDegree(t, x.reversed(), -1)
		x = everyArc(n).without(0, 0).without(1, 0)
		for v := int64(2); v < n; v++ {
			x[v][v] = false
		}
		wantDegree(t, x, -1)
		wantDegree(t, x.reversed(), -1)
		wantDegree(t, x.without(1, 1).with(1, 0), n-1)
	}
}

// wantDiameter asks for a diameter, or, with -1, for a digraph that is not strong.
func wantDiameter(t *testing.T, x table, want int64) {
	t.Helper()
	if strong, code := impl.IsStrong(x.digraph()); strong != (want >= 0) || code != impl.ErrNone {
		t.Errorf("IsStrong(%v) = %v, %d", x.digraph(), strong, code)
	}
	what := call("DiameterOfDigraph", x.digraph())
	if want == -1 {
		wantError(t, what, impl.ErrState, results(impl.DiameterOfDigraph(x.digraph()))...)
	} else if diameter, code := impl.DiameterOfDigraph(x.digraph()); diameter != want || code != impl.ErrNone {
		t.Errorf("%s = %d, %d, want %d", what, diameter, code, want)
	}
}

func TestDiameterOfDigraph(t *testing.T) {
	strong := 0
	for x := range sampleDigraphs {
		greatest := int64(0)
		for _, row := range distancesBySums(x) {
			if slices.Contains(row, -1) {
				greatest = -1
				break
			}
			greatest = max(greatest, slices.Max(row))
		}
		wantDiameter(t, x, greatest)
		if greatest > 0 {
			strong++
		}
	}
	if strong < 500 {
		t.Errorf("%d digraphs alone are strong", strong)
	}
}

func TestDiametersByHand(t *testing.T) {
	wantDiameter(t, newTable(1), 0)
	wantDiameter(t, newTable(1).with(0, 0), 0)
	for n := int64(2); n <= impl.MaxVertices; n++ {
		wantDiameter(t, newTable(n), -1)
		wantDiameter(t, everyArc(n), 1)
		wantDiameter(t, circle(n, 1), n-1)
		wantDiameter(t, circle(n, n-1), n-1)
		wantDiameter(t, circle(n, 1).with(n/2, n/2), n-1)
		for v := range n {
			wantDiameter(t, circle(n, 1).without(v, (v+1)%n), -1)
		}
		wantDiameter(t, circle(n, 1).without(n-1, 0).with(n-1, n-1), -1)
		wantDiameter(t, path(n, 1), n-1)
		wantDiameter(t, path(n, 1).without(n-1, n-2), -1)
		wantDiameter(t, path(n, 1).without(0, 1), -1)
	}
	// Two sets with all arcs, and from the first one to the second: one arc back is missing.
	forward := pointed(10, func(v int64, w int64) bool { return v < 5 || w >= 5 })
	wantDiameter(t, forward, -1)
	wantDiameter(t, forward.reversed(), -1)
	wantDiameter(t, forward.with(7, 2), 3)
	wantDiameter(t, forward.with(7, 2).reversed(), 3)
}

// wantWalks counts the walks of a length between all vertices by powers of the table.
func wantWalks(t *testing.T, x table, most int64) {
	t.Helper()
	once, power := x.firstPowers()
	for k := range most + 1 {
		step := 1 + len(x)/6
		for a := 0; a < len(x); a += step {
			for b := range x {
				wantWalk8(t, x, int64(a), int64(b), k, power[a][b])
			}
		}
		power = wrappedTimes(power, once)
	}
}

func wantWalk8(t *testing.T, x table, a int64, b int64, k int64, want int64) {
	t.Helper()
	if walks, code := impl.CountWalks(x.digraph(), a, b, k); walks != want || code != impl.ErrNone {
		t.Errorf("CountWalks(%v, %d, %d, %d) = %d, %d, want %d", x.digraph(), a, b, k, walks, code, want)
	}
}

// TestCountWalksOneByOne goes along all walks.
func TestCountWalksOneByOne(t *testing.T) {
	for x := range smallDigraphs {
		if len(x) > 3 {
			continue
		}
		for a := range x {
			for b := range x {
				for k := range int64(9) {
					wantWalk8(t, x, int64(a), int64(b), k, waysBack(x, a, b, k))
				}
			}
		}
	}
}

func TestCountWalks(t *testing.T) {
	for x := range largeDigraphs {
		wantWalks(t, x, 8)
	}
	for _, name := range names() {
		wantWalks(t, tableOf(named(t, name)), 8)
	}
}

func TestCountWalksByHand(t *testing.T) {
	loop := newTable(1).with(0, 0)
	for k := range int64(9) {
		wantWalk8(t, loop, 0, 0, k, 1)
		wantWalk8(t, circle(4, 1), 1, (1+k)%4, k, 1)
		wantWalk8(t, circle(4, 1), 1, (2+k)%4, k, 0)
		wantWalk8(t, path(3, 1), 0, 1, k, k%2<<(k/2))
	}
	wantWalk8(t, newTable(1), 0, 0, 0, 1)
	wantWalk8(t, newTable(1), 0, 0, 1, 0)
	wantWalk8(t, newTable(1), 0, 0, 8, 0)
	wantWalk8(t, newTable(2).with(0, 1), 0, 1, 1, 1)
	wantWalk8(t, newTable(2).with(0, 1), 1, 0, 1, 0)
	wantWalk8(t, everyArc(2), 0, 1, 8, 128)
	wantWalk8(t, everyArc(62), 61, 0, 8, 62*62*62*62*62*62*62)
	wantWalk8(t, everyArc(62), 30, 30, 0, 1)
	wantWalk8(t, everyArc(62), 30, 31, 0, 0)
}

func TestCountWalksErrors(t *testing.T) {
	for _, x := range []table{newTable(1), everyArc(1), circle(3, 1), everyArc(61), everyArc(62)} {
		n := int64(len(x))
		for _, v := range outside(n) {
			for _, k := range []int64{0, 1, 8, 9, -1} {
				for _, w := range []int64{0, n - 1, v} {
					wantError(t, call("CountWalks", n, v, w, k), impl.ErrRange, results(impl.CountWalks(x.digraph(), v, w, k))...)
					wantError(t, call("CountWalks", n, w, v, k), impl.ErrRange, results(impl.CountWalks(x.digraph(), w, v, k))...)
				}
			}
		}
		for _, k := range []int64{-1, 9, 10, 62, -8, math.MaxInt64, math.MinInt64, 1 << 32} {
			wantError(t, call("CountWalks", n, k), impl.ErrRange, results(impl.CountWalks(x.digraph(), 0, n-1, k))...)
		}
	}
}

// TestInvalidInChapter8 gives what is no digraph, also where its rows would lack arcs, have too many, or not be strong, and numbers of all kinds beside it.
func TestInvalidInChapter8(t *testing.T) {
	none := int64(impl.ErrInvalid)
	all := everyArc(62).digraph().Rows
	list := notDigraphs()
	list["all arcs of 62 and 61 vertices"] = impl.Digraph{Size: 61, Rows: all[:61]}
	list["all arcs of 62 and a row"] = impl.Digraph{Size: 62, Rows: append(all, 0)}
	for why, x := range list {
		wantError(t, "ArcsOf: "+why, none, results(impl.ArcsOf(x))...)
		wantError(t, "LineDigraph: "+why, none, results(impl.LineDigraph(x))...)
		wantError(t, "ReverseDigraph: "+why, none, results(impl.ReverseDigraph(x))...)
		wantError(t, "DegreeOfDigraph: "+why, none, results(impl.DegreeOfDigraph(x))...)
		wantError(t, "IsStrong: "+why, none, results(impl.IsStrong(x))...)
		wantError(t, "DiameterOfDigraph: "+why, none, results(impl.DiameterOfDigraph(x))...)
		wantError(t, "IsMooreDigraph: "+why, none, results(impl.IsMooreDigraph(x))...)
		for _, v := range []int64{0, 1, -1, 62, math.MaxInt64} {
			wantError(t, "CountWalks: "+why, none, results(impl.CountWalks(x, v, 0, 8))...)
			wantError(t, "CountWalks: "+why, none, results(impl.CountWalks(x, 0, v, 9))...)
			wantError(t, "CountWalks: "+why, none, results(impl.CountWalks(x, 0, 0, v))...)
		}
	}
}
