package tests

import (
	"slices"
	"testing"

	"loop.example/g01331/impl"
)

// cyclesOf lists the cycles of a length, each once: from its least vertex on, to the lesser one of both sides.
func cyclesOf(x table, length int) [][]int64 {
	var cycles [][]int64
	var grow func(way []int64)
	grow = func(way []int64) {
		first, last := way[0], way[len(way)-1]
		if len(way) == length {
			if x[last][first] && way[1] < last {
				cycles = append(cycles, slices.Clone(way))
			}
			return
		}
		for w := first + 1; w < int64(len(x)); w++ {
			if x[last][w] && !slices.Contains(way, w) {
				grow(append(way, w))
			}
		}
	}
	for v := range x {
		grow([]int64{int64(v)})
	}
	return cycles
}

// shortestCycles lists the cycles of the least length of which there are any.
func shortestCycles(x table) [][]int64 {
	for length := 3; length <= len(x); length++ {
		if cycles := cyclesOf(x, length); len(cycles) > 0 {
			return cycles
		}
	}
	return nil
}

// countEdges tells how many of the cycles have each edge, the lesser vertex first.
func countEdges(cycles [][]int64) map[[2]int64]int64 {
	counts := map[[2]int64]int64{}
	for _, cycle := range cycles {
		for i, v := range cycle {
			w := cycle[(i+1)%len(cycle)]
			counts[[2]int64{min(v, w), max(v, w)}]++
		}
	}
	return counts
}

// leastAround returns the least length of a cycle through v, or 0. It grows branches from v, one for each neighbour,
// and looks for edges between two of them.
func leastAround(x table, v int) int64 {
	distances := distancesBySums(x)[v]
	order := make([]int, 0, len(x))
	for w, d := range distances {
		if d > 0 {
			order = append(order, w)
		}
	}
	slices.SortFunc(order, func(a int, b int) int { return int(distances[a] - distances[b]) })
	branch := make([]int, len(x))
	for _, w := range order {
		branch[w] = w
		for u := range x {
			if x[w][u] && u != v && distances[u] == distances[w]-1 {
				branch[w] = branch[u]
			}
		}
	}
	least := int64(0)
	for _, a := range order {
		for _, b := range order {
			if length := distances[a] + distances[b] + 1; x[a][b] && branch[a] != branch[b] && (least == 0 || length < least) {
				least = length
			}
		}
	}
	return least
}

func TestGirths(t *testing.T) {
	for x := range sampleTables {
		g := x.graph()
		cycles := shortestCycles(x)
		if len(cycles) == 0 {
			wantError(t, call("GirthOf", g), impl.ErrNotFound, results(impl.GirthOf(g))...)
			wantError(t, call("CountShortest", g), impl.ErrNotFound, results(impl.CountShortest(g))...)
			continue
		}
		if girth, code := impl.GirthOf(g); girth != int64(len(cycles[0])) || code != impl.ErrNone {
			t.Errorf("GirthOf(%v) = %d, %d, want %d", g, girth, code, len(cycles[0]))
		}
		if count, code := impl.CountShortest(g); count != int64(len(cycles)) || code != impl.ErrNone {
			t.Errorf("CountShortest(%v) = %d, %d, want %d", g, count, code, len(cycles))
		}
	}
}

func wantGirthAt(t *testing.T, g impl.Graph, v int64, want int64) {
	t.Helper()
	if want == 0 {
		wantError(t, call("GirthAt", g, v), impl.ErrNotFound, results(impl.GirthAt(g, v))...)
	} else if girth, code := impl.GirthAt(g, v); girth != want || code != impl.ErrNone {
		t.Errorf("GirthAt(%v, %d) = %d, %d, want %d", g, v, girth, code, want)
	}
}

func TestGirthAt(t *testing.T) {
	for x := range smallTables {
		for v := range int64(len(x)) {
			want := int64(0)
			for length := len(x); length >= 3; length-- {
				if slices.ContainsFunc(cyclesOf(x, length), func(cycle []int64) bool { return slices.Contains(cycle, v) }) {
					want = int64(length)
				}
			}
			wantGirthAt(t, x.graph(), v, want)
		}
	}
	for x := range largeTables {
		for v := 0; v < len(x); v += 3 {
			wantGirthAt(t, x.graph(), int64(v), leastAround(x, v))
		}
	}
}

// TestGirthAtByHand has vertices whose neighbours are on cycles, but not with them.
func TestGirthAtByHand(t *testing.T) {
	for text, want := range map[string][]int64{
		"1:":                                {0},
		"2:0-1":                             {0, 0},
		"5:0-1,0-2,1-2,2-3,3-4":             {3, 3, 3, 0, 0},
		"7:0-1,0-2,1-2,2-3,3-4,4-5,4-6,5-6": {3, 3, 3, 0, 3, 3, 3},
		"6:0-1,0-2,0-3,0-5,1-2,3-4,4-5":     {3, 3, 3, 4, 4, 4},
		"7:0-1,0-6,1-2,1-6,2-3,3-4,4-5,5-6": {3, 3, 6, 6, 6, 6, 3},
		"7:0-1,0-3,1-2,2-3,4-5,4-6,5-6":     {4, 4, 4, 4, 3, 3, 3},
	} {
		for v, girth := range want {
			wantGirthAt(t, parsed(t, text), int64(v), girth)
		}
	}
	for v := range int64(62) {
		wantGirthAt(t, ring(62).graph(), v, 62)
		wantGirthAt(t, path(62, 23).graph(), v, 0)
		wantGirthAt(t, complement(t, newTable(62).graph()), v, 3)
	}
}

func TestGirthsByHand(t *testing.T) {
	for name, want := range map[string][2]int64{"k4": {3, 4}, "k5": {3, 10}, "k33": {4, 9}, "cube": {4, 6}, "clebsch": {4, 40}, "petersen": {5, 12},
		"icosahedron": {3, 20}, "heawood": {6, 28}, "dodecahedron": {5, 12}, "pappus": {6, 18}, "desargues": {6, 20}, "tuttecoxeter": {8, 90}, "hoffmansingleton": {5, 1260}} {
		girth, one := impl.GirthOf(named(t, name))
		count, two := impl.CountShortest(named(t, name))
		if girth != want[0] || count != want[1] || one != impl.ErrNone || two != impl.ErrNone {
			t.Errorf("%s has %d cycles of %d, want %v", name, count, girth, want)
		}
	}
	for n := int64(3); n <= 62; n++ {
		g := ring(n).graph()
		girth, one := impl.GirthOf(g)
		count, two := impl.CountShortest(g)
		through, three := impl.ShortestThrough(g, n-1, 0)
		if girth != n || count != 1 || through != 1 || one != impl.ErrNone || two != impl.ErrNone || three != impl.ErrNone {
			t.Errorf("a ring of %d has %d cycles of %d, %d through an edge", n, count, girth, through)
		}
	}
	halves := newTable(62)
	for v := range int64(31) {
		for w := range int64(31) {
			halves.join(v, 31+w)
		}
	}
	girth, _ := impl.GirthOf(halves.graph())
	count, _ := impl.CountShortest(halves.graph())
	through, _ := impl.ShortestThrough(halves.graph(), 61, 0)
	if girth != 4 || count != 465*465 || through != 900 {
		t.Errorf("31 joined with 31 have %d cycles of %d, %d through an edge", count, girth, through)
	}
}

func TestWithoutCycles(t *testing.T) {
	for what, x := range map[string]table{"one vertex": newTable(1), "62 vertices": newTable(62), "a path": path(62, 23), "a star": star(62), "an edge": path(2, 1)} {
		g := x.graph()
		wantError(t, "GirthOf: "+what, impl.ErrNotFound, results(impl.GirthOf(g))...)
		wantError(t, "CountShortest: "+what, impl.ErrNotFound, results(impl.CountShortest(g))...)
		wantError(t, "GirthAt: "+what, impl.ErrNotFound, results(impl.GirthAt(g, g.Size-1))...)
		for _, e := range x.edges() {
			wantError(t, "ShortestThrough: "+what, impl.ErrNotFound, results(impl.ShortestThrough(g, e[0], e[1]))...)
		}
	}
}

func TestShortestThrough(t *testing.T) {
	for x := range sampleTables {
		g := x.graph()
		cycles := shortestCycles(x)
		counts := countEdges(cycles)
		for v := range g.Size {
			for w := range g.Size {
				what := call("ShortestThrough", g, v, w)
				if !x[v][w] {
					wantError(t, what, impl.ErrState, results(impl.ShortestThrough(g, v, w))...)
				} else if len(cycles) == 0 {
					wantError(t, what, impl.ErrNotFound, results(impl.ShortestThrough(g, v, w))...)
				} else if count, code := impl.ShortestThrough(g, v, w); count != counts[[2]int64{min(v, w), max(v, w)}] || code != impl.ErrNone {
					t.Errorf("%s = %d, %d", what, count, code)
				}
			}
		}
	}
}

// TestShortestThroughByHand has edges without cycles, or with longer ones alone, in graphs with cycles.
func TestShortestThroughByHand(t *testing.T) {
	g := parsed(t, "9:0-1,0-2,1-2,2-3,3-4,3-6,4-5,5-6,7-8")
	for edge, want := range map[[2]int64]int64{{0, 1}: 1, {2, 1}: 1, {2, 3}: 0, {3, 4}: 0, {6, 5}: 0, {7, 8}: 0} {
		if count, code := impl.ShortestThrough(g, edge[0], edge[1]); count != want || code != impl.ErrNone {
			t.Errorf("ShortestThrough(%v) = %d, %d, want %d", edge, count, code, want)
		}
	}
	g = parsed(t, "4:0-1,0-2,0-3,1-2,1-3")
	for edge, want := range map[[2]int64]int64{{0, 1}: 2, {1, 0}: 2, {0, 2}: 1, {3, 1}: 1} {
		if count, code := impl.ShortestThrough(g, edge[0], edge[1]); count != want || code != impl.ErrNone {
			t.Errorf("ShortestThrough(%v) = %d, %d, want %d", edge, count, code, want)
		}
	}
}

// TestGirthErrors has the numbers out of range, also where another error would come later.
func TestGirthErrors(t *testing.T) {
	for _, text := range []string{"1:", "3:", "3:0-1,0-2,1-2", "62:"} {
		g := parsed(t, text)
		for _, v := range outside(g.Size) {
			wantError(t, call("GirthAt", text, v), impl.ErrRange, results(impl.GirthAt(g, v))...)
			for _, w := range []int64{0, g.Size - 1, v} {
				wantError(t, call("ShortestThrough", text, v, w), impl.ErrRange, results(impl.ShortestThrough(g, v, w))...)
				wantError(t, call("ShortestThrough", text, w, v), impl.ErrRange, results(impl.ShortestThrough(g, w, v))...)
			}
		}
		for v := range g.Size {
			wantError(t, call("ShortestThrough", text, v, v), impl.ErrState, results(impl.ShortestThrough(g, v, v))...)
		}
	}
	wantError(t, "no neighbours and no cycle", impl.ErrState, results(impl.ShortestThrough(parsed(t, "4:0-1,1-2"), 0, 2))...)
	wantError(t, "no neighbours", impl.ErrState, results(impl.ShortestThrough(ring(5).graph(), 0, 2))...)
}
