package tests

import (
	"slices"
	"testing"

	"loop.example/g01331/impl"
)

// waysBack goes along all ways of a length from v, and counts those that end at the vertex end.
func waysBack(x table, v int, end int, length int64) int64 {
	if length == 0 {
		if v == end {
			return 1
		}
		return 0
	}
	count := int64(0)
	for w := range x {
		if x[v][w] {
			count += waysBack(x, w, end, length-1)
		}
	}
	return count
}

func wantClosed(t *testing.T, g impl.Graph, v int64, k int64, want int64) {
	t.Helper()
	if closed, code := impl.CountClosedAt(g, v, k); closed != want || code != impl.ErrNone {
		t.Errorf("CountClosedAt(%v, %d, %d) = %d, %d, want %d", g, v, k, closed, code, want)
	}
}

// TestCountClosedOneByOne has all lengths for graphs of at most four vertices, and those up to 5 for graphs of five.
func TestCountClosedOneByOne(t *testing.T) {
	for x := range smallTables {
		most := int64(impl.MaxClosed)
		if len(x) == 5 {
			most = 5
		}
		for v := range x {
			for k := range most + 1 {
				wantClosed(t, x.graph(), int64(v), k, waysBack(x, v, v, k))
			}
		}
	}
}

// TestCountClosed takes the places of powers of the table that lie on the diagonal.
func TestCountClosed(t *testing.T) {
	for x := range sampleTables {
		once, power := x.firstPowers()
		for k := int64(0); k <= impl.MaxClosed; k++ {
			for v := range x {
				wantClosed(t, x.graph(), int64(v), k, power[v][v])
			}
			power = wrappedTimes(power, once)
		}
	}
}

func TestCountClosedByHand(t *testing.T) {
	petersen, all, tips := named(t, "petersen"), groups(62, 1).graph(), star(62).graph()
	for k, want := range []int64{1, 0, 3, 0, 15, 12, 99, 168, 759} {
		wantClosed(t, petersen, 0, int64(k), want)
		wantClosed(t, petersen, 9, int64(k), want)
	}
	power, sign := int64(1), int64(1)
	for k := range int64(9) {
		wantClosed(t, all, 61, k, (power+61*sign)/62)
		power, sign = power*61, -sign
	}
	wantClosed(t, all, 0, 8, 3092053435441)
	for k, want := range []int64{1, 0, 61, 0, 3721, 0, 226981, 0, 13845841} {
		wantClosed(t, tips, 0, int64(k), want)
	}
	wantClosed(t, tips, 61, 8, 226981)
	for k, want := range []int64{1, 0, 2, 0, 6, 0, 20, 0, 70} {
		wantClosed(t, ring(62).graph(), 61, int64(k), want)
	}
	for _, text := range []string{"1:", "62:", "3:1-2"} {
		wantClosed(t, parsed(t, text), 0, 0, 1)
		for k := int64(1); k <= impl.MaxClosed; k++ {
			wantClosed(t, parsed(t, text), 0, k, 0)
		}
	}
}

func TestCountClosedErrors(t *testing.T) {
	if impl.MaxClosed != 8 {
		t.Errorf("MaxClosed is %d", impl.MaxClosed)
	}
	for _, text := range []string{"1:", "3:", "3:0-1,1-2", "62:"} {
		g := parsed(t, text)
		for _, v := range outside(g.Size) {
			for _, k := range []int64{0, 1, 8, 9, -1} {
				wantError(t, call("CountClosedAt", text, v, k), impl.ErrRange, results(impl.CountClosedAt(g, v, k))...)
			}
		}
		for _, k := range outside(9) {
			wantError(t, call("CountClosedAt", text, k), impl.ErrRange, results(impl.CountClosedAt(g, 0, k))...)
			wantError(t, call("CountClosedAt", text, k), impl.ErrRange, results(impl.CountClosedAt(g, g.Size-1, k))...)
		}
	}
}

// TestGraphAt has all distances that there are, the one behind, and the last one.
func TestGraphAt(t *testing.T) {
	for x := range allTables {
		distances := distancesBySums(x)
		most := max(1, slices.Max(slices.Concat(distances...)))
		for _, i := range append(turn(most+1, 1), 61) {
			if i < 1 || i > 61 {
				continue
			}
			at, code := impl.GraphAt(x.graph(), i)
			want := tableWhere(int64(len(x)), func(v int64, w int64) bool { return distances[v][w] == i })
			wantGraph(t, call("GraphAt", x.graph(), i), at, code, want.graph())
		}
	}
}

func TestGraphAtByHand(t *testing.T) {
	for _, c := range []struct {
		g    string
		i    int64
		want string
	}{
		{"1:", 1, "1:"}, {"1:", 61, "1:"}, {"2:0-1", 1, "2:0-1"}, {"2:0-1", 2, "2:"}, {"3:0-1,1-2", 2, "3:0-2"}, {"4:0-1,2-3", 1, "4:0-1,2-3"}, {"4:0-1,2-3", 2, "4:"},
		{"7:0-1,1-2,3-4,4-5,5-6", 2, "7:0-2,3-5,4-6"}, {"7:0-1,1-2,3-4,4-5,5-6", 3, "7:3-6"}, {"7:0-1,1-2,3-4,4-5,5-6", 4, "7:"},
	} {
		at, code := impl.GraphAt(parsed(t, c.g), c.i)
		wantGraph(t, call("GraphAt", c.g, c.i), at, code, parsed(t, c.want))
	}
	ends, code := impl.GraphAt(path(62, 1).graph(), 61)
	wantGraph(t, "GraphAt the ends of 62", ends, code, parsed(t, "62:0-61"))
	apart, code := impl.GraphAt(named(t, "petersen"), 2)
	wantGraph(t, "GraphAt(petersen, 2)", apart, code, complement(t, named(t, "petersen")))
}

func TestGraphAtErrors(t *testing.T) {
	for _, text := range []string{"1:", "2:0-1", "4:0-1,2-3", "62:"} {
		for _, i := range append(outside(62), 0) {
			wantError(t, call("GraphAt", text, i), impl.ErrRange, results(impl.GraphAt(parsed(t, text), i))...)
		}
	}
}

// parametersByPairs counts the common neighbours of all pairs, and returns nil for a graph that is not strongly regular.
func parametersByPairs(x table) []int64 {
	common := map[bool]map[int64]bool{true: {}, false: {}}
	degrees := map[int64]bool{}
	for v := range x {
		degree := int64(0)
		for w := range x {
			if x[v][w] {
				degree++
			}
			count := int64(0)
			for u := range x {
				if x[v][u] && x[w][u] {
					count++
				}
			}
			if v != w {
				common[x[v][w]][count] = true
			}
		}
		degrees[degree] = true
	}
	if len(degrees) != 1 || len(common[true]) != 1 || len(common[false]) != 1 {
		return nil
	}
	only := func(numbers map[int64]bool) int64 {
		for number := range numbers {
			return number
		}
		return -1
	}
	return []int64{int64(len(x)), only(degrees), only(common[true]), only(common[false])}
}

func TestParametersOf(t *testing.T) {
	strong, others := 0, 0
	for x := range allTables {
		g := x.graph()
		want := parametersByPairs(x)
		if want == nil {
			others++
			wantError(t, call("ParametersOf", g), impl.ErrNotFound, results(impl.ParametersOf(g))...)
			continue
		}
		strong++
		parameters, code := impl.ParametersOf(g)
		wantList(t, call("ParametersOf", g), parameters, code, want...)
	}
	if strong < 100 || others < 1000 {
		t.Errorf("%d graphs are strongly regular, %d are not", strong, others)
	}
}

// TestParametersByHand has no edges, all edges, one vertex, and graphs that miss one rule alone: the degree, l, or m.
func TestParametersByHand(t *testing.T) {
	for _, c := range []struct {
		what string
		g    impl.Graph
		want []int64
	}{
		{"petersen", named(t, "petersen"), []int64{10, 3, 0, 1}}, {"clebsch", named(t, "clebsch"), []int64{16, 5, 0, 2}}, {"hoffmansingleton", named(t, "hoffmansingleton"), []int64{50, 7, 0, 1}},
		{"k33", named(t, "k33"), []int64{6, 3, 0, 3}}, {"a square", ring(4).graph(), []int64{4, 2, 0, 2}}, {"a pentagon", ring(5).graph(), []int64{5, 2, 0, 1}},
		{"13 around", circulantTable(13, []int64{1, 3, 4}).graph(), []int64{13, 6, 2, 3}}, {"two edges", parsed(t, "4:0-1,2-3"), []int64{4, 1, 0, 0}}, {"two triangles", severalParts(ring(3), 2).graph(), []int64{6, 2, 1, 0}},
		{"31 edges", severalParts(path(2, 1), 31).graph(), []int64{62, 1, 0, 0}}, {"31 pairs apart", groups(31, 2).graph(), []int64{62, 60, 58, 60}}, {"sets of two", johnson(8, 2).graph(), []int64{28, 12, 6, 4}},
	} {
		parameters, code := impl.ParametersOf(c.g)
		wantList(t, "ParametersOf "+c.what, parameters, code, c.want...)
	}
	for what, g := range map[string]impl.Graph{
		"one vertex": newTable(1).graph(), "two vertices": newTable(2).graph(), "62 vertices": newTable(62).graph(), "an edge": path(2, 1).graph(), "k4": named(t, "k4"), "62 joined ones": groups(62, 1).graph(),
		"a path": path(3, 1).graph(), "an edge and a vertex": parsed(t, "3:0-1"), "two triangles that meet": parsed(t, "5:0-1,0-2,0-3,0-4,1-2,3-4"), "a hexagon": ring(6).graph(), "the cube": named(t, "cube"),
		"not the cube": complement(t, named(t, "cube")), "icosahedron": named(t, "icosahedron"), "two squares": severalParts(ring(4), 2).graph(),
	} {
		wantError(t, "ParametersOf "+what, impl.ErrNotFound, results(impl.ParametersOf(g))...)
	}
}
