package tests

import (
	"slices"
	"testing"

	"loop.example/g01331/impl"
)

// tableWhere joins v and w, v less than w, if joined says so.
func tableWhere(n int64, joined func(v int64, w int64) bool) table {
	x := newTable(n)
	for w := range n {
		for v := range w {
			if joined(v, w) {
				x.join(v, w)
			}
		}
	}
	return x
}

// groups joins all vertices of different groups, each of so many of them; of groups of one vertex that is each pair.
func groups(count int64, size int64) table {
	return tableWhere(count*size, func(v int64, w int64) bool { return v/size != w/size })
}

// unlikeDigits counts the places at which v and w differ as numbers of some digits to a base.
func unlikeDigits(v int64, w int64, base int64) int {
	unlike := 0
	for ; v > 0 || w > 0; v, w = v/base, w/base {
		if v%base != w%base {
			unlike++
		}
	}
	return unlike
}

// hamming joins the words of some digits to a base that differ at one place.
func hamming(digits int, base int64) table {
	n := int64(1)
	for range digits {
		n *= base
	}
	return tableWhere(n, func(v int64, w int64) bool { return unlikeDigits(v, w, base) == 1 })
}

// johnson joins the sets of k of m numbers that have all but one in common.
func johnson(m int, k int) table {
	lists := ascendingLists(k, m)
	return tableWhere(int64(len(lists)), func(v int64, w int64) bool {
		common := 0
		for _, x := range lists[v] {
			if slices.Contains(lists[w], x) {
				common++
			}
		}
		return common == k-1
	})
}

// severalParts has some copies of a graph beside each other.
func severalParts(x table, copies int) table {
	n := int64(len(x))
	return tableWhere(n*int64(copies), func(v int64, w int64) bool { return v/n == w/n && x[v%n][w%n] })
}

// geometries are the graphs of chapter 4.
func geometries() []table {
	var list []table
	for _, q := range primes() {
		if g, code := impl.PlaneGraph(q); code == impl.ErrNone {
			list = append(list, tableOf(g))
		}
		g, _ := impl.PolarityGraph(q)
		list = append(list, tableOf(g))
		for k := int64(2); k <= 4; k++ {
			if g, code := impl.TupleGraph(k, q); code == impl.ErrNone {
				list = append(list, tableOf(g))
			}
		}
	}
	for k := int64(2); k <= 4; k++ {
		g, _ := impl.OddGraph(k)
		list = append(list, tableOf(g))
	}
	return list
}

// patterns are graphs with rules: most are regular, and many distance-regular.
func patterns() []table {
	list := geometries()
	for n := int64(1); n <= impl.MaxVertices; n++ {
		list = append(list, groups(n, 1), path(n, 1), star(n))
		if n >= 3 {
			list = append(list, ring(n))
		}
		for size := int64(2); size*n <= impl.MaxVertices && n <= 12; size++ {
			list = append(list, groups(n, size))
		}
	}
	for n := int64(3); n <= 16; n++ {
		for j := int64(1); j < n; j++ {
			for k := int64(1); k < j; k++ {
				list = append(list, circulantTable(n, []int64{j, k}))
			}
		}
	}
	for n := int64(3); n <= 14; n++ {
		for k := int64(1); k < n; k++ {
			if 2*k != n {
				list = append(list, ringTable(n, k))
			}
		}
	}
	for _, c := range [][2]int{{1, 9}, {2, 2}, {2, 3}, {2, 4}, {2, 7}, {3, 2}, {3, 3}, {4, 2}, {5, 2}} {
		list = append(list, hamming(c[0], int64(c[1])))
	}
	for _, c := range [][2]int{{4, 2}, {5, 2}, {6, 2}, {6, 3}, {7, 3}, {8, 2}, {11, 2}, {8, 3}} {
		list = append(list, johnson(c[0], c[1]))
	}
	for _, copies := range []int{2, 3, 5} {
		list = append(list, severalParts(groups(2, 1), copies), severalParts(ring(5), copies), severalParts(groups(3, 2), copies))
	}
	return list
}

// patternedTables yields the patterns and their complements.
func patternedTables(yield func(table) bool) {
	for _, x := range patterns() {
		other := tableWhere(int64(len(x)), func(v int64, w int64) bool { return !x[v][w] })
		if !yield(x) || !yield(other) {
			return
		}
	}
}

// allTables yields the samples and the patterned graphs.
func allTables(yield func(table) bool) {
	for x := range sampleTables {
		if !yield(x) {
			return
		}
	}
	patternedTables(yield)
}

// areWhole reports whether there is a way between all vertices.
func areWhole(distances [][]int64) bool {
	return !slices.Contains(slices.Concat(distances...), -1)
}

// arraysByPairs counts neighbours for all pairs of vertices of a connected graph, and reports whether all pairs at a distance agree.
func arraysByPairs(x table, distances [][]int64) ([]int64, []int64, bool) {
	diameter := slices.Max(slices.Concat(distances...))
	b, c := slices.Repeat([]int64{-1}, int(diameter)), slices.Repeat([]int64{-1}, int(diameter))
	agrees := func(known *int64, count int64) bool {
		if *known == -1 {
			*known = count
		}
		return *known == count
	}
	for v := range x {
		for w := range x {
			i, count := distances[v][w], map[int64]int64{}
			for u := range x {
				if x[w][u] {
					count[distances[v][u]]++
				}
			}
			if i < diameter && !agrees(&b[i], count[i+1]) || i > 0 && !agrees(&c[i-1], count[i-1]) {
				return nil, nil, false
			}
		}
	}
	return b, c, true
}

// wantArrays returns whether a graph is connected, and whether it is distance-regular.
func wantArrays(t *testing.T, x table) (bool, bool) {
	t.Helper()
	g, distances := x.graph(), distancesBySums(x)
	if !areWhole(distances) {
		wantError(t, call("ArraysOf", g), impl.ErrState, results(impl.ArraysOf(g))...)
		wantError(t, call("IsDistanceRegular", g), impl.ErrState, results(impl.IsDistanceRegular(g))...)
		return false, false
	}
	b, c, ok := arraysByPairs(x, distances)
	if regular, code := impl.IsDistanceRegular(g); regular != ok || code != impl.ErrNone {
		t.Errorf("IsDistanceRegular(%v) = %v, %d", g, regular, code)
	}
	if !ok {
		wantError(t, call("ArraysOf", g), impl.ErrNotFound, results(impl.ArraysOf(g))...)
		return true, false
	}
	further, nearer, code := impl.ArraysOf(g)
	wantList(t, call("ArraysOf", g), further, code, b...)
	wantList(t, call("ArraysOf", g), nearer, code, c...)
	return true, true
}

func TestArrays(t *testing.T) {
	apart, unlike, alike := 0, 0, 0
	for x := range allTables {
		switch connected, regular := wantArrays(t, x); {
		case !connected:
			apart++
		case !regular:
			unlike++
		default:
			alike++
		}
	}
	if apart < 300 || unlike < 800 || alike < 300 {
		t.Errorf("%d graphs are not connected, %d not distance-regular, %d distance-regular", apart, unlike, alike)
	}
}

func TestArraysByHand(t *testing.T) {
	for name, want := range map[string][2][]int64{
		"k4": {{3}, {1}}, "k5": {{4}, {1}}, "k33": {{3, 2}, {1, 3}}, "cube": {{3, 2, 1}, {1, 2, 3}}, "clebsch": {{5, 4}, {1, 2}}, "petersen": {{3, 2}, {1, 1}},
		"icosahedron": {{5, 2, 1}, {1, 2, 5}}, "hoffmansingleton": {{7, 6}, {1, 1}}, "heawood": {{3, 2, 2}, {1, 1, 3}}, "pappus": {{3, 2, 2, 1}, {1, 1, 2, 3}},
		"desargues": {{3, 2, 2, 1, 1}, {1, 1, 2, 2, 3}}, "dodecahedron": {{3, 2, 1, 1, 1}, {1, 1, 1, 2, 3}}, "tuttecoxeter": {{3, 2, 2, 2}, {1, 1, 1, 3}},
	} {
		b, c, code := impl.ArraysOf(named(t, name))
		wantList(t, "b of "+name, b, code, want[0]...)
		wantList(t, "c of "+name, c, code, want[1]...)
	}
	for _, c := range []struct {
		what string
		x    table
		b, c []int64
	}{
		{"one vertex", newTable(1), nil, nil}, {"two vertices", path(2, 1), []int64{1}, []int64{1}}, {"62 joined ones", groups(62, 1), []int64{61}, []int64{1}},
		{"a square", ring(4), []int64{2, 1}, []int64{1, 2}}, {"a pentagon", ring(5), []int64{2, 1}, []int64{1, 1}}, {"an octahedron", groups(3, 2), []int64{4, 1}, []int64{1, 4}},
		{"62 around", ring(62), append([]int64{2}, slices.Repeat([]int64{1}, 30)...), append(slices.Repeat([]int64{1}, 30), 2)},
		{"61 around", ring(61), append([]int64{2}, slices.Repeat([]int64{1}, 29)...), slices.Repeat([]int64{1}, 30)},
		{"32 words", hamming(5, 2), []int64{5, 4, 3, 2, 1}, []int64{1, 2, 3, 4, 5}}, {"sets of 3", johnson(7, 3), []int64{12, 6, 2}, []int64{1, 4, 9}},
	} {
		b, d, code := impl.ArraysOf(c.x.graph())
		wantList(t, "b of "+c.what, b, code, c.b...)
		wantList(t, "c of "+c.what, d, code, c.c...)
		if regular, code := impl.IsDistanceRegular(c.x.graph()); !regular || code != impl.ErrNone {
			t.Errorf("%s: IsDistanceRegular = %v, %d", c.what, regular, code)
		}
	}
}

// TestNoArrays has graphs that miss arrays by little: regular ones that look alike from all vertices, ones that differ just in b, or just in c, and ones that are not regular.
func TestNoArrays(t *testing.T) {
	for what, x := range map[string]table{
		"a prism": ringTable(3, 1), "a long prism": ringTable(6, 1), "moebiuskantor": tableOf(named(t, "moebiuskantor")), "mcgee": tableOf(named(t, "mcgee")), "a path": path(3, 1),
		"a star": star(62), "a path of 62": path(62, 23), "a ladder around": circulantTable(8, []int64{1, 4}), "two and three": tableOf(parsed(t, "5:0-2,0-3,0-4,1-2,1-3,1-4")),
	} {
		g := x.graph()
		wantError(t, "ArraysOf "+what, impl.ErrNotFound, results(impl.ArraysOf(g))...)
		if regular, code := impl.IsDistanceRegular(g); regular || code != impl.ErrNone {
			t.Errorf("%s: IsDistanceRegular = %v, %d", what, regular, code)
		}
	}
}

func TestArraysWithoutConnection(t *testing.T) {
	for _, text := range []string{"2:", "62:", "3:0-1", "4:0-1,2-3", "6:0-1,0-2,1-2,3-4,3-5,4-5", "3:1-2", "4:1-2,1-3,2-3"} {
		g := parsed(t, text)
		wantError(t, call("ArraysOf", text), impl.ErrState, results(impl.ArraysOf(g))...)
		wantError(t, call("IsDistanceRegular", text), impl.ErrState, results(impl.IsDistanceRegular(g))...)
	}
}

// TestInvalidInChapter6 gives numbers in their ranges, and others, beside what is no graph.
func TestInvalidInChapter6(t *testing.T) {
	none := int64(impl.ErrInvalid)
	for why, g := range notGraphs() {
		for _, i := range []int64{0, 1, 2, -1, 8, 9, 61, 62, 1 << 40} {
			wantError(t, "GraphAt: "+why, none, results(impl.GraphAt(g, i))...)
			wantError(t, "CountClosedAt: "+why, none, results(impl.CountClosedAt(g, 0, i))...)
			wantError(t, "CountClosedAt: "+why, none, results(impl.CountClosedAt(g, i, 2))...)
		}
		wantError(t, "ArraysOf: "+why, none, results(impl.ArraysOf(g))...)
		wantError(t, "IsDistanceRegular: "+why, none, results(impl.IsDistanceRegular(g))...)
		wantError(t, "ParametersOf: "+why, none, results(impl.ParametersOf(g))...)
		wantError(t, "HalfOf: "+why, none, results(impl.HalfOf(g))...)
		wantError(t, "IsAntipodal: "+why, none, results(impl.IsAntipodal(g))...)
		wantError(t, "FoldedGraph: "+why, none, results(impl.FoldedGraph(g))...)
	}
}
