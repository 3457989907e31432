package tests

import (
	"slices"
	"testing"

	"loop.example/g01331/impl"
)

// isomorphisms yields all lists of vertices of y to which those of x lead such that neighbours lead to neighbours, and others to others.
func isomorphisms(x table, y table) func(yield func([]int64) bool) {
	return func(yield func([]int64) bool) {
		places, taken := make([]int64, 0, len(x)), make([]bool, len(y))
		var extend func() bool
		extend = func() bool {
			v := len(places)
			if v == len(x) {
				return yield(places)
			}
		next:
			for w := range y {
				if taken[w] {
					continue
				}
				for u, place := range places {
					if x[v][u] != y[w][place] {
						continue next
					}
				}
				taken[w] = true
				places = append(places, int64(w))
				if !extend() {
					return false
				}
				taken[w] = false
				places = places[:v]
			}
			return true
		}
		if len(x) == len(y) {
			extend()
		}
	}
}

// places is a renumbering that looks scattered.
func places(n int64, seed uint32) []int64 {
	list, state := turn(n, 0), seed
	for i := range n {
		state = state*1664525 + 1013904223
		j := int64(state>>8) % (i + 1)
		list[i], list[j] = list[j], list[i]
	}
	return list
}

// placed renumbers a table.
func (t table) placed(list []int64) table {
	other := newTable(int64(len(t)))
	for v := range t {
		for w := range t {
			other[list[v]][list[w]] = t[v][w]
		}
	}
	return other
}

// complement joins the others.
func (t table) complement() table {
	return tableWhere(int64(len(t)), func(v int64, w int64) bool { return !t[v][w] })
}

// beside puts graphs beside each other.
func beside(some ...table) table {
	var all table
	for _, x := range some {
		n := int64(len(all))
		sum := newTable(n + int64(len(x)))
		for v := range all {
			copy(sum[v], all[v])
		}
		for v := range x {
			copy(sum[n+int64(v)][n:], x[v])
		}
		all = sum
	}
	return all
}

// swollen has so many vertices, no neighbours, in the place of each vertex.
func swollen(x table, size int64) table {
	return tableWhere(int64(len(x))*size, func(v int64, w int64) bool { return x[v/size][w/size] })
}

// rook joins the squares of a board that are in a row or in a column.
func rook(size int64) table {
	return tableWhere(size*size, func(v int64, w int64) bool { return v/size == w/size || v%size == w%size })
}

// shrikhande has the parameters of the rook's graph on 16 squares: six steps lead from each square, around.
func shrikhande() table {
	steps := [][2]int64{{0, 1}, {0, 3}, {1, 0}, {3, 0}, {1, 1}, {3, 3}}
	return tableWhere(16, func(v int64, w int64) bool {
		return slices.Contains(steps, [2]int64{(v/4 - w/4 + 4) % 4, (v%4 - w%4 + 4) % 4})
	})
}

// switched joins the vertices of a list with the others to which they were not joined.
func switched(x table, list ...int64) table {
	return tableWhere(int64(len(x)), func(v int64, w int64) bool {
		return x[v][w] != (slices.Contains(list, v) != slices.Contains(list, w))
	})
}

// triangular has the pairs of eight numbers in order, and the three graphs of Chang with the same parameters: switched by four pairs apart, by a ring of eight pairs, and by rings of three and of five.
func triangular() []table {
	x := johnson(8, 2)
	pairs := ascendingLists(2, 8)
	by := func(some ...[]int64) table {
		var list []int64
		for _, pair := range some {
			list = append(list, int64(slices.IndexFunc(pairs, func(p []int64) bool { return slices.Equal(p, pair) })))
		}
		return switched(x, list...)
	}
	type p = []int64
	return []table{x, by(p{0, 1}, p{2, 3}, p{4, 5}, p{6, 7}),
		by(p{0, 1}, p{1, 2}, p{2, 3}, p{3, 4}, p{4, 5}, p{5, 6}, p{6, 7}, p{0, 7}),
		by(p{0, 1}, p{1, 2}, p{0, 2}, p{3, 4}, p{4, 5}, p{5, 6}, p{6, 7}, p{3, 7})}
}

// knotted has for each vertex of a cubic graph four vertices, of its even sets of edges, joined with two vertices of each edge, as it is in the set or not; knotted once, those of the first vertex are of odd sets.
func knotted(x table, once bool) table {
	edges := x.edges()
	kinds := func(v int64) [][]int64 {
		var list [][]int64
		for set := range tuplesBetween(3, 0, 1) {
			if odd := (set[0]+set[1]+set[2])%2 == 1; odd == (once && v == 0) {
				list = append(list, slices.Clone(set))
			}
		}
		return list
	}
	n := int64(len(x))
	all := newTable(4*n + 2*int64(len(edges)))
	for v := range n {
		for i, set := range kinds(v) {
			met := 0
			for e, edge := range edges {
				if slices.Contains(edge, v) {
					all.join(4*v+int64(i), 4*n+2*int64(e)+set[met])
					met++
				}
			}
		}
	}
	return all
}

func wantIsomorphic(t *testing.T, what string, x table, y table, want bool) {
	t.Helper()
	g, h := x.graph(), y.graph()
	one, code := impl.AreIsomorphic(g, h)
	two, other := impl.AreIsomorphic(h, g)
	if one != want || two != want || code != impl.ErrNone || other != impl.ErrNone {
		t.Errorf("%s: AreIsomorphic(%v, %v) = %v, %d, and %v, %d, want %v", what, g, h, one, code, two, other, want)
	}
}

// wantAllUnlike asks that no two of some graphs are isomorphic, and each is with itself renumbered.
func wantAllUnlike(t *testing.T, what string, some ...table) {
	t.Helper()
	for i, x := range some {
		for j, y := range some {
			wantIsomorphic(t, what, x, y.placed(places(int64(len(y)), uint32(i+7*j))), i == j)
			wantIsomorphic(t, what+", complements", x.complement(), y.placed(places(int64(len(y)), uint32(j+9*i))).complement(), i == j)
		}
	}
}

// TestAreIsomorphicSmall holds all pairs of graphs of at most four vertices, and those of five with one of each kind, against all renumberings.
func TestAreIsomorphicSmall(t *testing.T) {
	kinds := map[int][]table{}
	for x := range smallTables {
		n := len(x)
		found := 0
		for _, y := range kinds[n] {
			want := false
			for range isomorphisms(x, y) {
				want = true
				found++
				break
			}
			wantIsomorphic(t, "small graphs", x, y, want)
		}
		for m := 1; m <= 5; m++ {
			if m != n && len(kinds[m]) > 0 {
				wantIsomorphic(t, "graphs of different sizes", x, kinds[m][0], false)
			}
		}
		if n <= 4 || found == 0 {
			kinds[n] = append(kinds[n], x)
		}
	}
	if len(kinds[4]) != 64 || len(kinds[5]) != 34 {
		t.Errorf("%d graphs of four vertices, and %d kinds of five", len(kinds[4]), len(kinds[5]))
	}
}

// TestAreIsomorphicSix sorts all graphs of six vertices: there are 156 kinds, and each has as many graphs as there are renumberings for each automorphism.
func TestAreIsomorphicSix(t *testing.T) {
	kinds := map[string][]impl.Graph{}
	met := map[string][]int64{}
	for choice := range uint(1) << 15 {
		x := orderedTable(6, choice)
		var degrees []int64
		for v := range x {
			degrees = append(degrees, x.degree(int64(v)))
		}
		slices.Sort(degrees)
		key := call("", degrees)
		i := slices.IndexFunc(kinds[key], func(h impl.Graph) bool {
			same, code := impl.AreIsomorphic(x.graph(), h)
			wantCode(t, "AreIsomorphic", code, impl.ErrNone)
			return same
		})
		if i < 0 {
			i = len(kinds[key])
			kinds[key], met[key] = append(kinds[key], x.graph()), append(met[key], 0)
		}
		met[key][i]++
	}
	number := 0
	for key, some := range kinds {
		for i, g := range some {
			number++
			count, code := impl.CountAutomorphisms(g)
			if count*met[key][i] != 720 || code != impl.ErrNone {
				t.Errorf("of %v there are %d graphs, and %d automorphisms, %d", g, met[key][i], count, code)
			}
		}
	}
	if number != 156 {
		t.Errorf("%d kinds of graphs of six vertices, want 156", number)
	}
}

// TestAreIsomorphicRegular has regular graphs of the same degree, which are not isomorphic and may not differ in their refined partitions.
func TestAreIsomorphicRegular(t *testing.T) {
	wantAllUnlike(t, "two triangles and a ring", severalParts(ring(3), 2), ring(6))
	wantAllUnlike(t, "a prism and two kinds", ringTable(3, 1), groups(2, 3), ring(6))
	wantAllUnlike(t, "the Petersen graph and a prism", ringTable(5, 1), ringTable(5, 2))
	wantAllUnlike(t, "the rook and Shrikhande", rook(4), shrikhande())
	wantAllUnlike(t, "the triangular graph and those of Chang", triangular()...)
	wantAllUnlike(t, "cubic graphs of 20 vertices", tableOf(named(t, "desargues")), tableOf(named(t, "dodecahedron")), ringTable(10, 1), severalParts(ringTable(5, 2), 2))
	wantAllUnlike(t, "knotted graphs", knotted(groups(4, 1), false), knotted(groups(4, 1), true))
	wantAllUnlike(t, "knotted graphs", knotted(groups(2, 3), false), knotted(groups(2, 3), true))
	wantAllUnlike(t, "knotted cubes", knotted(hamming(3, 2), false), knotted(hamming(3, 2), true))
	wantAllUnlike(t, "swollen graphs", swollen(rook(4), 3), swollen(shrikhande(), 3))
}

// TestAreIsomorphicParts has graphs with parts that differ in one alone, and with a vertex for all of them.
func TestAreIsomorphicParts(t *testing.T) {
	three, six, cube, wagner := ring(3), ring(6), hamming(3, 2), circulantTable(8, []int64{1, 4})
	lists := [][]table{
		{beside(severalParts(three, 10), severalParts(six, 5)), beside(severalParts(three, 12), severalParts(six, 4)), severalParts(three, 20)},
		{beside(severalParts(cube, 6), wagner), beside(severalParts(cube, 5), severalParts(wagner, 2)), severalParts(cube, 7)},
		{beside(severalParts(rook(4), 2), shrikhande()), beside(severalParts(shrikhande(), 2), rook(4)), severalParts(rook(4), 3)},
		{beside(three, three, newTable(3)), beside(six, newTable(3)), beside(three, six), newTable(9)},
		{beside(path(31, 1), path(31, 1)), beside(path(30, 1), path(32, 1)), path(62, 1)},
	}
	for _, some := range lists {
		wantAllUnlike(t, "parts", some...)
		var cones []table
		for _, x := range some {
			if len(x) < 62 {
				cones = append(cones, coneByTable(x))
			}
		}
		wantAllUnlike(t, "parts with a vertex for all", cones...)
	}
	triangles := triangular()
	wantAllUnlike(t, "two of the graphs of Chang", beside(triangles[0], triangles[1]), beside(triangles[2], triangles[3]), beside(triangles[0], triangles[2]))
}

// TestAreIsomorphicEdges has the cases that the document names.
func TestAreIsomorphicEdges(t *testing.T) {
	one := newTable(1)
	wantIsomorphic(t, "one vertex", one, one, true)
	wantIsomorphic(t, "one vertex and two", one, newTable(2), false)
	wantAllUnlike(t, "62 vertices", newTable(62), ring(62), path(62, 1), star(62), groups(2, 31), groups(31, 2), severalParts(groups(2, 1), 31))
	wantAllUnlike(t, "61 and 62 vertices", newTable(61), newTable(62), groups(61, 1), ring(61), beside(ring(61), one))
	for n := int64(1); n <= impl.MaxVertices; n++ {
		wantIsomorphic(t, "graphs with no edge", newTable(n), newTable(n), true)
		wantIsomorphic(t, "graphs with all edges", groups(n, 1), groups(n, 1), true)
		wantIsomorphic(t, "no edge and all", newTable(n), groups(n, 1), n == 1)
		wantIsomorphic(t, "one edge less", groups(n, 1), groups(n, 1).apart(0, n-1), n == 1)
		wantIsomorphic(t, "one edge less", groups(n, 1).apart(0, 1%n), groups(n, 1).apart(0, n-1), true)
	}
}

// areLikeRings tells what is known of ring graphs: that of n and k is that of n and l renumbered just if k and l are the same or add up to n, or if their product is 1 or n - 1 modulo n.
func areLikeRings(n int64, k int64, l int64) bool {
	return k == l || k+l == n || k*l%n == 1 || k*l%n == n-1
}

func TestAreIsomorphicRings(t *testing.T) {
	met := map[bool]int{}
	for _, n := range []int64{5, 6, 7, 8, 9, 10, 11, 12, 13, 15, 16, 17, 20, 24, 25, 31} {
		for k := int64(1); 2*k < n; k++ {
			for l := k; 2*l < n; l++ {
				met[areLikeRings(n, k, l)]++
				wantIsomorphic(t, "ring graphs", ringTable(n, k), ringTable(n, l).placed(places(2*n, uint32(k*l))), areLikeRings(n, k, l))
			}
		}
	}
	if met[true] < 100 || met[false] < 300 {
		t.Errorf("ring graphs that are isomorphic, and not: %v", met)
	}
}

// TestAreIsomorphicAfterChanges exchanges edges, so that degrees stay, and takes one edge in the place of another one.
func TestAreIsomorphicAfterChanges(t *testing.T) {
	for _, name := range names() {
		x := tableOf(named(t, name))
		edges := x.edges()
		wantIsomorphic(t, name, x, x.placed(places(int64(len(x)), 5)), true)
		a, b := edges[0], edges[len(edges)-1]
		less, other := x.apart(a[0], a[1]), x.apart(b[0], b[1])
		wantIsomorphic(t, name+" without an edge", x, less, false)
		// All edges are in one orbit, but for the edges of one of these graphs.
		wantIsomorphic(t, name+" without another edge", less, other, name != "mcgee" || areLedTo(x, a, b))
	}
}

// areLedTo reports whether an automorphism leads an edge to another one.
func areLedTo(x table, a []int64, b []int64) bool {
	for list := range isomorphisms(x, x) {
		v, w := list[a[0]], list[a[1]]
		if min(v, w) == b[0] && max(v, w) == b[1] {
			return true
		}
	}
	return false
}

// TestAreIsomorphicInvalid has a graph that is none at each place.
func TestAreIsomorphicInvalid(t *testing.T) {
	for name, g := range wideNotGraphs() {
		for _, h := range []impl.Graph{newTable(1).graph(), ring(62).graph(), named(t, "petersen"), {Size: 2, Rows: []int64{2, 1}}} {
			wantError(t, name+" first", impl.ErrInvalid, results(impl.AreIsomorphic(g, h))...)
			wantError(t, name+" second", impl.ErrInvalid, results(impl.AreIsomorphic(h, g))...)
		}
		for other, h := range wideNotGraphs() {
			wantError(t, name+" and "+other, impl.ErrInvalid, results(impl.AreIsomorphic(g, h))...)
		}
	}
}
