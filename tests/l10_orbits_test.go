package tests

import (
	"slices"
	"testing"

	"loop.example/g01331/impl"
)

// imagesOf returns to where the lists lead some vertices, each once, in order.
func imagesOf(lists [][]int64, vertices ...int64) [][]int64 {
	var images [][]int64
	for _, list := range lists {
		var image []int64
		for _, v := range vertices {
			image = append(image, list[v])
		}
		images = append(images, image)
	}
	slices.SortFunc(images, slices.Compare)
	return slices.CompactFunc(images, slices.Equal)
}

func wantAlike(t *testing.T, what string, x table, vertices bool, arcs bool) {
	t.Helper()
	g := x.graph()
	if got, code := impl.LooksAlike(g); got != vertices || code != impl.ErrNone {
		t.Errorf("%s: LooksAlike(%v) = %v, %d, want %v", what, g, got, code, vertices)
	}
	if got, code := impl.LooksAlikeByArcs(g); got != arcs || code != impl.ErrNone {
		t.Errorf("%s: LooksAlikeByArcs(%v) = %v, %d, want %v", what, g, got, code, arcs)
	}
}

func wantOrbits(t *testing.T, x table, want ...[]int64) {
	t.Helper()
	orbits, code := impl.VertexOrbits(x.graph())
	wantLists(t, call("VertexOrbits", x.graph()), orbits, code, want)
	for _, list := range want {
		for _, v := range list {
			orbit, code := impl.OrbitOf(x.graph(), v)
			wantList(t, call("OrbitOf", x.graph(), v), orbit, code, list...)
		}
	}
}

func wantPairOrbit(t *testing.T, x table, a int64, b int64, want [][]int64) {
	t.Helper()
	pairs, code := impl.PairOrbit(x.graph(), a, b)
	wantLists(t, call("PairOrbit", x.graph(), a, b), pairs, code, want)
}

// wantOrbitsByTrial holds all orbits of a graph, those of pairs each step-th, against all its automorphisms.
func wantOrbitsByTrial(t *testing.T, x table, step int) {
	t.Helper()
	var lists [][]int64
	for list := range isomorphisms(x, x) {
		lists = append(lists, slices.Clone(list))
	}
	var orbits [][]int64
	for v := range x {
		var orbit []int64
		for _, image := range imagesOf(lists, int64(v)) {
			orbit = append(orbit, image[0])
		}
		if orbit[0] == int64(v) {
			orbits = append(orbits, orbit)
		}
	}
	wantOrbits(t, x, orbits...)
	arcs := x.arcs()
	one := len(arcs) > 0 && len(imagesOf(lists, arcs[0]...)) == len(arcs)
	wantAlike(t, "by trial", x, len(orbits) == 1, one)
	for i := 0; i < len(x)*len(x); i += step {
		if a, b := int64(i/len(x)), int64(i%len(x)); a != b {
			wantPairOrbit(t, x, a, b, imagesOf(lists, a, b))
		}
	}
}

func TestOrbitsSmall(t *testing.T) {
	for x := range smallTables {
		wantOrbitsByTrial(t, x, 1)
	}
}

// TestOrbitsMore has larger graphs of few automorphisms, renumbered, too.
func TestOrbitsMore(t *testing.T) {
	list := []table{hamming(3, 2), hamming(2, 3), hamming(2, 4), johnson(5, 2), johnson(6, 2), shrikhande(), holt(), knotted(groups(4, 1), true),
		severalParts(ring(3), 3), severalParts(ring(4), 3), beside(ring(3), ring(4), ring(5)), coneByTable(severalParts(ring(5), 2)),
		swollen(ring(5), 2), coneByTable(coneByTable(ring(6))), groups(3, 3), beside(groups(2, 3), newTable(2))}
	for name, count := range knownCounts() {
		if count <= 1000 {
			list = append(list, tableOf(named(t, name)))
		}
	}
	for n := int64(3); n <= 9; n++ {
		for k := int64(1); 2*k < n; k++ {
			list = append(list, ringTable(n, k), circulantTable(n+4, []int64{1, k + 1}))
		}
	}
	for edges := 3; edges <= 20; edges++ {
		list = append(list, scatteredTable(8, edges, uint32(edges)), scatteredTable(9, edges, uint32(edges)))
	}
	for _, x := range list {
		if connected, _ := impl.IsConnected(x.graph()); connected {
			x = nearestFirst(x)
		}
		wantOrbitsByTrial(t, x, 1+len(x)*len(x)/30)
		wantOrbitsByTrial(t, x.complement(), 1+len(x)*len(x)/40)
		wantOrbitsRenumbered(t, x)
	}
}

// wantOrbitsRenumbered asks that a renumbering leads orbits to orbits.
func wantOrbitsRenumbered(t *testing.T, x table) {
	t.Helper()
	list := places(int64(len(x)), 3)
	there := x.placed(list)
	for v := range int64(len(x)) {
		var want []int64
		orbit, _ := impl.OrbitOf(x.graph(), v)
		for _, w := range orbit {
			want = append(want, list[w])
		}
		slices.Sort(want)
		got, code := impl.OrbitOf(there.graph(), list[v])
		wantList(t, call("OrbitOf", there.graph(), list[v]), got, code, want...)
	}
}

// TestOrbitsByHand has the cases that the document names.
func TestOrbitsByHand(t *testing.T) {
	wantOrbits(t, newTable(1), []int64{0})
	wantAlike(t, "one vertex", newTable(1), true, false)
	wantOrbits(t, path(3, 1), []int64{0, 2}, []int64{1})
	wantPairOrbit(t, path(3, 1), 0, 1, [][]int64{{0, 1}, {2, 1}})
	wantPairOrbit(t, path(3, 1), 1, 2, [][]int64{{1, 0}, {1, 2}})
	wantPairOrbit(t, path(3, 1), 2, 0, [][]int64{{0, 2}, {2, 0}})
	wantOrbits(t, beside(path(2, 1), newTable(1), path(2, 1), newTable(1)), []int64{0, 1, 3, 4}, []int64{2, 5})
	wantPairOrbit(t, beside(path(2, 1), path(2, 1)), 3, 0, [][]int64{{0, 2}, {0, 3}, {1, 2}, {1, 3}, {2, 0}, {2, 1}, {3, 0}, {3, 1}})
	// Two ways of two lengths, turned over each for itself.
	wantOrbits(t, beside(path(4, 1), path(3, 1)), []int64{0, 3}, []int64{1, 2}, []int64{4, 6}, []int64{5})
	// All parts of one vertex, and in a graph with all edges, lead to each other.
	all := turn(62, 0)
	for _, x := range []table{newTable(62), groups(62, 1), ring(62), groups(31, 2), severalParts(ring(31), 2)} {
		wantOrbits(t, x, all)
	}
	wantOrbits(t, star(62), []int64{0}, all[1:])
	wantOrbits(t, beside(path(61, 1), newTable(1)), foldedWay(61, 61)...)
	wantOrbits(t, path(62, 1), foldedWay(62)...)
}

// foldedWay has the vertices of a way that lead to each other when it is turned over, and others, each alone.
func foldedWay(n int64, others ...int64) [][]int64 {
	var list [][]int64
	for v := int64(0); v <= n-1-v; v++ {
		list = append(list, slices.Compact([]int64{v, n - 1 - v}))
	}
	for _, v := range others {
		list = append(list, []int64{v})
	}
	return list
}

// TestPairOrbitsWide has graphs of 62 vertices: all pairs are in one orbit, or those at the same distance.
func TestPairOrbitsWide(t *testing.T) {
	all := groups(62, 1).arcs()
	for _, x := range []table{newTable(62), groups(62, 1)} {
		wantPairOrbit(t, x, 0, 1, all)
		wantPairOrbit(t, x, 61, 60, all)
		wantPairOrbit(t, x, 30, 0, all)
	}
	for _, x := range []table{ring(62), severalParts(groups(2, 1), 31), tableOf(named(t, "hoffmansingleton")), ringTable(24, 5), johnson(11, 2)} {
		distances := distancesBySums(x)
		for _, b := range []int64{1, 2, 7, 20, 31, 47} {
			want := pointed(int64(len(x)), func(v int64, w int64) bool { return v != w && distances[v][w] == distances[0][b] }).arcs()
			if len(x) == 48 && distances[0][b] != 1 {
				// At greater distances from a vertex there may be more orbits: each one has pairs at this distance alone.
				wantWithin(t, x, b, want)
				continue
			}
			wantPairOrbit(t, x, 0, b, want)
			wantPairOrbit(t, x, b, 0, want)
		}
	}
}

func wantWithin(t *testing.T, x table, b int64, some [][]int64) {
	t.Helper()
	pairs, code := impl.PairOrbit(x.graph(), 0, b)
	wantCode(t, "PairOrbit", code, impl.ErrNone)
	for _, pair := range pairs {
		if !slices.ContainsFunc(some, func(other []int64) bool { return slices.Equal(pair, other) }) {
			t.Errorf("PairOrbit(%v, 0, %d) has %v", x.graph(), b, pair)
		}
	}
	if len(pairs)%len(x) != 0 {
		t.Errorf("PairOrbit(%v, 0, %d) has %d pairs", x.graph(), b, len(pairs))
	}
}

// TestLooksAlike has graphs that look alike from all vertices, from all arcs, from both and from neither.
func TestLooksAlike(t *testing.T) {
	for n := int64(1); n <= impl.MaxVertices; n++ {
		wantAlike(t, "no edge", newTable(n), true, false)
		wantAlike(t, "all edges", groups(n, 1), true, n > 1)
		wantAlike(t, "a way", path(n, 1), n <= 2, n == 2)
		wantAlike(t, "a star", star(n), n <= 2, n == 2)
		if n >= 3 {
			wantAlike(t, "a ring", ring(n), true, true)
			wantAlike(t, "a ring without an edge", ring(n).apart(0, 1), false, false)
		}
		if n > 1 && n < impl.MaxVertices {
			wantAlike(t, "all edges, and one vertex more", beside(groups(n, 1), newTable(1)), false, true)
		}
		if n >= 3 && 2*n <= impl.MaxVertices {
			wantAlike(t, "a prism", ringTable(n, 1), true, n == 4)
			wantAlike(t, "parts", severalParts(groups(n, 1), int(62/n)), true, true)
			wantAlike(t, "two groups", groups(2, n), true, true)
		}
	}
	unlike := tableWhere(62, func(v int64, w int64) bool { return v < 30 && w >= 30 })
	wantAlike(t, "two groups of different sizes", unlike, false, false)
	wantAlike(t, "Shrikhande", shrikhande(), true, true)
	wantAlike(t, "Folkman", folkman(), false, false)
	wantAlike(t, "Holt", holt(), true, false)
	wantAlike(t, "like parts and unlike ones", beside(rook(4), shrikhande()), false, false)
	for i, x := range triangular() {
		wantAlike(t, "the triangular graph and those of Chang", x, i == 0, i == 0)
	}
	for _, name := range names() {
		wantAlike(t, name, tableOf(named(t, name)), name != "mcgee", name != "mcgee")
	}
}

// TestLooksAlikeRings asks what is known of ring graphs: they look alike from all vertices if k times k is 1 or n - 1 modulo n, and one more does; from all arcs seven do.
func TestLooksAlikeRings(t *testing.T) {
	for n := int64(3); n <= 31; n++ {
		for k := int64(1); 2*k < n; k++ {
			vertices := k*k%n == 1 || k*k%n == n-1 || n == 10 && k == 2
			arcs := slices.Contains([][2]int64{{4, 1}, {5, 2}, {8, 3}, {10, 2}, {10, 3}, {12, 5}, {24, 5}}, [2]int64{n, k})
			wantAlike(t, call("ring graph", n, k), ringTable(n, k), vertices, arcs)
		}
	}
}

// TestHoltTurned asks that no edge of the graph of Holt can be turned over, and that all edges are in one orbit.
func TestHoltTurned(t *testing.T) {
	x := holt()
	edge := x.edges()[0]
	there, one := impl.PairOrbit(x.graph(), edge[0], edge[1])
	back, two := impl.PairOrbit(x.graph(), edge[1], edge[0])
	both := append(slices.Clone(there), back...)
	slices.SortFunc(both, slices.Compare)
	wantCode(t, "PairOrbit", two, impl.ErrNone)
	if len(there) != 54 || len(back) != 54 {
		t.Errorf("there are %d and %d pairs", len(there), len(back))
	}
	wantLists(t, "both orbits together", both, one, x.arcs())
}

// TestOrbitsRange has vertices that are none, and a vertex as a pair, in the order of the errors.
func TestOrbitsRange(t *testing.T) {
	for _, x := range []table{newTable(1), ring(3), newTable(62), groups(62, 1), tableOf(named(t, "petersen"))} {
		g, n := x.graph(), int64(len(x))
		for _, v := range outside(n) {
			wantError(t, call("OrbitOf", g, v), impl.ErrRange, results(impl.OrbitOf(g, v))...)
			wantError(t, call("PairOrbit", g, v, 0), impl.ErrRange, results(impl.PairOrbit(g, v, 0))...)
			wantError(t, call("PairOrbit", g, n-1, v), impl.ErrRange, results(impl.PairOrbit(g, n-1, v))...)
			wantError(t, call("PairOrbit", g, v, v), impl.ErrRange, results(impl.PairOrbit(g, v, v))...)
		}
		for v := range n {
			wantError(t, call("PairOrbit", g, v, v), impl.ErrState, results(impl.PairOrbit(g, v, v))...)
		}
	}
}

// TestOrbitsInvalid has graphs that are none: this comes before all other errors.
func TestOrbitsInvalid(t *testing.T) {
	for name, g := range wideNotGraphs() {
		wantError(t, "VertexOrbits "+name, impl.ErrInvalid, results(impl.VertexOrbits(g))...)
		wantError(t, "LooksAlike "+name, impl.ErrInvalid, results(impl.LooksAlike(g))...)
		wantError(t, "LooksAlikeByArcs "+name, impl.ErrInvalid, results(impl.LooksAlikeByArcs(g))...)
		for _, v := range append(outside(g.Size%100), 0, 1, 61) {
			wantError(t, "OrbitOf "+name, impl.ErrInvalid, results(impl.OrbitOf(g, v))...)
			wantError(t, "PairOrbit "+name, impl.ErrInvalid, results(impl.PairOrbit(g, v, 0))...)
			wantError(t, "PairOrbit "+name, impl.ErrInvalid, results(impl.PairOrbit(g, 1, v))...)
			wantError(t, "PairOrbit "+name, impl.ErrInvalid, results(impl.PairOrbit(g, v, v))...)
		}
	}
}
