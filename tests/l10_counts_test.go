package tests

import (
	"testing"

	"loop.example/g01331/impl"
)

// factorial is that of a number up to 20.
func factorial(n int64) int64 {
	product := int64(1)
	for i := range n {
		product *= i + 1
	}
	return product
}

func power(base int64, exponent int64) int64 {
	product := int64(1)
	for range exponent {
		product *= base
	}
	return product
}

// wantCount asks for the automorphisms of a graph, of its complement and of both renumbered.
func wantCount(t *testing.T, what string, x table, want int64) {
	t.Helper()
	list := places(int64(len(x)), uint32(len(x)))
	for _, y := range []table{x, x.complement(), x.placed(list), x.complement().placed(list)} {
		got, code := impl.CountAutomorphisms(y.graph())
		if want > impl.MaxCount {
			wantError(t, "CountAutomorphisms of "+what, impl.ErrLimit, got, code)
		} else if got != want || code != impl.ErrNone {
			t.Errorf("CountAutomorphisms of %s, %v, = %d, %d, want %d", what, y.graph(), got, code, want)
		}
	}
}

// timesOrMore multiplies, and returns one number for all that are greater than MaxCount.
func timesOrMore(a int64, b int64) int64 {
	if a > impl.MaxCount/b {
		return impl.MaxCount + 1
	}
	return a * b
}

func factorialOrMore(n int64) int64 {
	product := int64(1)
	for i := range n {
		product = timesOrMore(product, i+1)
	}
	return product
}

func wantStabiliser(t *testing.T, what string, x table, v int64, want int64) {
	t.Helper()
	got, code := impl.StabiliserNumber(x.graph(), v)
	if want > impl.MaxCount {
		wantError(t, "StabiliserNumber of "+what, impl.ErrLimit, got, code)
	} else if got != want || code != impl.ErrNone {
		t.Errorf("StabiliserNumber of %s, %v, %d, = %d, %d, want %d", what, x.graph(), v, got, code, want)
	}
}

// knownCounts are the numbers of automorphisms of the graphs with names.
func knownCounts() map[string]int64 {
	return map[string]int64{"k4": 24, "k5": 120, "k33": 72, "cube": 48, "clebsch": 1920, "petersen": 120,
		"icosahedron": 120, "hoffmansingleton": 252000, "heawood": 336, "moebiuskantor": 96, "pappus": 216,
		"desargues": 240, "dodecahedron": 120, "mcgee": 32, "tuttecoxeter": 1440}
}

// TestCountsSmall counts all renumberings of the small graphs that keep them, and those that keep a vertex, too.
func TestCountsSmall(t *testing.T) {
	for x := range smallTables {
		count, fixed := int64(0), make([]int64, len(x))
		for list := range isomorphisms(x, x) {
			count++
			for v, w := range list {
				if int64(v) == w {
					fixed[v]++
				}
			}
		}
		wantCount(t, "a small graph", x, count)
		for v, want := range fixed {
			wantStabiliser(t, "a small graph", x, int64(v), want)
		}
	}
}

func TestCountsNamed(t *testing.T) {
	for name, want := range knownCounts() {
		x := tableOf(named(t, name))
		wantCount(t, name, x, want)
		if name == "mcgee" {
			// Eight vertices are in an orbit, and sixteen.
			continue
		}
		for v := range x {
			wantStabiliser(t, name, x, int64(v), want/int64(len(x)))
		}
	}
}

// TestCountsFamilies has graphs of which the numbers of automorphisms are known.
func TestCountsFamilies(t *testing.T) {
	for n := int64(1); n <= impl.MaxVertices; n++ {
		wantCount(t, "no edge", newTable(n), factorialOrMore(n))
		wantCount(t, "a way", path(n, 1), min(n, 2))
		if n >= 4 {
			wantCount(t, "a star", star(n), factorialOrMore(n-1))
			wantCount(t, "a ring", ring(n), 2*n)
		}
		for size := int64(2); n >= 2 && size*n <= impl.MaxVertices; size++ {
			want := factorialOrMore(n)
			for range n {
				want = timesOrMore(want, factorialOrMore(size))
			}
			wantCount(t, "groups", groups(n, size), want)
		}
	}
	for _, c := range [][2]int64{{1, 9}, {2, 3}, {2, 4}, {2, 7}, {3, 2}, {3, 3}, {4, 2}, {5, 2}} {
		wantCount(t, "words", hamming(int(c[0]), c[1]), power(factorial(c[1]), c[0])*factorial(c[0]))
	}
	for _, c := range [][2]int{{4, 1}, {5, 2}, {6, 2}, {7, 2}, {8, 2}, {11, 2}, {7, 3}, {8, 3}} {
		wantCount(t, "sets", johnson(c[0], c[1]), factorial(int64(c[0])))
	}
	wantCount(t, "sets of half of the numbers", johnson(6, 3), 2*factorial(6))
}

// ringCount tells what is known of ring graphs: but for seven, each has as many automorphisms as vertices, or twice as many if k times k is 1 or n - 1 modulo n.
func ringCount(n int64, k int64) int64 {
	special := map[[2]int64]int64{{4, 1}: 48, {5, 2}: 120, {8, 3}: 96, {10, 2}: 120, {10, 3}: 240, {12, 5}: 144, {24, 5}: 288}
	if count, ok := special[[2]int64{n, k}]; ok {
		return count
	}
	if k*k%n == 1 || k*k%n == n-1 {
		return 4 * n
	}
	return 2 * n
}

// TestCountsGeometries has the graphs of chapter 4, and others of which much is written.
func TestCountsGeometries(t *testing.T) {
	for n := int64(3); n <= 31; n++ {
		for k := int64(1); 2*k < n; k++ {
			if n <= 16 || n == 24 || n > 29 {
				wantCount(t, call("the ring graph", n, k), ringTable(n, k), ringCount(n, k))
			}
		}
	}
	for q, want := range map[int64]int64{2: 336, 3: 11232, 5: 744000} {
		plane, _ := impl.PlaneGraph(q)
		wantCount(t, call("the plane graph", q), tableOf(plane), want)
		wantStabiliser(t, call("the plane graph", q), tableOf(plane), plane.Size-1, want/plane.Size)
	}
	for _, q := range primes() {
		polarity, _ := impl.PolarityGraph(q)
		wantCount(t, call("the polarity graph", q), tableOf(polarity), q*(q*q-1))
	}
	for k := int64(2); k <= 4; k++ {
		odd, _ := impl.OddGraph(k)
		wantCount(t, call("the odd graph", k), tableOf(odd), factorial(2*k-1))
	}
	wantCount(t, "the rook", rook(4), 1152)
	wantCount(t, "Shrikhande", shrikhande(), 192)
	for i, x := range triangular() {
		wantCount(t, "the triangular graph and those of Chang", x, []int64{40320, 384, 96, 360}[i])
	}
	wantCount(t, "Folkman", folkman(), 3840)
	wantCount(t, "Holt", holt(), 54)
	for _, once := range []bool{false, true} {
		four := nearestFirst(knotted(groups(4, 1), once))
		count := int64(0)
		for range isomorphisms(four, four) {
			count++
		}
		wantCount(t, "knotted k4", four, count)
		wantCount(t, "knotted k33", knotted(groups(2, 3), once), 72*16)
		wantCount(t, "the knotted cube", knotted(hamming(3, 2), once), 48*32)
	}
}

// nearestFirst numbers the vertices of a connected graph by their distances from the first one, so that isomorphisms are found soon.
func nearestFirst(x table) table {
	distances, order := distancesBySums(x)[0], make([]int64, len(x))
	place := int64(0)
	for d := range int64(len(x)) {
		for v, distance := range distances {
			if distance == d {
				order[v] = place
				place++
			}
		}
	}
	return x.placed(order)
}

// folkman joins each pair of five numbers with both of two vertices for each of its numbers: from all edges it looks alike, but not from all vertices.
func folkman() table {
	x, pairs := newTable(20), ascendingLists(2, 5)
	for i, pair := range pairs {
		for _, number := range pair {
			x.join(int64(i), 10+2*number)
			x.join(int64(i), 11+2*number)
		}
	}
	return x
}

// holt has 27 vertices a, b for a below 9 and b below 3, joined with those of 4 a + 1 and 4 a - 1, b - 1: from all vertices and from all edges it looks alike, but no edge can be turned.
func holt() table {
	x := newTable(27)
	for a := range int64(9) {
		for b := range int64(3) {
			x.join(3*a+b, 3*((4*a+1)%9)+(b+2)%3)
			x.join(3*a+b, 3*((4*a+8)%9)+(b+2)%3)
		}
	}
	return x
}

// TestCountsParts has graphs with like and unlike parts.
func TestCountsParts(t *testing.T) {
	for copies := range int64(6) {
		want := factorial(copies + 1)
		for range copies + 1 {
			want = timesOrMore(want, 120)
		}
		wantCount(t, "Petersen graphs", severalParts(ringTable(5, 2), int(copies)+1), want)
		wantCount(t, "Petersen graphs with a vertex for all", coneByTable(severalParts(ringTable(5, 2), int(copies)+1)), want)
	}
	wantCount(t, "like and unlike parts", beside(rook(4), shrikhande(), rook(4)), 2*1152*1152*192)
	wantCount(t, "parts of two sizes", beside(severalParts(ring(3), 4), severalParts(ring(6), 3)), power(6, 4)*24*power(12, 3)*6)
	wantCount(t, "swollen Shrikhande", swollen(shrikhande(), 3), power(6, 16)*192)
	for first, one := range knownCounts() {
		for second, two := range knownCounts() {
			g, h := tableOf(named(t, first)), tableOf(named(t, second))
			if first < second && len(g)+len(h) <= impl.MaxVertices {
				wantCount(t, first+" and "+second, beside(g, h), one*two)
				wantStabiliser(t, first+" and "+second, beside(h, g), int64(len(h)), two*orbitShare(t, g, one))
			}
		}
	}
}

// orbitShare divides a number of automorphisms by those of the orbit of the first vertex.
func orbitShare(t *testing.T, x table, count int64) int64 {
	t.Helper()
	orbit, code := impl.OrbitOf(x.graph(), 0)
	wantCode(t, "OrbitOf", code, impl.ErrNone)
	return count / int64(len(orbit))
}

// TestCountsLimit has numbers near MaxCount, and greater ones with stabiliser numbers that are not. No graph of at most 62 vertices has just MaxCount automorphisms: 5 divides 62! fourteen times alone.
func TestCountsLimit(t *testing.T) {
	pair, five := groups(2, 1), groups(5, 1)
	below := beside(newTable(10), severalParts(pair, 2), severalParts(five, 2), ring(13), ring(23))
	wantCount(t, "a number just below MaxCount", below, 999946321920000)
	above := beside(newTable(12), ring(3), severalParts(ring(5), 3), ring(29))
	wantCount(t, "a number just above MaxCount", above, 1000155340800000)
	wantStabiliser(t, "a number just above MaxCount", above, 0, 1000155340800000/12)
	wantStabiliser(t, "a number just above MaxCount", above, 12, 1000155340800000/3)
	wantStabiliser(t, "a number just above MaxCount", above, 15, 1000155340800000/15)
	wantStabiliser(t, "a number just above MaxCount", above, 58, 1000155340800000/29)
	alone := beside(newTable(1), above)
	wantCount(t, "two vertices more", beside(pair, above), 2*1000155340800000)
	wantStabiliser(t, "one vertex more", coneByTable(alone), 60, 13*1000155340800000)
	for n := int64(16); n <= impl.MaxVertices; n++ {
		for _, x := range []table{newTable(n), groups(n, 1)} {
			wantCount(t, "all vertices alike", x, factorialOrMore(n))
			for _, v := range []int64{0, n / 2, n - 1} {
				wantStabiliser(t, "all vertices alike", x, v, factorialOrMore(n-1))
			}
		}
		wantStabiliser(t, "the middle of a star", star(n), 0, factorialOrMore(n-1))
		wantStabiliser(t, "a leaf of a star", star(n), n-1, factorialOrMore(n-2))
	}
}

// TestCountsRange has vertices that are none: this comes before ErrLimit.
func TestCountsRange(t *testing.T) {
	for _, x := range []table{newTable(1), newTable(62), groups(62, 1), ring(5), tableOf(named(t, "petersen"))} {
		for _, v := range outside(int64(len(x))) {
			wantError(t, call("StabiliserNumber", x.graph(), v), impl.ErrRange, results(impl.StabiliserNumber(x.graph(), v))...)
		}
	}
}

// TestCountsInvalid has graphs that are none: this comes before ErrRange.
func TestCountsInvalid(t *testing.T) {
	for name, g := range wideNotGraphs() {
		wantError(t, "CountAutomorphisms "+name, impl.ErrInvalid, results(impl.CountAutomorphisms(g))...)
		for _, v := range append(outside(g.Size%100), 0, 1, 61, 62) {
			wantError(t, "StabiliserNumber "+name, impl.ErrInvalid, results(impl.StabiliserNumber(g, v))...)
		}
	}
}
