package tests

import (
	"slices"
	"testing"

	"loop.example/g01331/impl"
)

// productByPairs has the vertices v m + w as pairs, and joins those that are equal at one place and neighbours at the other.
func productByPairs(x table, y table) table {
	m := int64(len(y))
	return tableWhere(int64(len(x))*m, func(p int64, q int64) bool {
		return p/m == q/m && y[p%m][q%m] || p%m == q%m && x[p/m][q/m]
	})
}

// directByPairs joins the pairs that are neighbours at both places.
func directByPairs(x table, y table) table {
	m := int64(len(y))
	return tableWhere(int64(len(x))*m, func(p int64, q int64) bool { return x[p/m][q/m] && y[p%m][q%m] })
}

// coneByTable joins one vertex more with all.
func coneByTable(x table) table {
	n := int64(len(x))
	return tableWhere(n+1, func(v int64, w int64) bool { return w == n || x[v][w] })
}

// powerByDistances joins the vertices at the distances 1 to k.
func powerByDistances(distances [][]int64, k int64) table {
	return tableWhere(int64(len(distances)), func(v int64, w int64) bool {
		return distances[v][w] >= 1 && distances[v][w] <= k
	})
}

// wantProducts asks for both products of two graphs in both orders.
func wantProducts(t *testing.T, x table, y table) {
	t.Helper()
	wantProductsInOrder(t, x, y)
	wantProductsInOrder(t, y, x)
}

func wantProductsInOrder(t *testing.T, x table, y table) {
	t.Helper()
	g, h := x.graph(), y.graph()
	what := call("ProductOf", g, h)
	if len(x)*len(y) > impl.MaxVertices {
		wantError(t, what, impl.ErrLimit, results(impl.ProductOf(g, h))...)
		wantError(t, "direct "+what, impl.ErrLimit, results(impl.DirectProduct(g, h))...)
		return
	}
	product, code := impl.ProductOf(g, h)
	wantGraph(t, what, product, code, productByPairs(x, y).graph())
	direct, code := impl.DirectProduct(g, h)
	wantGraph(t, "direct "+what, direct, code, directByPairs(x, y).graph())
}

// fewVertices are all graphs of at most four vertices.
func fewVertices() []table {
	var list []table
	for x := range smallTables {
		if len(x) <= 4 {
			list = append(list, x)
		}
	}
	return list
}

// kindsOf are graphs of n vertices: without edges, with one, with all, a way, a star, and scattered ones with few and many edges.
func kindsOf(n int64) []table {
	list := []table{newTable(n), groups(n, 1), path(n, 1), star(n)}
	if pairs := int(n * (n - 1) / 2); pairs > 0 {
		list = append(list, scatteredTable(n, 1, uint32(n)), scatteredTable(n, (pairs+2)/3, 5), scatteredTable(n, 3*pairs/4, 6))
	}
	return list
}

func TestProductsOfFew(t *testing.T) {
	for _, x := range fewVertices() {
		for _, y := range fewVertices() {
			wantProductsInOrder(t, x, y)
		}
	}
}

// TestProducts has all pairs of sizes that may be, and the first ones beyond.
func TestProducts(t *testing.T) {
	for n := int64(1); n <= impl.MaxVertices; n++ {
		for m := n; m <= impl.MaxVertices && n*(m-1) <= impl.MaxVertices; m++ {
			for _, x := range kindsOf(n) {
				for _, y := range kindsOf(m) {
					wantProducts(t, x, y)
				}
			}
		}
	}
}

// TestProductLimits has just 62 vertices, and 63 and more.
func TestProductLimits(t *testing.T) {
	for _, c := range [][3]int64{{1, 62, 62}, {2, 31, 62}, {3, 21, 63}, {7, 9, 63}, {8, 8, 64}, {2, 32, 64}, {4, 16, 64}, {5, 13, 65}, {2, 62, 124}, {61, 61, 3721}, {62, 62, 3844}} {
		if c[0]*c[1] != c[2] {
			t.Fatalf("%v", c)
		}
		for _, x := range kindsOf(c[0]) {
			for _, y := range kindsOf(c[1]) {
				wantProducts(t, x, y)
			}
		}
	}
	g, code := impl.ProductOf(groups(31, 1).graph(), groups(2, 1).graph())
	if degree, _ := impl.RegularDegree(g); g.Size != 62 || degree != 31 || code != impl.ErrNone {
		t.Errorf("ProductOf has %d vertices and the degree %d, %d", g.Size, degree, code)
	}
	wantError(t, "ProductOf 63", impl.ErrLimit, results(impl.ProductOf(newTable(21).graph(), newTable(3).graph()))...)
	wantError(t, "DirectProduct 63", impl.ErrLimit, results(impl.DirectProduct(newTable(21).graph(), newTable(3).graph()))...)
}

func TestProductsByHand(t *testing.T) {
	for _, c := range []struct{ g, h, product, direct string }{
		{"1:", "1:", "1:", "1:"},
		{"1:", "3:0-1", "3:0-1", "3:"},
		{"3:0-1", "1:", "3:0-1", "3:"},
		{"2:", "3:0-2", "6:0-2,3-5", "6:"},
		{"3:0-2", "2:", "6:0-4,1-5", "6:"},
		{"2:0-1", "2:0-1", "4:0-1,0-2,1-3,2-3", "4:0-3,1-2"},
		{"2:0-1", "3:0-1,1-2", "6:0-1,0-3,1-2,1-4,2-5,3-4,4-5", "6:0-4,1-3,1-5,2-4"},
		{"3:0-1,1-2", "2:0-1", "6:0-1,0-2,1-3,2-3,2-4,3-5,4-5", "6:0-3,1-2,2-5,3-4"},
		{"2:0-1", "3:0-1,0-2,1-2", "6:0-1,0-2,0-3,1-2,1-4,2-5,3-4,3-5,4-5", "6:0-4,0-5,1-3,1-5,2-3,2-4"},
		{"3:0-1", "3:1-2", "9:0-3,1-2,1-4,2-5,4-5,7-8", "9:1-5,2-4"},
	} {
		product, code := impl.ProductOf(parsed(t, c.g), parsed(t, c.h))
		wantGraph(t, call("ProductOf", c.g, c.h), product, code, parsed(t, c.product))
		direct, code := impl.DirectProduct(parsed(t, c.g), parsed(t, c.h))
		wantGraph(t, call("DirectProduct", c.g, c.h), direct, code, parsed(t, c.direct))
	}
	edge := parsed(t, "2:0-1")
	square, _ := impl.ProductOf(edge, edge)
	cube, code := impl.ProductOf(square, edge)
	wantGraph(t, "ProductOf three edges", cube, code, named(t, "cube"))
	words, code := impl.ProductOf(groups(7, 1).graph(), groups(7, 1).graph())
	wantGraph(t, "ProductOf all edges of 7", words, code, hamming(2, 7).graph())
	ways, code := impl.DirectProduct(edge, named(t, "petersen"))
	double, _ := impl.DoubleGraph(named(t, "petersen"))
	wantGraph(t, "DirectProduct with an edge", ways, code, double)
}

// TestProductErrors gives what is no graph as one of two and as both, also beside a graph with which there would be too many vertices.
func TestProductErrors(t *testing.T) {
	for why, none := range wideNotGraphs() {
		for _, x := range []table{newTable(1), ring(3), newTable(62), groups(62, 1)} {
			g := x.graph()
			wantError(t, "ProductOf first: "+why, impl.ErrInvalid, results(impl.ProductOf(none, g))...)
			wantError(t, "ProductOf second: "+why, impl.ErrInvalid, results(impl.ProductOf(g, none))...)
			wantError(t, "DirectProduct first: "+why, impl.ErrInvalid, results(impl.DirectProduct(none, g))...)
			wantError(t, "DirectProduct second: "+why, impl.ErrInvalid, results(impl.DirectProduct(g, none))...)
		}
		wantError(t, "ProductOf both: "+why, impl.ErrInvalid, results(impl.ProductOf(none, none))...)
		wantError(t, "DirectProduct both: "+why, impl.ErrInvalid, results(impl.DirectProduct(none, none))...)
	}
}

func TestConeOf(t *testing.T) {
	for x := range moreTables {
		what := call("ConeOf", x.graph())
		if len(x) == impl.MaxVertices {
			wantError(t, what, impl.ErrLimit, results(impl.ConeOf(x.graph()))...)
			continue
		}
		cone, code := impl.ConeOf(x.graph())
		wantGraph(t, what, cone, code, coneByTable(x).graph())
	}
}

func TestConesByHand(t *testing.T) {
	making{name: "ConeOf", make: impl.ConeOf}.askTexts(t, map[string]string{
		"1:":        "2:0-1",
		"2:":        "3:0-2,1-2",
		"2:0-1":     "3:0-1,0-2,1-2",
		"3:0-2":     "4:0-2,0-3,1-3,2-3",
		"4:0-1,2-3": "5:0-1,0-4,1-4,2-3,2-4,3-4",
	})
	making{name: "ConeOf", make: impl.ConeOf}.askInvalid(t)
}

// TestConeLimit has graphs of all sizes, with all edges and without, so that cones of them have 62 vertices, and 63.
func TestConeLimit(t *testing.T) {
	for n := int64(1); n < impl.MaxVertices; n++ {
		cone, code := impl.ConeOf(groups(n, 1).graph())
		wantGraph(t, call("ConeOf all edges of", n), cone, code, groups(n+1, 1).graph())
		for _, x := range kindsOf(n) {
			cone, code := impl.ConeOf(x.graph())
			wantGraph(t, call("ConeOf", x.graph()), cone, code, coneByTable(x).graph())
		}
	}
	for _, x := range kindsOf(62) {
		wantError(t, call("ConeOf", x.graph()), impl.ErrLimit, results(impl.ConeOf(x.graph()))...)
	}
}

func wantPower(t *testing.T, x table, distances [][]int64, k int64) {
	t.Helper()
	power, code := impl.PowerOf(x.graph(), k)
	wantGraph(t, call("PowerOf", x.graph(), k), power, code, powerByDistances(distances, k).graph())
}

// TestPowerOf has all steps up to the greatest distance, the one behind, and the last one.
func TestPowerOf(t *testing.T) {
	for x := range allTables {
		distances := distancesBySums(x)
		greatest := slices.Max(slices.Concat(distances...))
		for k := int64(1); k <= min(greatest+1, 60); k++ {
			wantPower(t, x, distances, k)
		}
		wantPower(t, x, distances, 61)
	}
}

// TestPowersOfWays has ways of more vertices than k, of just as many, and of fewer.
func TestPowersOfWays(t *testing.T) {
	for n := int64(1); n <= impl.MaxVertices; n++ {
		for k := int64(1); k <= 61; k++ {
			power, code := impl.PowerOf(path(n, 1).graph(), k)
			near := tableWhere(n, func(v int64, w int64) bool { return w-v <= k })
			wantGraph(t, call("PowerOf a way", n, k), power, code, near.graph())
		}
	}
	power, code := impl.PowerOf(path(62, 1).graph(), 60)
	wantGraph(t, "PowerOf 62 and 60", power, code, groups(62, 1).without(0, 61).without(61, 0).graph())
	power, code = impl.PowerOf(path(62, 23).graph(), 61)
	wantGraph(t, "PowerOf 62 and 61", power, code, groups(62, 1).graph())
}

func TestPowersByHand(t *testing.T) {
	for _, c := range []struct {
		g    string
		k    int64
		want string
	}{
		{"1:", 1, "1:"}, {"1:", 61, "1:"}, {"62:", 61, "62:"}, {"2:0-1", 1, "2:0-1"}, {"2:0-1", 2, "2:0-1"},
		{"4:0-1,1-2,2-3", 1, "4:0-1,1-2,2-3"}, {"4:0-1,1-2,2-3", 2, "4:0-1,0-2,1-2,1-3,2-3"}, {"4:0-1,1-2,2-3", 3, "4:0-1,0-2,0-3,1-2,1-3,2-3"},
		{"4:0-1,2-3", 1, "4:0-1,2-3"}, {"4:0-1,2-3", 2, "4:0-1,2-3"}, {"4:0-1,2-3", 61, "4:0-1,2-3"},
		{"6:0-4,1-2,4-5", 1, "6:0-4,1-2,4-5"}, {"6:0-4,1-2,4-5", 2, "6:0-4,0-5,1-2,4-5"}, {"6:0-4,1-2,4-5", 61, "6:0-4,0-5,1-2,4-5"},
	} {
		power, code := impl.PowerOf(parsed(t, c.g), c.k)
		wantGraph(t, call("PowerOf", c.g, c.k), power, code, parsed(t, c.want))
	}
	near, code := impl.PowerOf(named(t, "petersen"), 2)
	wantGraph(t, "PowerOf petersen and 2", near, code, groups(10, 1).graph())
}

// TestPowerErrors also has numbers out of their range beside what is no graph, as ErrInvalid comes first.
func TestPowerErrors(t *testing.T) {
	for _, k := range beyond(61) {
		for _, x := range []table{newTable(1), ring(3), newTable(62), path(62, 1), groups(62, 1)} {
			wantError(t, call("PowerOf", len(x), k), impl.ErrRange, results(impl.PowerOf(x.graph(), k))...)
		}
	}
	for why, g := range wideNotGraphs() {
		for _, k := range append(beyond(61), 1, 2, 61) {
			wantError(t, "PowerOf: "+why, impl.ErrInvalid, results(impl.PowerOf(g, k))...)
		}
	}
}
