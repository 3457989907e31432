package tests

import (
	"runtime"
	"slices"
	"testing"
	"time"

	"loop.example/g01331/impl"
)

// degreesOf returns the degrees of a graph, and asks that it is one.
func degreesOf(t *testing.T, what string, g impl.Graph) []int64 {
	t.Helper()
	degrees, code := impl.DegreesOf(g)
	wantCode(t, "DegreesOf "+what, code, impl.ErrNone)
	return degrees
}

// someProducts yields pairs of graphs that have products.
func someProducts(yield func(impl.Graph, impl.Graph) bool) {
	for n := int64(1); n <= impl.MaxVertices; n++ {
		for m := int64(1); n*m <= impl.MaxVertices; m++ {
			for _, x := range kindsOf(n) {
				for _, y := range kindsOf(m) {
					if !yield(x.graph(), y.graph()) {
						return
					}
				}
			}
		}
	}
}

// TestPromise9Degrees asks that degrees of products add up, and that those of direct products are products.
func TestPromise9Degrees(t *testing.T) {
	met := 0
	for g, h := range someProducts {
		product, one := impl.ProductOf(g, h)
		direct, two := impl.DirectProduct(g, h)
		if one != impl.ErrNone || two != impl.ErrNone || product.Size != g.Size*h.Size || direct.Size != product.Size {
			t.Errorf("the products of %v and %v are %v, %d and %v, %d", g, h, product, one, direct, two)
		}
		met++
		var sums, times []int64
		for _, k := range degreesOf(t, "a first graph", g) {
			for _, l := range degreesOf(t, "a second graph", h) {
				sums, times = append(sums, k+l), append(times, k*l)
			}
		}
		wantList(t, "the degrees of the product", degreesOf(t, "a product", product), one, sums...)
		wantList(t, "the degrees of the direct product", degreesOf(t, "a direct product", direct), two, times...)
	}
	if met < 5000 {
		t.Errorf("%d products alone", met)
	}
}

// TestPromise9Orders asks that products do not depend on the order but for the numbers of the vertices.
func TestPromise9Orders(t *testing.T) {
	for g, h := range someProducts {
		var places []int64
		for v := range g.Size {
			for w := range h.Size {
				places = append(places, w*g.Size+v)
			}
		}
		for _, multiply := range []func(impl.Graph, impl.Graph) (impl.Graph, int64){impl.ProductOf, impl.DirectProduct} {
			there, one := multiply(g, h)
			back, two := multiply(h, g)
			wantCode(t, "a product", two, impl.ErrNone)
			renumbered, three := impl.RenumberGraph(there, places)
			wantCode(t, "RenumberGraph", three, impl.ErrNone)
			wantGraph(t, call("a product in both orders", g, h), renumbered, one, back)
		}
	}
}

// TestPromise9Products asks that three factors may be multiplied two by two from both sides, and that products with one vertex are the graph, or have no edge.
func TestPromise9Products(t *testing.T) {
	for x := range smallTables {
		g := x.graph()
		for _, multiply := range []func(impl.Graph, impl.Graph) (impl.Graph, int64){impl.ProductOf, impl.DirectProduct} {
			for _, text := range []string{"1:", "2:0-1", "3:0-1", "3:0-1,1-2"} {
				h := parsed(t, text)
				left, _ := multiply(g, h)
				left, code := multiply(left, parsed(t, "4:0-3,1-3"))
				right, _ := multiply(h, parsed(t, "4:0-3,1-3"))
				right, other := multiply(g, right)
				wantCode(t, "a product of three", other, impl.ErrNone)
				wantGraph(t, call("a product of three", g, h), left, code, right)
			}
		}
		double, _ := impl.DoubleGraph(g)
		direct, code := impl.DirectProduct(parsed(t, "2:0-1"), g)
		wantGraph(t, "DirectProduct with an edge", direct, code, double)
		same, code := impl.ProductOf(g, parsed(t, "1:"))
		wantGraph(t, "ProductOf with one vertex", same, code, g)
		none, code := impl.DirectProduct(g, parsed(t, "1:"))
		wantGraph(t, "DirectProduct with one vertex", none, code, newTable(g.Size).graph())
	}
}

// TestPromise9Exchanged asks that edges exchanged keep all degrees, and that they can be exchanged back.
func TestPromise9Exchanged(t *testing.T) {
	met := 0
	for x := range sampleTables {
		g, edges := x.graph(), x.edges()
		for i := 0; i < len(edges); i += 1 + len(edges)/12 {
			for j := 0; j < len(edges); j += 1 + len(edges)/10 {
				a, b, c, d := edges[i][0], edges[i][1], edges[j][0], edges[j][1]
				for _, v := range [][4]int64{{a, b, c, d}, {b, a, c, d}, {a, b, d, c}, {b, a, d, c}} {
					exchanged, code := impl.ExchangeEdges(g, v[0], v[1], v[2], v[3])
					if code != impl.ErrNone {
						continue
					}
					met++
					wantList(t, call("the degrees with edges exchanged", g, v), degreesOf(t, "what is exchanged", exchanged), code, degreesOf(t, "a graph", g)...)
					back, code := impl.ExchangeEdges(exchanged, v[0], v[2], v[1], v[3])
					wantGraph(t, call("edges exchanged there and back", g, v), back, code, g)
				}
			}
		}
	}
	if met < 5000 {
		t.Errorf("%d times alone edges are exchanged", met)
	}
}

// TestPromise9Lines asks that line graphs have as many vertices as edges, and inflated graphs twice as many, with degrees as they follow.
func TestPromise9Lines(t *testing.T) {
	for x := range moreTables {
		g, edges := x.graph(), x.edges()
		degrees := degreesOf(t, "a graph", g)
		if line, code := impl.LineGraph(g); code == impl.ErrNone {
			var want []int64
			for _, e := range edges {
				want = append(want, degrees[e[0]]+degrees[e[1]]-2)
			}
			if line.Size != int64(len(edges)) {
				t.Errorf("the line graph of %v has %d vertices", g, line.Size)
			}
			wantList(t, call("the degrees of LineGraph", g), degreesOf(t, "a line graph", line), code, want...)
		}
		if inflated, code := impl.InflateGraph(g); code == impl.ErrNone {
			var want []int64
			for _, k := range degrees {
				want = append(want, slices.Repeat([]int64{k}, int(k))...)
			}
			if inflated.Size != 2*int64(len(edges)) {
				t.Errorf("%v inflated has %d vertices", g, inflated.Size)
			}
			wantList(t, call("the degrees of InflateGraph", g), degreesOf(t, "an inflated graph", inflated), code, want...)
		}
	}
}

// TestPromise9Subdivided asks that subdivided graphs have ways and cycles of twice the length, and that their line graphs are the inflated graphs.
func TestPromise9Subdivided(t *testing.T) {
	met := 0
	for x := range moreTables {
		g := x.graph()
		subdivided, code := impl.SubdivideGraph(g)
		if code != impl.ErrNone {
			continue
		}
		want := degreesOf(t, "a graph", g)
		want = append(want, slices.Repeat([]int64{2}, len(x.edges()))...)
		wantList(t, "the degrees of SubdivideGraph", degreesOf(t, "a subdivided graph", subdivided), code, want...)
		for v, distances := range distancesBySums(x) {
			longer, code := impl.DistancesFrom(subdivided, int64(v))
			wantCode(t, "DistancesFrom", code, impl.ErrNone)
			for w, distance := range distances {
				if longer[w] != max(2*distance, -1) {
					t.Errorf("in %v subdivided the distance of %d and %d is %d, not twice %d", g, v, w, longer[w], distance)
				}
			}
		}
		girth, one := impl.GirthOf(g)
		longer, two := impl.GirthOf(subdivided)
		if bipartite, _ := impl.IsBipartite(subdivided); longer != 2*girth || one != two || !bipartite {
			t.Errorf("%v has the girth %d, %d, subdivided %d, %d, and is bipartite then: %v", g, girth, one, longer, two, bipartite)
		}
		line, one := impl.LineGraph(subdivided)
		inflated, two := impl.InflateGraph(g)
		if one == impl.ErrNone && two == impl.ErrNone {
			wantGraph(t, "the line graph of a subdivided graph", line, one, inflated)
			met++
		}
	}
	if met < 1000 {
		t.Errorf("%d subdivided graphs alone have line graphs", met)
	}
}

// TestPromise9Powers asks that powers have the graphs at the distances up to k together, and that powers of powers are powers.
func TestPromise9Powers(t *testing.T) {
	for x := range sampleTables {
		g := x.graph()
		once, code := impl.PowerOf(g, 1)
		wantGraph(t, "PowerOf 1", once, code, g)
		rows := make([]int64, g.Size)
		for k := int64(1); k <= 5; k++ {
			at, code := impl.GraphAt(g, k)
			wantCode(t, "GraphAt", code, impl.ErrNone)
			for v := range rows {
				rows[v] += at.Rows[v]
			}
			power, code := impl.PowerOf(g, k)
			wantGraph(t, call("PowerOf", g, k), power, code, impl.Graph{Size: g.Size, Rows: rows})
			for l := int64(1); l <= 4; l++ {
				twice, _ := impl.PowerOf(power, l)
				direct, code := impl.PowerOf(g, k*l)
				wantGraph(t, call("PowerOf of PowerOf", g, k, l), twice, code, direct)
			}
		}
		last, code := impl.PowerOf(g, 61)
		parts, _ := impl.PartsOf(g)
		for _, part := range parts {
			whole, _ := impl.PartOn(last, part)
			wantGraph(t, call("a part of PowerOf 61", g), whole, code, groups(int64(len(part)), 1).graph())
		}
	}
}

// TestPromise9Taken asks that a cone without its last vertex is the graph, that taking a vertex out leaves the part on the others, and how many edges contracting an edge leaves.
func TestPromise9Taken(t *testing.T) {
	for x := range sampleTables {
		g, edges := x.graph(), x.edges()
		if cone, code := impl.ConeOf(g); code == impl.ErrNone {
			back, code := impl.TakeVertex(cone, g.Size)
			wantGraph(t, "a cone without its last vertex", back, code, g)
		}
		for v := range g.Size {
			others := slices.Delete(turn(g.Size, 0), int(v), int(v)+1)
			less, code := impl.TakeVertex(g, v)
			part, other := impl.PartOn(g, others)
			if (code == impl.ErrNone) != (other == impl.ErrNone) || (code == impl.ErrLimit) != (g.Size == 1) {
				t.Errorf("TakeVertex(%v, %d): %d, %d", g, v, code, other)
			} else if code == impl.ErrNone {
				wantGraph(t, call("TakeVertex", g, v), less, code, part)
			}
		}
		for i := 0; i < len(edges); i += 1 + len(edges)/8 {
			a, b := edges[i][0], edges[i][1]
			common := 0
			for v := range x {
				if x[a][v] && x[b][v] {
					common++
				}
			}
			one, code := impl.ContractEdge(g, a, b)
			left, _ := impl.EdgesOf(one)
			if one.Size != g.Size-1 || len(left) != len(edges)-1-common || code != impl.ErrNone {
				t.Errorf("ContractEdge(%v, %d, %d) = %v, %d", g, a, b, one, code)
			}
			whole, _ := impl.PartsOf(g)
			parts, _ := impl.PartsOf(one)
			if len(whole) != len(parts) {
				t.Errorf("%v has %d parts, and %d when contracted", g, len(whole), len(parts))
			}
		}
	}
}

// makings are all functions of chapter 9, with numbers for which they answer for a square with a tail.
func makings() map[string]func(g impl.Graph, h impl.Graph) (impl.Graph, int64) {
	type graph = impl.Graph
	return map[string]func(g graph, h graph) (graph, int64){
		"LineGraph":      func(g graph, _ graph) (graph, int64) { return impl.LineGraph(g) },
		"SubdivideGraph": func(g graph, _ graph) (graph, int64) { return impl.SubdivideGraph(g) },
		"ProductOf":      impl.ProductOf,
		"DirectProduct":  impl.DirectProduct,
		"InflateGraph":   func(g graph, _ graph) (graph, int64) { return impl.InflateGraph(g) },
		"ConeOf":         func(g graph, _ graph) (graph, int64) { return impl.ConeOf(g) },
		"PowerOf 1":      func(g graph, _ graph) (graph, int64) { return impl.PowerOf(g, 1) },
		"PowerOf 2":      func(g graph, _ graph) (graph, int64) { return impl.PowerOf(g, 2) },
		"ExchangeEdges":  func(g graph, _ graph) (graph, int64) { return impl.ExchangeEdges(g, 0, 3, 2, 1) },
		"ContractEdge":   func(g graph, _ graph) (graph, int64) { return impl.ContractEdge(g, 4, 3) },
		"TakeVertex":     func(g graph, _ graph) (graph, int64) { return impl.TakeVertex(g, 2) },
	}
}

// makingTexts are the answers of makings for a square with a tail and an edge.
func makingTexts() map[string]string {
	return map[string]string{
		"LineGraph":      "5:0-1,0-2,1-3,1-4,2-3,3-4",
		"SubdivideGraph": "10:0-5,0-6,1-5,1-7,2-7,2-8,3-6,3-8,3-9,4-9",
		"ProductOf":      "10:0-1,0-2,0-6,1-3,1-7,2-3,2-4,3-5,4-5,4-6,5-7,6-7,6-8,7-9,8-9",
		"DirectProduct":  "10:0-3,0-7,1-2,1-6,2-5,3-4,4-7,5-6,6-9,7-8",
		"InflateGraph":   "10:0-1,0-2,1-6,2-3,3-4,4-5,5-7,6-7,6-8,7-8,8-9",
		"ConeOf":         "6:0-1,0-3,0-5,1-2,1-5,2-3,2-5,3-4,3-5,4-5",
		"PowerOf 1":      "5:0-1,0-3,1-2,2-3,3-4",
		"PowerOf 2":      "5:0-1,0-2,0-3,0-4,1-2,1-3,2-3,2-4,3-4",
		"ExchangeEdges":  "5:0-1,0-2,1-3,2-3,3-4",
		"ContractEdge":   "4:0-1,0-3,1-2,2-3",
		"TakeVertex":     "4:0-1,0-2,2-3",
	}
}

// TestAnswersOwnTheirMemory9 writes over the answers of chapter 9, asks again, and looks at the arguments and what lies behind them.
func TestAnswersOwnTheirMemory9(t *testing.T) {
	rows, edgeRows := parsed(t, "5:0-1,0-3,1-2,2-3,3-4").Rows, []int64{2, 1}
	g, h := impl.Graph{Size: 5, Rows: guarded(rows)}, impl.Graph{Size: 2, Rows: guarded(edgeRows)}
	want := makingTexts()
	for name, ask := range makings() {
		for range 2 {
			got, code := ask(g, h)
			wantGraph(t, name, got, code, parsed(t, want[name]))
			spoil(got.Rows)
			wantGuarded(t, name, g.Rows, rows)
			wantGuarded(t, name, h.Rows, edgeRows)
		}
	}
	// One vertex more or none may leave the rows as they are: these answers are not the arguments, either.
	one := impl.Graph{Size: 1, Rows: []int64{0}}
	for name, ask := range map[string]func() (impl.Graph, int64){
		"ProductOf with one":     func() (impl.Graph, int64) { return impl.ProductOf(g, one) },
		"ProductOf of one":       func() (impl.Graph, int64) { return impl.ProductOf(one, g) },
		"ProductOf itself":       func() (impl.Graph, int64) { return impl.ProductOf(g, g) },
		"DirectProduct itself":   func() (impl.Graph, int64) { return impl.DirectProduct(g, g) },
		"SubdivideGraph of one":  func() (impl.Graph, int64) { return impl.SubdivideGraph(one) },
		"PowerOf one":            func() (impl.Graph, int64) { return impl.PowerOf(one, 61) },
		"ExchangeEdges, refused": func() (impl.Graph, int64) { return impl.ExchangeEdges(g, 0, 1, 2, 3) },
		"ContractEdge, refused":  func() (impl.Graph, int64) { return impl.ContractEdge(g, 0, 4) },
	} {
		got, _ := ask()
		spoil(got.Rows)
		wantGuarded(t, name, g.Rows, rows)
		wantList(t, name, one.Rows, impl.ErrNone, 0)
	}
}

// TestChapter9AtOnce asks from many goroutines at once: the answers are those of one.
func TestChapter9AtOnce(t *testing.T) {
	g, h := parsed(t, "5:0-1,0-3,1-2,2-3,3-4"), parsed(t, "2:0-1")
	want := makingTexts()
	answers := make(chan string)
	for range 20 {
		for name, ask := range makings() {
			go func() {
				got, _ := ask(g, h)
				text, _ := impl.GraphText(got)
				answers <- name + " " + text
			}()
		}
	}
	met := map[string]int{}
	for range 20 * len(want) {
		met[<-answers]++
	}
	for name, text := range want {
		if met[name+" "+text] != 20 {
			t.Errorf("%s is not always %s: %v", name, text, met)
		}
	}
}

// TestChapter9Ends asks that no goroutine is left when the answers are there, those with errors, too.
func TestChapter9Ends(t *testing.T) {
	before := runtime.NumGoroutine()
	all, wide := groups(62, 1).graph(), newTable(62).graph()
	for range 100 {
		for _, ask := range makings() {
			ask(all, wide)
			ask(wide, all)
			ask(ring(31).graph(), groups(2, 1).graph())
			ask(impl.Graph{}, all)
		}
	}
	for range 2000 {
		if runtime.NumGoroutine() <= before {
			return
		}
		time.Sleep(time.Millisecond)
	}
	t.Errorf("there were %d goroutines, and there are %d", before, runtime.NumGoroutine())
}
