package tests

import (
	"slices"
	"testing"

	"loop.example/g01331/impl"
)

// TestPromise4Polarity asks for q + 1 absolute points, which are those that have q neighbours, where all others have q + 1.
func TestPromise4Polarity(t *testing.T) {
	for _, q := range primes() {
		absolute, code := impl.AbsolutePoints(q)
		wantCode(t, "AbsolutePoints", code, impl.ErrNone)
		if int64(len(absolute)) != q+1 {
			t.Errorf("there are %d absolute points of %d", len(absolute), q)
		}
		g, code := impl.PolarityGraph(q)
		wantCode(t, "PolarityGraph", code, impl.ErrNone)
		degrees, code := impl.DegreesOf(g)
		wantCode(t, "DegreesOf", code, impl.ErrNone)
		var fewer []int64
		for v, k := range degrees {
			if k == q {
				fewer = append(fewer, int64(v))
			} else if k != q+1 {
				t.Errorf("the point %d of %d has %d neighbours", v, q, k)
			}
		}
		wantList(t, call("AbsolutePoints", q), absolute, impl.ErrNone, fewer...)
	}
}

// TestPromise4Rings asks of all ring graphs that they are cubic.
func TestPromise4Rings(t *testing.T) {
	met := 0
	for n := int64(3); n <= 31; n++ {
		for k := int64(1); k < n; k++ {
			g, code := impl.RingGraph(n, k)
			if 2*k == n {
				wantError(t, call("RingGraph", n, k), impl.ErrRange, g, code)
				continue
			}
			wantCode(t, call("RingGraph", n, k), code, impl.ErrNone)
			met++
			degree, code := impl.RegularDegree(g)
			if g.Size != 2*n || degree != 3 || code != impl.ErrNone {
				t.Errorf("RingGraph(%d, %d) has %d vertices, and the degree %d, %d", n, k, g.Size, degree, code)
			}
		}
	}
	if met != 450 {
		t.Errorf("there are %d ring graphs", met)
	}
}

// TestPromise4Doubles asks for twice as many edges, all of them between both halves, and for the same degrees in each half.
func TestPromise4Doubles(t *testing.T) {
	met := 0
	for x := range sampleTables {
		g := x.graph()
		double, code := impl.DoubleGraph(g)
		if code != impl.ErrNone {
			continue
		}
		met++
		edges, code := impl.EdgesOf(double)
		wantCode(t, "EdgesOf", code, impl.ErrNone)
		if len(edges) != 2*len(x.edges()) {
			t.Errorf("%v has %d edges, its double %d", g, len(x.edges()), len(edges))
		}
		for _, e := range edges {
			if e[0] >= g.Size || e[1] < g.Size {
				t.Errorf("the double of %v has the edge %v", g, e)
			}
		}
		degrees, _ := impl.DegreesOf(g)
		both, code := impl.DegreesOf(double)
		wantList(t, "the degrees of the double", both, code, slices.Concat(degrees, degrees)...)
		bipartite, _ := impl.IsBipartite(g)
		parts, _ := impl.PartsOf(g)
		doubleParts, _ := impl.PartsOf(double)
		if connected := len(parts) == 1; connected && (len(doubleParts) == 2) != bipartite {
			t.Errorf("%v is bipartite: %v, its double has %d parts", g, bipartite, len(doubleParts))
		}
	}
	if met < 1000 {
		t.Errorf("%d graphs alone are doubled", met)
	}
}

// TestAnswersOwnTheirMemory4 writes over the answers of chapter 4, asks again, and looks at the argument.
func TestAnswersOwnTheirMemory4(t *testing.T) {
	rows := []int64{2, 5, 2}
	g := impl.Graph{Size: 3, Rows: guarded(rows)}
	petersen := named(t, "petersen")
	for range 2 {
		points, code := impl.PlanePoints(2)
		wantLists(t, "PlanePoints", points, code, planeTriples(2))
		for len(points) > 1 {
			spoil(points[0])
			points = points[1:]
		}
		wantLists(t, "PlanePoints spoilt but for the last", points, code, [][]int64{{1, 1, 1}})
		absolute, code := impl.AbsolutePoints(2)
		wantList(t, "AbsolutePoints", absolute, code, 2, 4, 5)
		spoil(absolute)
		ring, code := impl.RingGraph(5, 2)
		wantGraph(t, "RingGraph", ring, code, petersen)
		spoil(ring.Rows)
		odd, code := impl.OddGraph(2)
		wantGraph(t, "OddGraph", odd, code, parsed(t, "3:0-1,0-2,1-2"))
		spoil(odd.Rows)
		tuple, code := impl.TupleGraph(3, 2)
		wantGraph(t, "TupleGraph", tuple, code, tupleTable(3, 2).graph())
		spoil(tuple.Rows)
		plane, code := impl.PlaneGraph(2)
		spoil(plane.Rows)
		polarity, other := impl.PolarityGraph(2)
		spoil(polarity.Rows)
		wantCode(t, "PlaneGraph", code, impl.ErrNone)
		wantCode(t, "PolarityGraph", other, impl.ErrNone)
		double, code := impl.DoubleGraph(g)
		wantGraph(t, "DoubleGraph", double, code, parsed(t, "6:0-4,1-3,1-5,2-4"))
		spoil(double.Rows)
		wantGuarded(t, "DoubleGraph", g.Rows, rows)
	}
}
