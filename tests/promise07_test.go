package tests

import (
	"testing"

	"loop.example/g01331/impl"
)

// wantFull asks that g fits, and that no pair may be joined.
func wantFull(t *testing.T, what string, g impl.Graph, k int64, c int64) {
	t.Helper()
	if fits, code := impl.FitsBoth(g, k, c); !fits || code != impl.ErrNone {
		t.Errorf("%s = %v fits: %v, %d", what, g, fits, code)
	}
	if full, code := impl.IsFull(g, k, c); !full || code != impl.ErrNone {
		t.Errorf("%s = %v is full: %v, %d", what, g, full, code)
	}
	pairs, code := impl.PairsToJoin(g, k, c)
	wantLists(t, "PairsToJoin of "+what, pairs, code, nil)
}

// TestPromise7Greedy asks of all greedy graphs that they are full.
func TestPromise7Greedy(t *testing.T) {
	for n := int64(1); n <= impl.MaxVertices; n++ {
		for k, c := range withinBoth {
			what := call("GreedyGraph", n, k, c)
			g, code := impl.GreedyGraph(n, k, c)
			wantCode(t, what, code, impl.ErrNone)
			wantFull(t, what, g, k, c)
			left, code := impl.EdgesLeft(g, k)
			if edges := int64(len(tableOf(g).edges())); g.Size != n || left != n*k/2-edges || code != impl.ErrNone {
				t.Errorf("%s has %d vertices and %d edges, %d are left, %d", what, g.Size, edges, left, code)
			}
		}
	}
}

// TestPromise7Filled asks of all filled graphs that they are full and have all edges of the graph, and of full ones that they stay as they are.
func TestPromise7Filled(t *testing.T) {
	more := 0
	for f := range scatteredFits {
		g := f.x.graph()
		what := call("FillGraph", g, f.k, f.c)
		filled, code := impl.FillGraph(g, f.k, f.c)
		wantCode(t, what, code, impl.ErrNone)
		wantFull(t, what, filled, f.k, f.c)
		for v, row := range g.Rows {
			if row&^filled.Rows[v] != 0 {
				t.Errorf("%s = %v lacks an edge at %d", what, filled, v)
			}
		}
		if full, _ := impl.IsFull(g, f.k, f.c); full {
			wantGraph(t, what, filled, code, g)
		} else {
			more++
		}
		again, code := impl.FillGraph(filled, f.k, f.c)
		wantGraph(t, "twice "+what, again, code, filled)
	}
	if more < 500 {
		t.Errorf("%d graphs alone get more edges", more)
	}
}

// TestPromise7Pairs puts all edges in that are not there: those of pairs that may be joined make graphs that fit, the other ones do not.
func TestPromise7Pairs(t *testing.T) {
	for f := range scatteredFits {
		if len(f.x) > 25 {
			continue
		}
		pairs, code := impl.PairsToJoin(f.x.graph(), f.k, f.c)
		wantCode(t, "PairsToJoin", code, impl.ErrNone)
		listed := map[[2]int64]bool{}
		for _, p := range pairs {
			listed[[2]int64(p)] = true
		}
		for _, e := range groups(int64(len(f.x)), 1).edges() {
			if f.x[e[0]][e[1]] {
				if listed[[2]int64(e)] {
					t.Errorf("the edge %v of %v is a pair to join", e, f.x.graph())
				}
				continue
			}
			put, code := impl.PutEdge(f.x.graph(), e[0], e[1])
			wantCode(t, "PutEdge", code, impl.ErrNone)
			wantFits(t, put, f.k, f.c, listed[[2]int64(e)])
		}
	}
}

// TestPromise7Cages asks of all first regular graphs that they are cage graphs, and that the least of them has as many vertices as told.
func TestPromise7Cages(t *testing.T) {
	for k, c := range withinBoth {
		least := int64(0)
		for n := int64(1); n <= impl.MaxSought; n++ {
			g, code := impl.FirstRegular(n, k, c)
			if code != impl.ErrNone {
				wantCode(t, call("FirstRegular", n, k, c), code, impl.ErrNotFound)
				continue
			}
			if least == 0 {
				least = n
			}
			wantCage(t, g, n, k, c)
		}
		if least == 0 {
			wantError(t, call("LeastVertices", k, c), impl.ErrNotFound, results(impl.LeastVertices(k, c))...)
		} else if n, code := impl.LeastVertices(k, c); n != least || code != impl.ErrNone {
			t.Errorf("LeastVertices(%d, %d) = %d, %d, the first graph has %d", k, c, n, code, least)
		}
	}
}

// wantCage asks for a cage graph that is full, and for the greedy graph where this is one, as none is before it.
func wantCage(t *testing.T, g impl.Graph, n int64, k int64, c int64) {
	t.Helper()
	what := call("FirstRegular", n, k, c)
	degree, code := impl.RegularDegree(g)
	if g.Size != n || degree != k || code != impl.ErrNone {
		t.Errorf("%s = %v has the degree %d, %d", what, g, degree, code)
	}
	girth, code := impl.GirthOf(g)
	if (code != impl.ErrNone || girth < c) && (code != impl.ErrNotFound || k > 1) {
		t.Errorf("%s = %v has the girth %d, %d", what, g, girth, code)
	}
	wantFull(t, what, g, k, c)
	wantLeft(t, g, k, 0)
	greedy, _ := impl.GreedyGraph(n, k, c)
	if degree, code := impl.RegularDegree(greedy); degree == k && code == impl.ErrNone {
		wantGraph(t, what, g, impl.ErrNone, greedy)
	}
}

// TestAnswersOwnTheirMemory7 writes over the answers of chapter 7, asks again, and looks at the graphs.
func TestAnswersOwnTheirMemory7(t *testing.T) {
	way, around := []int64{2, 5, 2, 0}, []int64{10, 5, 10, 5}
	g, full := impl.Graph{Size: 4, Rows: guarded(way)}, impl.Graph{Size: 4, Rows: guarded(around)}
	for range 2 {
		for i := range 2 {
			pairs, code := impl.PairsToJoin(g, 2, 4)
			spoil(pairs[i])
			wantList(t, "PairsToJoin", pairs[1-i], code, [][]int64{{0, 3}, {2, 3}}[1-i]...)
		}
		filled, code := impl.FillGraph(g, 2, 4)
		wantGraph(t, "FillGraph", filled, code, ring(4).graph())
		spoil(filled.Rows)
		filled, code = impl.FillGraph(full, 2, 4)
		wantGraph(t, "FillGraph", filled, code, ring(4).graph())
		spoil(filled.Rows)
		greedy, code := impl.GreedyGraph(4, 2, 4)
		wantGraph(t, "GreedyGraph", greedy, code, parsed(t, "4:0-1,0-2,1-3,2-3"))
		spoil(greedy.Rows)
		first, code := impl.FirstRegular(4, 2, 4)
		wantGraph(t, "FirstRegular", first, code, parsed(t, "4:0-1,0-2,1-3,2-3"))
		spoil(first.Rows)
		impl.FitsBoth(g, 2, 4)
		impl.IsFull(g, 2, 4)
		impl.IsFull(full, 2, 4)
		impl.EdgesLeft(g, 2)
		impl.FillGraph(g, 1, 4)
		wantGuarded(t, "chapter 7", g.Rows, way)
		wantGuarded(t, "chapter 7", full.Rows, around)
	}
}
