package tests

import (
	"slices"
	"testing"

	"loop.example/g01331/impl"
)

// TestPromise1 holds the whole of promise 1 and of the guarantee of chapter 1 against all sample graphs.
func TestPromise1(t *testing.T) {
	for x := range sampleTables {
		g := x.graph()
		wantGraph(t, "the complement of the complement", complement(t, complement(t, g)), impl.ErrNone, g)
		again, code := impl.ParseGraph(textOf(t, g))
		wantGraph(t, "the graph of the text", again, code, g)
		edges, _ := impl.EdgesOf(g)
		degrees, _ := impl.DegreesOf(g)
		sum := int64(0)
		for _, k := range degrees {
			sum += k
		}
		if sum != 2*int64(len(edges)) {
			t.Errorf("degrees of %v add up to %d with %d edges", g, sum, len(edges))
		}
	}
}

func TestPromise1Edges(t *testing.T) {
	for x := range sampleTables {
		g := x.graph()
		for a := range g.Size {
			b := (a*5 + 3) % g.Size
			if a == b {
				continue
			}
			if x[a][b] {
				less, one := impl.TakeEdge(g, a, b)
				back, two := impl.PutEdge(less, b, a)
				wantCode(t, "TakeEdge", one, impl.ErrNone)
				wantGraph(t, "an edge taken out and put in", back, two, g)
			} else {
				more, one := impl.PutEdge(g, a, b)
				back, two := impl.TakeEdge(more, b, a)
				wantCode(t, "PutEdge", one, impl.ErrNone)
				wantGraph(t, "an edge put in and taken out", back, two, g)
			}
		}
	}
}

// TestPromise1AnswersAreGraphs also renumbers there and back.
func TestPromise1AnswersAreGraphs(t *testing.T) {
	for x := range sampleTables {
		g := x.graph()
		p := turn(g.Size, 2%g.Size)
		back := turn(g.Size, g.Size-2%g.Size)
		there, one := impl.RenumberGraph(g, p)
		again, two := impl.RenumberGraph(there, back)
		wantCode(t, "RenumberGraph", one, impl.ErrNone)
		wantGraph(t, "renumbered there and back", again, two, g)
		whole, code := impl.PartOn(g, turn(g.Size, 0))
		wantGraph(t, "PartOn all vertices", whole, code, g)
		edges, _ := impl.EdgesOf(g)
		of, code := impl.GraphOf(g.Size, edges)
		wantGraph(t, "GraphOf the edges", of, code, g)
		for _, h := range []impl.Graph{complement(t, g), there, whole, of} {
			if !impl.IsGraph(h) {
				t.Errorf("%v is no graph", h)
			}
		}
	}
}

// guarded has the elements of a list with spare capacity behind them, which must stay as it is.
func guarded(list []int64) []int64 {
	wide := append(slices.Clone(list), 77, 77, 77, 77)
	return wide[:len(list)]
}

func wantGuarded(t *testing.T, what string, got []int64, want []int64) {
	t.Helper()
	wide := got[:len(want)+4]
	if !slices.Equal(wide, append(slices.Clone(want), 77, 77, 77, 77)) {
		t.Errorf("%s: the argument is %v now, was %v", what, wide, want)
	}
}

// spoil writes over a whole list and its spare capacity.
func spoil(list []int64) {
	list = list[:cap(list)]
	for i := range list {
		list[i] = -9
	}
}

// TestAnswersOwnTheirMemory writes over all answers, and looks at the arguments.
func TestAnswersOwnTheirMemory(t *testing.T) {
	rows := []int64{6, 1, 1, 0}
	list := []int64{0, 1, 2, 3}
	g := impl.Graph{Size: 4, Rows: guarded(rows)}
	h := impl.Graph{Size: 4, Rows: guarded(rows)}
	p := guarded(list)
	check := func(what string, answer []int64, code int64) {
		wantCode(t, what, code, impl.ErrNone)
		spoil(answer)
		wantGuarded(t, what, g.Rows, rows)
		wantGuarded(t, what, h.Rows, rows)
		wantGuarded(t, what, p, list)
	}
	checkGraph := func(what string, answer impl.Graph, code int64) { check(what, answer.Rows, code) }
	neighbours, code := impl.NeighboursOf(g, 0)
	check("NeighboursOf", neighbours, code)
	degrees, code := impl.DegreesOf(g)
	check("DegreesOf", degrees, code)
	x, code := impl.ComplementOf(g)
	checkGraph("ComplementOf", x, code)
	x, code = impl.PartOn(g, p)
	checkGraph("PartOn", x, code)
	x, code = impl.PutEdge(g, 2, 3)
	checkGraph("PutEdge", x, code)
	x, code = impl.TakeEdge(g, 0, 1)
	checkGraph("TakeEdge", x, code)
	x, code = impl.RenumberGraph(g, p)
	checkGraph("RenumberGraph", x, code)
	x, code = impl.PutBeside(g, h)
	checkGraph("PutBeside", x, code)
	x, code = impl.PutBeside(g, g)
	checkGraph("PutBeside itself", x, code)
	x, code = impl.GraphOf(4, [][]int64{p[:2], p[2:]})
	checkGraph("GraphOf", x, code)
	x, code = impl.JumpGraph(5, p[1:])
	checkGraph("JumpGraph", x, code)
}

// TestListsOwnTheirMemory writes over one list of an answer, and looks at the others.
func TestListsOwnTheirMemory(t *testing.T) {
	g := parsed(t, "6:0-1,0-2,3-4")
	edges, code := impl.EdgesOf(g)
	for len(edges) > 1 {
		spoil(edges[0])
		edges = edges[1:]
	}
	wantLists(t, "EdgesOf spoilt but for the last", edges, code, [][]int64{{3, 4}})
	parts, code := impl.PartsOf(g)
	for len(parts) > 1 {
		spoil(parts[0])
		parts = parts[1:]
	}
	wantLists(t, "PartsOf spoilt but for the last", parts, code, [][]int64{{5}})
}

// TestNoState writes over a named graph and asks for it again.
func TestNoState(t *testing.T) {
	for _, name := range names() {
		first := named(t, name)
		want := impl.Graph{Size: first.Size, Rows: slices.Clone(first.Rows)}
		spoil(first.Rows)
		wantGraph(t, name+" again", named(t, name), impl.ErrNone, want)
	}
}
