package tests

import (
	"slices"
	"testing"

	"loop.example/g01331/impl"
)

// TestPromise2Distances asks for all distances both ways, and for as many vertices in the levels as in the part.
func TestPromise2Distances(t *testing.T) {
	for x := range sampleTables {
		g := x.graph()
		parts, _ := impl.PartsOf(g)
		var rows [][]int64
		for v := range g.Size {
			distances, code := impl.DistancesFrom(g, v)
			wantCode(t, "DistancesFrom", code, impl.ErrNone)
			rows = append(rows, distances)
			levels, code := impl.LevelsFrom(g, v)
			wantCode(t, "LevelsFrom", code, impl.ErrNone)
			sum := int64(0)
			for _, level := range levels {
				sum += level
			}
			own := parts[slices.IndexFunc(parts, func(part []int64) bool { return slices.Contains(part, v) })]
			if sum != int64(len(own)) {
				t.Errorf("the levels of %d in %v are %v, the part has %d vertices", v, g, levels, len(own))
			}
		}
		for v := range rows {
			for w := range rows {
				there, one := impl.DistanceOf(g, int64(v), int64(w))
				back, two := impl.DistanceOf(g, int64(w), int64(v))
				if rows[v][w] != rows[w][v] || there != back || one != two {
					t.Errorf("from %d to %d in %v it is %d, %d, back it is %d, %d", v, w, g, rows[v][w], there, rows[w][v], back)
				}
			}
		}
	}
}

// TestPromise2Cycles counts the shortest cycles through their edges.
func TestPromise2Cycles(t *testing.T) {
	for x := range sampleTables {
		g := x.graph()
		edges := x.edges()
		girth, code := impl.GirthOf(g)
		if code != impl.ErrNone {
			continue
		}
		count, code := impl.CountShortest(g)
		wantCode(t, "CountShortest", code, impl.ErrNone)
		sum := int64(0)
		for _, e := range edges {
			through, code := impl.ShortestThrough(g, e[0], e[1])
			wantCode(t, "ShortestThrough", code, impl.ErrNone)
			back, _ := impl.ShortestThrough(g, e[1], e[0])
			if through != back {
				t.Errorf("%d shortest cycles go along %v in %v, %d go back", through, e, g, back)
			}
			sum += through
		}
		if sum != girth*count {
			t.Errorf("%v has %d cycles of %d, and %d through its edges", g, count, girth, sum)
		}
		wantLeastGirthAt(t, g, girth)
	}
}

// wantLeastGirthAt asks that the girth is the least girth at a vertex.
func wantLeastGirthAt(t *testing.T, g impl.Graph, girth int64) {
	t.Helper()
	var all []int64
	for v := range g.Size {
		if at, code := impl.GirthAt(g, v); code == impl.ErrNone {
			all = append(all, at)
		}
	}
	if len(all) == 0 || slices.Min(all) != girth {
		t.Errorf("%v has the girth %d, and at its vertices %v", g, girth, all)
	}
}

// TestAnswersOwnTheirMemory2 writes over the answers of chapter 2, and looks at the graph.
func TestAnswersOwnTheirMemory2(t *testing.T) {
	rows := []int64{6, 5, 3, 0}
	g := impl.Graph{Size: 4, Rows: guarded(rows)}
	for range 2 {
		distances, code := impl.DistancesFrom(g, 0)
		wantList(t, "DistancesFrom", distances, code, 0, 1, 1, -1)
		levels, code := impl.LevelsFrom(g, 0)
		wantList(t, "LevelsFrom", levels, code, 1, 2)
		reaches, code := impl.ReachesOf(g)
		wantList(t, "ReachesOf", reaches, code, 1, 1, 1, 0)
		spoil(distances)
		spoil(levels)
		spoil(reaches)
		impl.DistanceOf(g, 0, 3)
		impl.DiameterOf(g)
		impl.GirthOf(g)
		impl.GirthAt(g, 0)
		impl.CountShortest(g)
		impl.ShortestThrough(g, 0, 1)
		impl.ExcessOf(g)
		impl.DefectOf(g)
		impl.IsMooreGraph(g)
		wantGuarded(t, "chapter 2", g.Rows, rows)
	}
	ringRows := []int64{10, 5, 10, 5}
	square := impl.Graph{Size: 4, Rows: guarded(ringRows)}
	impl.DiameterOf(square)
	impl.ExcessOf(square)
	impl.DefectOf(square)
	impl.IsMooreGraph(square)
	wantGuarded(t, "chapter 2", square.Rows, ringRows)
}

// TestPromise2MoreEdges asks that no distance and no girth is greater with an edge more.
func TestPromise2MoreEdges(t *testing.T) {
	for x := range sampleTables {
		g := x.graph()
		a := g.Size / 2
		for b := range g.Size {
			more, code := impl.PutEdge(g, a, b)
			if code != impl.ErrNone {
				continue
			}
			before, _ := impl.DistancesFrom(g, a)
			behind, code := impl.DistancesFrom(more, a)
			wantCode(t, "DistancesFrom", code, impl.ErrNone)
			for v := range before {
				if behind[v] > before[v] && before[v] >= 0 || behind[v] < 0 && before[v] >= 0 || behind[b] != 1 {
					t.Errorf("from %d it is %v in %v, and with the edge to %d it is %v", a, before, g, b, behind)
				}
			}
			girth, none := impl.GirthOf(g)
			less, other := impl.GirthOf(more)
			if none == impl.ErrNone && (other != impl.ErrNone || less > girth) {
				t.Errorf("the girth of %v is %d, and %d, %d with an edge more", g, girth, less, other)
			}
			// A new cycle goes along the new edge and back along a way that was there.
			if before[b] > 0 && (other != impl.ErrNone || less > before[b]+1) {
				t.Errorf("the girth of %v is %d, %d, with a cycle of %d", more, less, other, before[b]+1)
			}
		}
	}
}

// TestPromise2Renumbered asks that renumbering leads distances, levels, girths and shortest cycles along.
func TestPromise2Renumbered(t *testing.T) {
	for x := range sampleTables {
		g := x.graph()
		p := places(g.Size, 5)
		h, code := impl.RenumberGraph(g, p)
		wantCode(t, "RenumberGraph", code, impl.ErrNone)
		one, none := impl.CountShortest(g)
		two, other := impl.CountShortest(h)
		if one != two || none != other {
			t.Errorf("%v has %d, %d shortest cycles, and %d, %d renumbered", g, one, none, two, other)
		}
		for v := range g.Size {
			there, code := impl.DistancesFrom(h, p[v])
			wantCode(t, "DistancesFrom", code, impl.ErrNone)
			var back []int64
			for _, w := range p {
				back = append(back, there[w])
			}
			distances, code := impl.DistancesFrom(g, v)
			wantList(t, call("DistancesFrom renumbered", g, v), back, code, distances...)
			girth, none := impl.GirthAt(g, v)
			at, other := impl.GirthAt(h, p[v])
			if girth != at || none != other {
				t.Errorf("the girth at %d in %v is %d, %d, and %d, %d renumbered", v, g, girth, none, at, other)
			}
		}
		for _, edge := range x.edges() {
			through, none := impl.ShortestThrough(g, edge[0], edge[1])
			along, other := impl.ShortestThrough(h, p[edge[0]], p[edge[1]])
			if through != along || none != other {
				t.Errorf("%d, %d shortest cycles go through %v in %v, and %d, %d renumbered", through, none, edge, g, along, other)
			}
		}
	}
}
