package tests

import (
	"slices"
	"testing"

	"loop.example/g01331/impl"
)

// TestPromise2Distances asks for all distances both ways, and for as many vertices in the levels as in the part.
func TestPromise2Distances(t *testing.T) {
	for x := range sampleTables {
		g := x.graph()
		parts, _ := impl.PartsOf(g)
		var rows [][]int64
		for v := range g.Size {
			distances, code := impl.DistancesFrom(g, v)
			wantCode(t, "DistancesFrom", code, impl.ErrNone)
			rows = append(rows, distances)
			levels, code := impl.LevelsFrom(g, v)
			wantCode(t, "LevelsFrom", code, impl.ErrNone)
			sum := int64(0)
			for _, level := range levels {
				sum += level
			}
			own := parts[slices.IndexFunc(parts, func(part []int64) bool { return slices.Contains(part, v) })]
			if sum != int64(len(own)) {
				t.Errorf("the levels of %d in %v are %v, the part has %d vertices", v, g, levels, len(own))
			}
		}
		for v := range rows {
			for w := range rows {
				there, one := impl.DistanceOf(g, int64(v), int64(w))
				back, two := impl.DistanceOf(g, int64(w), int64(v))
				if rows[v][w] != rows[w][v] || there != back || one != two {
					t.Errorf("from %d to %d in %v it is %d, %d, back it is %d, %d", v, w, g, rows[v][w], there, rows[w][v], back)
				}
			}
		}
	}
}

// TestPromise2Cycles counts the shortest cycles through their edges.
func TestPromise2Cycles(t *testing.T) {
	for x := range sampleTables {
		g := x.graph()
		edges := x.edges()
		girth, code := impl.GirthOf(g)
		if code != impl.ErrNone {
			continue
		}
		count, code := impl.CountShortest(g)
		wantCode(t, "CountShortest", code, impl.ErrNone)
		sum := int64(0)
		for _, e := range edges {
			through, code := impl.ShortestThrough(g, e[0], e[1])
			wantCode(t, "ShortestThrough", code, impl.ErrNone)
			back, _ := impl.ShortestThrough(g, e[1], e[0])
			if through != back {
				t.Errorf("%d shortest cycles go along %v in %v, %d go back", through, e, g, back)
			}
			sum += through
		}
		if sum != girth*count {
			t.Errorf("%v has %d cycles of %d, and %d through its edges", g, count, girth, sum)
		}
		wantLeastGirthAt(t, g, girth)
	}
}

// wantLeastGirthAt asks that the girth is the least girth at a vertex.
func wantLeastGirthAt(t *testing.T, g impl.Graph, girth int64) {
	t.Helper()
	var all []int64
	for v := range g.Size {
		if at, code := impl.GirthAt(g, v); code == impl.ErrNone {
			all = append(all, at)
		}
	}
	if len(all) == 0 || slices.Min(all) != girth {
		t.Errorf("%v has the girth %d, and at its vertices %v", g, girth, all)
	}
}

// TestAnswersOwnTheirMemory2 writes over the answers of chapter 2, and looks at the graph.
func TestAnswersOwnTheirMemory2(t *testing.T) {
	rows := []int64{6, 5, 3, 0}
	g := impl.Graph{Size: 4, Rows: guarded(rows)}
	for range 2 {
		distances, code := impl.DistancesFrom(g, 0)
		wantList(t, "DistancesFrom", distances, code, 0, 1, 1, -1)
		levels, code := impl.LevelsFrom(g, 0)
		wantList(t, "LevelsFrom", levels, code, 1, 2)
		reaches, code := impl.ReachesOf(g)
		wantList(t, "ReachesOf", reaches, code, 1, 1, 1, 0)
		spoil(distances)
		spoil(levels)
		spoil(reaches)
		impl.DistanceOf(g, 0, 3)
		impl.DiameterOf(g)
		impl.GirthOf(g)
		impl.GirthAt(g, 0)
		impl.CountShortest(g)
		impl.ShortestThrough(g, 0, 1)
		impl.ExcessOf(g)
		impl.DefectOf(g)
		impl.IsMooreGraph(g)
		wantGuarded(t, "chapter 2", g.Rows, rows)
	}
	ringRows := []int64{10, 5, 10, 5}
	square := impl.Graph{Size: 4, Rows: guarded(ringRows)}
	impl.DiameterOf(square)
	impl.ExcessOf(square)
	impl.DefectOf(square)
	impl.IsMooreGraph(square)
	wantGuarded(t, "chapter 2", square.Rows, ringRows)
}
