package tests

import (
	"math"
	"slices"
	"testing"

	"loop.example/g01331/impl"
)

// distancesBySums lets each vertex in turn stand between all others; -1 is no way.
func distancesBySums(x table) [][]int64 {
	far := int64(len(x))
	distances := make([][]int64, len(x))
	for v := range x {
		distances[v] = make([]int64, len(x))
		for w := range x {
			if v != w && x[v][w] {
				distances[v][w] = 1
			} else if v != w {
				distances[v][w] = far
			}
		}
	}
	for middle := range x {
		for v := range x {
			for w := range x {
				distances[v][w] = min(distances[v][w], distances[v][middle]+distances[middle][w])
			}
		}
	}
	for v := range x {
		for w := range x {
			if distances[v][w] == far {
				distances[v][w] = -1
			}
		}
	}
	return distances
}

// path joins n vertices in a row, in an order that is not that of their numbers if by is not 1.
func path(n int64, by int64) table {
	x := newTable(n)
	for i := range n - 1 {
		x.join(i*by%n, (i+1)*by%n)
	}
	return x
}

func ring(n int64) table {
	x := path(n, 1)
	x.join(0, n-1)
	return x
}

func star(n int64) table {
	x := newTable(n)
	for v := int64(1); v < n; v++ {
		x.join(0, v)
	}
	return x
}

// outside are numbers that are no vertices of a graph with n vertices.
func outside(n int64) []int64 {
	numbers := []int64{-1, n, n + 1, 62, 63, 64, -n, math.MaxInt64, math.MinInt64}
	return slices.DeleteFunc(numbers, func(v int64) bool { return v >= 0 && v < n })
}

func TestDistances(t *testing.T) {
	for x := range sampleTables {
		g := x.graph()
		for v, want := range distancesBySums(x) {
			distances, code := impl.DistancesFrom(g, int64(v))
			wantList(t, call("DistancesFrom", g, v), distances, code, want...)
			for w, distance := range want {
				what := call("DistanceOf", g, v, w)
				if distance == -1 {
					wantError(t, what, impl.ErrNotFound, results(impl.DistanceOf(g, int64(v), int64(w)))...)
				} else if got, code := impl.DistanceOf(g, int64(v), int64(w)); got != distance || code != impl.ErrNone {
					t.Errorf("%s = %d, %d, want %d", what, got, code, distance)
				}
			}
		}
	}
}

func TestDistancesByHand(t *testing.T) {
	for text, want := range map[string][]int64{
		"1:":                    {0},
		"3:":                    {0, -1, -1},
		"3:1-2":                 {0, -1, -1},
		"4:0-2,1-3":             {0, -1, 1, -1},
		"5:0-4,1-2,1-3,3-4":     {0, 3, 4, 2, 1},
		"5:0-1,0-4,1-2,2-3,3-4": {0, 1, 2, 2, 1},
	} {
		distances, code := impl.DistancesFrom(parsed(t, text), 0)
		wantList(t, call("DistancesFrom", text), distances, code, want...)
	}
	distances, code := impl.DistancesFrom(path(62, 1).graph(), 0)
	wantList(t, "DistancesFrom along 62", distances, code, turn(62, 0)...)
	far, code := impl.DistanceOf(path(62, 23).graph(), 0, 61*23%62)
	if far != 61 || code != impl.ErrNone {
		t.Errorf("DistanceOf the ends of 62 = %d, %d", far, code)
	}
}

// wantLevels counts the distances of each vertex.
func wantLevels(distances []int64) []int64 {
	levels := make([]int64, slices.Max(distances)+1)
	for _, d := range distances {
		if d >= 0 {
			levels[d]++
		}
	}
	return levels
}

func TestLevelsAndReaches(t *testing.T) {
	for x := range sampleTables {
		g := x.graph()
		reaches := make([]int64, len(x))
		for v, distances := range distancesBySums(x) {
			reaches[v] = slices.Max(distances)
			levels, code := impl.LevelsFrom(g, int64(v))
			wantList(t, call("LevelsFrom", g, v), levels, code, wantLevels(distances)...)
		}
		got, code := impl.ReachesOf(g)
		wantList(t, call("ReachesOf", g), got, code, reaches...)
	}
}

func TestLevelsByHand(t *testing.T) {
	for text, want := range map[string][]int64{
		"1:":            {1},
		"62:":           {1},
		"3:1-2":         {1},
		"2:0-1":         {1, 1},
		"4:0-1,0-2,2-3": {1, 2, 1},
	} {
		levels, code := impl.LevelsFrom(parsed(t, text), 0)
		wantList(t, call("LevelsFrom", text), levels, code, want...)
	}
	levels, code := impl.LevelsFrom(named(t, "tuttecoxeter"), 29)
	wantList(t, "LevelsFrom tuttecoxeter", levels, code, 1, 3, 6, 12, 8)
	levels, code = impl.LevelsFrom(named(t, "hoffmansingleton"), 49)
	wantList(t, "LevelsFrom hoffmansingleton", levels, code, 1, 7, 42)
	levels, code = impl.LevelsFrom(star(62).graph(), 61)
	wantList(t, "LevelsFrom a tip of a star", levels, code, 1, 1, 60)
	reaches, code := impl.ReachesOf(parsed(t, "7:0-1,1-2,4-5"))
	wantList(t, "ReachesOf parts", reaches, code, 2, 1, 2, 0, 1, 1, 0)
	reaches, code = impl.ReachesOf(newTable(1).graph())
	wantList(t, "ReachesOf one vertex", reaches, code, 0)
}

func TestDiameterOf(t *testing.T) {
	for x := range sampleTables {
		g := x.graph()
		var reaches []int64
		connected := true
		for _, distances := range distancesBySums(x) {
			reaches = append(reaches, slices.Max(distances))
			connected = connected && slices.Min(distances) == 0
		}
		what := call("DiameterOf", g)
		if !connected {
			wantError(t, what, impl.ErrState, results(impl.DiameterOf(g))...)
		} else if diameter, radius, code := impl.DiameterOf(g); diameter != slices.Max(reaches) || radius != slices.Min(reaches) || code != impl.ErrNone {
			t.Errorf("%s = %d, %d, %d, want %v", what, diameter, radius, code, reaches)
		}
	}
}

func TestDiameterByHand(t *testing.T) {
	for _, c := range []struct {
		what             string
		x                table
		diameter, radius int64
	}{
		{"one vertex", newTable(1), 0, 0},
		{"an edge", path(2, 1), 1, 1},
		{"a path of 5", path(5, 1), 4, 2},
		{"a path of 62", path(62, 23), 61, 31},
		{"a ring of 62", ring(62), 31, 31},
		{"a star of 62", star(62), 2, 1},
	} {
		if diameter, radius, code := impl.DiameterOf(c.x.graph()); diameter != c.diameter || radius != c.radius || code != impl.ErrNone {
			t.Errorf("DiameterOf %s = %d, %d, %d", c.what, diameter, radius, code)
		}
	}
	for _, text := range []string{"2:", "62:", "3:0-1", "4:0-1,2-3", "3:1-2"} {
		wantError(t, call("DiameterOf", text), impl.ErrState, results(impl.DiameterOf(parsed(t, text)))...)
	}
}

func TestDistanceRanges(t *testing.T) {
	for _, text := range []string{"1:", "3:", "3:0-1,1-2", "62:"} {
		g := parsed(t, text)
		for _, v := range outside(g.Size) {
			wantError(t, call("DistancesFrom", text, v), impl.ErrRange, results(impl.DistancesFrom(g, v))...)
			wantError(t, call("LevelsFrom", text, v), impl.ErrRange, results(impl.LevelsFrom(g, v))...)
			for _, w := range []int64{0, g.Size - 1, v} {
				wantError(t, call("DistanceOf", text, v, w), impl.ErrRange, results(impl.DistanceOf(g, v, w))...)
				wantError(t, call("DistanceOf", text, w, v), impl.ErrRange, results(impl.DistanceOf(g, w, v))...)
			}
		}
	}
}

// TestInvalidInChapter2 gives numbers in their ranges, and others, beside what is no graph.
func TestInvalidInChapter2(t *testing.T) {
	none := int64(impl.ErrInvalid)
	for why, g := range notGraphs() {
		for _, v := range []int64{0, 1, -1, 62, math.MaxInt64} {
			wantError(t, "DistancesFrom: "+why, none, results(impl.DistancesFrom(g, v))...)
			wantError(t, "DistanceOf: "+why, none, results(impl.DistanceOf(g, 0, v))...)
			wantError(t, "LevelsFrom: "+why, none, results(impl.LevelsFrom(g, v))...)
			wantError(t, "GirthAt: "+why, none, results(impl.GirthAt(g, v))...)
			wantError(t, "ShortestThrough: "+why, none, results(impl.ShortestThrough(g, v, 0))...)
		}
		wantError(t, "ReachesOf: "+why, none, results(impl.ReachesOf(g))...)
		wantError(t, "DiameterOf: "+why, none, results(impl.DiameterOf(g))...)
		wantError(t, "GirthOf: "+why, none, results(impl.GirthOf(g))...)
		wantError(t, "CountShortest: "+why, none, results(impl.CountShortest(g))...)
		wantError(t, "ExcessOf: "+why, none, results(impl.ExcessOf(g))...)
		wantError(t, "DefectOf: "+why, none, results(impl.DefectOf(g))...)
		wantError(t, "IsMooreGraph: "+why, none, results(impl.IsMooreGraph(g))...)
	}
}
