package tests

import (
	"testing"

	"loop.example/g01331/impl"
)

func wantGreedy(t *testing.T, n int64, k int64, c int64, want impl.Graph) {
	t.Helper()
	g, code := impl.GreedyGraph(n, k, c)
	wantGraph(t, call("GreedyGraph", n, k, c), g, code, want)
}

// TestGreedyGraphs has all numbers within their ranges.
func TestGreedyGraphs(t *testing.T) {
	for n := int64(1); n <= impl.MaxVertices; n++ {
		for k, c := range withinBoth {
			g := grownFrom(newTable(n))
			g.fill(k, c)
			wantGreedy(t, n, k, c, g.x.graph())
		}
	}
}

// TestGreedyGraphsByTrial asks, for each pair, for the graph with this edge more.
func TestGreedyGraphsByTrial(t *testing.T) {
	for n := int64(1); n <= 12; n++ {
		for k, c := range withinBoth {
			x := newTable(n)
			for _, e := range groups(n, 1).edges() {
				x.join(e[0], e[1])
				if !fitsByTable(x, k, c) {
					x[e[0]][e[1]], x[e[1]][e[0]] = false, false
				}
			}
			wantGreedy(t, n, k, c, x.graph())
		}
	}
}

func TestGreedyGraphsByHand(t *testing.T) {
	for _, c := range []struct {
		n, k, c int64
		text    string
	}{
		{5, 2, 3, "5:0-1,0-2,1-2,3-4"},
		{4, 2, 4, "4:0-1,0-2,1-3,2-3"},
		{1, 1, 3, "1:"}, {1, 6, 12, "1:"}, {2, 1, 12, "2:0-1"}, {2, 6, 3, "2:0-1"}, {3, 1, 3, "3:0-1"}, {3, 2, 3, "3:0-1,0-2,1-2"}, {3, 2, 4, "3:0-1,0-2"}, {7, 1, 5, "7:0-1,2-3,4-5"},
		{5, 2, 5, "5:0-1,0-2,1-3,2-4,3-4"},
		{6, 2, 5, "6:0-1,0-2,1-3,2-4,3-4"},
		{6, 3, 4, "6:0-1,0-2,0-3,1-4,1-5,2-4,2-5,3-4,3-5"},
		{10, 3, 5, "10:0-1,0-2,0-3,1-4,1-5,2-6,2-7,3-8,3-9,4-6,4-8,5-7,5-9,6-9,7-8"},
		{8, 3, 3, "8:0-1,0-2,0-3,1-2,1-3,2-3,4-5,4-6,4-7,5-6,5-7,6-7"},
		{6, 3, 3, "6:0-1,0-2,0-3,1-2,1-3,2-3,4-5"},
		{8, 4, 4, "8:0-1,0-2,0-3,0-4,1-5,1-6,1-7,2-5,2-6,2-7,3-5,3-6,3-7,4-5,4-6,4-7"},
		{7, 6, 4, "7:0-1,0-2,0-3,0-4,0-5,0-6"},
		{8, 6, 4, "8:0-1,0-2,0-3,0-4,0-5,0-6,1-7,2-7,3-7,4-7,5-7,6-7"},
	} {
		wantGreedy(t, c.n, c.k, c.c, parsed(t, c.text))
	}
	for k := int64(1); k <= 6; k++ {
		wantGreedy(t, k+1, k, 3, groups(k+1, 1).graph())
		wantGreedy(t, 62/(k+1)*(k+1), k, 3, severalParts(groups(k+1, 1), int(62/(k+1))).graph())
	}
	wantGreedy(t, 62, 1, 12, severalParts(groups(2, 1), 31).graph())
	wantGreedy(t, 61, 1, 12, tableWhere(61, func(v int64, w int64) bool { return v%2 == 0 && w == v+1 }).graph())
}

// TestGreedyRings has greedy graphs of the degree 2: rings of c, each from its least vertex along both sides, and a way of the vertices left.
func TestGreedyRings(t *testing.T) {
	for c := int64(3); c <= 12; c++ {
		for n := int64(1); n <= impl.MaxVertices; n++ {
			wantGreedy(t, n, 2, c, tableWhere(n, func(v int64, w int64) bool {
				if v/c != w/c {
					return false
				}
				return v%c == 0 && w == v+1 || w == v+2 || v%c == c-2 && w == v+1
			}).graph())
		}
	}
}

func TestGreedyErrors(t *testing.T) {
	for _, n := range []int64{1, 5, 62, 0, 63, -1} {
		for k, c := range withoutBoth {
			wantError(t, call("GreedyGraph", n, k, c), impl.ErrRange, results(impl.GreedyGraph(n, k, c))...)
		}
	}
	for _, n := range []int64{0, 63, 64, -1, 1 << 40, 1<<63 - 1, -1 << 63} {
		for k, c := range withinBoth {
			wantError(t, call("GreedyGraph", n, k, c), impl.ErrRange, results(impl.GreedyGraph(n, k, c))...)
		}
	}
}

func wantFilled(t *testing.T, x table, k int64, c int64, want impl.Graph) {
	t.Helper()
	g, code := impl.FillGraph(x.graph(), k, c)
	wantGraph(t, call("FillGraph", x.graph(), k, c), g, code, want)
}

func TestFillGraph(t *testing.T) {
	for x := range smallTables {
		for k, c := range withinBoth {
			if !fitsByTable(x, k, c) {
				continue
			}
			g := tableOf(x.graph())
			for _, e := range groups(int64(len(x)), 1).edges() {
				if !x[e[0]][e[1]] {
					g.join(e[0], e[1])
					if !fitsByTable(g, k, c) {
						g[e[0]][e[1]], g[e[1]][e[0]] = false, false
					}
				}
			}
			wantFilled(t, x, k, c, g.graph())
		}
	}
	for f := range scatteredFits {
		g := grownFrom(f.x)
		g.fill(f.k, f.c)
		wantFilled(t, f.x, f.k, f.c, g.x.graph())
	}
}

// TestFillGraphByHand has graphs without edges, full ones, and ones that lack one edge.
func TestFillGraphByHand(t *testing.T) {
	for _, c := range []struct {
		text string
		k, c int64
		want string
	}{
		{"1:", 1, 3, "1:"}, {"1:", 6, 12, "1:"}, {"2:", 1, 12, "2:0-1"}, {"2:0-1", 6, 3, "2:0-1"},
		{"4:0-1,1-2", 2, 4, "4:0-1,0-3,1-2,2-3"}, {"4:0-1,1-2", 2, 5, "4:0-1,0-3,1-2"}, {"4:0-1,1-2", 2, 3, "4:0-1,0-2,1-2"}, {"4:0-1,1-2", 3, 3, "4:0-1,0-2,0-3,1-2,1-3,2-3"},
		{"5:3-4", 2, 3, "5:0-1,0-2,1-2,3-4"}, {"5:2-4", 2, 3, "5:0-1,0-2,1-3,2-4,3-4"}, {"5:2-4", 1, 3, "5:0-1,2-4"},
	} {
		wantFilled(t, tableOf(parsed(t, c.text)), c.k, c.c, parsed(t, c.want))
	}
	for k, c := range withinBoth {
		for _, n := range []int64{1, 2, 5, 6, 10, 62} {
			greedy, _ := impl.GreedyGraph(n, k, c)
			wantFilled(t, newTable(n), k, c, greedy)
			wantFilled(t, tableOf(greedy), k, c, greedy)
		}
	}
	for name, c := range map[string]int64{"k4": 3, "k33": 4, "petersen": 5, "heawood": 6, "mcgee": 7, "tuttecoxeter": 8} {
		g := named(t, name)
		wantFilled(t, tableOf(g), 3, c, g)
		for _, e := range tableOf(g).edges() {
			x := tableOf(g)
			x[e[0]][e[1]], x[e[1]][e[0]] = false, false
			wantFilled(t, x, 3, c, g)
		}
	}
}
