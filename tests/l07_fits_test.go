package tests

import (
	"slices"
	"testing"

	"loop.example/g01331/impl"
)

// noWay is greater than all distances and lengths of cycles.
const noWay = 1000

// withinBoth yields all k and c of chapter 7.
func withinBoth(yield func(k int64, c int64) bool) {
	for k := int64(1); k <= 6; k++ {
		for c := int64(3); c <= 12; c++ {
			if !yield(k, c) {
				return
			}
		}
	}
}

// withoutBoth yields pairs of k and c of which one at least is out of its range.
func withoutBoth(yield func(k int64, c int64) bool) {
	for _, k := range []int64{0, 1, 6, 7, -1, 62, 1 << 40, -1 << 63, 1<<63 - 1} {
		for _, c := range []int64{2, 3, 12, 13, 0, 1, -3, 1 << 40, -1 << 63, 1<<63 - 1} {
			told := (k == 1 || k == 6) && (c == 3 || c == 12)
			if !told && !yield(k, c) {
				return
			}
		}
	}
}

func (t table) degree(v int64) int64 {
	degree := int64(0)
	for _, joined := range t[v] {
		if joined {
			degree++
		}
	}
	return degree
}

func (t table) greatestDegree() int64 {
	degree := int64(0)
	for v := range t {
		degree = max(degree, t.degree(int64(v)))
	}
	return degree
}

// girthOrNoWay looks for a cycle from each vertex.
func girthOrNoWay(x table) int64 {
	if girth := shortestCycle(x); girth <= len(x) {
		return int64(girth)
	}
	return noWay
}

// fitsByTable asks for all degrees, and for a cycle that is too short.
func fitsByTable(x table, k int64, c int64) bool {
	return x.greatestDegree() <= k && girthOrNoWay(x) >= c
}

// grown is a graph that keeps its distances up while it gets edges.
type grown struct {
	x   table
	far [][]int64
}

func grownFrom(x table) grown {
	g := grown{newTable(int64(len(x))), distancesBySums(x)}
	for v := range x {
		copy(g.x[v], x[v])
		for w := range x {
			if g.far[v][w] == -1 {
				g.far[v][w] = noWay
			}
		}
	}
	return g
}

func (g grown) join(v int64, w int64) {
	g.x.join(v, w)
	fromV, fromW := slices.Clone(g.far[v]), slices.Clone(g.far[w])
	for a := range g.far {
		for b := range g.far {
			g.far[a][b] = min(g.far[a][b], fromV[a]+1+fromW[b], fromW[a]+1+fromV[b])
		}
	}
}

// mayJoin rests on the distances, where the definition asks for the graph with the edge.
func (g grown) mayJoin(v int64, w int64, k int64, c int64) bool {
	return !g.x[v][w] && g.x.degree(v) < k && g.x.degree(w) < k && g.far[v][w]+1 >= c
}

// fill joins the pairs in lexicographic order.
func (g grown) fill(k int64, c int64) {
	for v := range int64(len(g.x)) {
		for w := v + 1; w < int64(len(g.x)); w++ {
			if g.mayJoin(v, w, k, c) {
				g.join(v, w)
			}
		}
	}
}

// fitting is a graph that fits k and c.
type fitting struct {
	x    table
	k, c int64
}

// scatteredFits yields graphs that fit, for all k and c: pairs are tried in a scattered order, up to a number of edges.
func scatteredFits(yield func(fitting) bool) {
	state := uint32(7)
	for _, n := range []int64{1, 2, 3, 4, 6, 9, 14, 25, 40, 62} {
		pairs := groups(n, 1).edges()
		for k, c := range withinBoth {
			for _, most := range []int64{n / 2, n * k / 4, n * k} {
				for i := range pairs {
					state = state*1664525 + 1013904223
					j := int(state>>8) % (i + 1)
					pairs[i], pairs[j] = pairs[j], pairs[i]
				}
				g, edges := grownFrom(newTable(n)), int64(0)
				for _, e := range pairs {
					if edges < most && g.mayJoin(e[0], e[1], k, c) {
						g.join(e[0], e[1])
						edges++
					}
				}
				if !yield(fitting{g.x, k, c}) {
					return
				}
			}
		}
	}
}

func wantFits(t *testing.T, g impl.Graph, k int64, c int64, want bool) {
	t.Helper()
	if fits, code := impl.FitsBoth(g, k, c); fits != want || code != impl.ErrNone {
		t.Errorf("FitsBoth(%v, %d, %d) = %v, %d", g, k, c, fits, code)
	}
}

func TestFitsBoth(t *testing.T) {
	fit, not := 0, 0
	for x := range allTables {
		g, degree, girth := x.graph(), x.greatestDegree(), girthOrNoWay(x)
		for k, c := range withinBoth {
			wantFits(t, g, k, c, degree <= k && girth >= c)
			if degree <= k && girth >= c {
				fit++
			} else {
				not++
			}
		}
	}
	for f := range scatteredFits {
		wantFits(t, f.x.graph(), f.k, f.c, fitsByTable(f.x, f.k, f.c))
		wantFits(t, f.x.graph(), f.k, f.c, true)
	}
	if fit < 5000 || not < 5000 {
		t.Errorf("%d graphs alone fit, and %d do not", fit, not)
	}
}

// TestFitsBothByHand has degrees that are just k and one greater, and girths that are just c and one less.
func TestFitsBothByHand(t *testing.T) {
	for name, most := range map[string][2]int64{"k4": {3, 3}, "k5": {4, 3}, "k33": {3, 4}, "cube": {3, 4}, "clebsch": {5, 4}, "petersen": {3, 5},
		"icosahedron": {5, 3}, "heawood": {3, 6}, "mcgee": {3, 7}, "tuttecoxeter": {3, 8}, "hoffmansingleton": {7, 5}} {
		for k, c := range withinBoth {
			wantFits(t, named(t, name), k, c, k >= most[0] && c <= most[1])
		}
	}
	for n := int64(3); n <= 62; n++ {
		for k, c := range withinBoth {
			wantFits(t, ring(n).graph(), k, c, k >= 2 && c <= n)
			wantFits(t, path(n, 1).graph(), k, c, k >= 2)
			wantFits(t, star(n).graph(), k, c, k >= n-1)
			wantFits(t, newTable(n).graph(), k, c, true)
			wantFits(t, groups(n, 1).graph(), k, c, k >= n-1 && c == 3)
		}
	}
	for k, c := range withinBoth {
		wantFits(t, parsed(t, "1:"), k, c, true)
		wantFits(t, parsed(t, "2:0-1"), k, c, true)
		wantFits(t, parsed(t, "8:0-1,6-7"), k, c, true)
		wantFits(t, parsed(t, "8:0-1,5-6,5-7,6-7"), k, c, k >= 2 && c == 3)
		wantFits(t, parsed(t, "9:0-1,0-2,0-3,0-4,5-6,5-8,6-7,7-8"), k, c, k >= 4 && c <= 4)
		wantFits(t, parsed(t, "9:0-1,0-2,0-3,1-2,4-5,4-8,5-6,6-7,7-8"), k, c, k >= 3 && c == 3)
	}
}

// TestLimits7 pins the constants, as the tests tell numbers.
func TestLimits7(t *testing.T) {
	if impl.MaxDegree != 6 || impl.MaxGirth != 12 || impl.MaxSought != 10 {
		t.Errorf("the limits are %d, %d and %d", impl.MaxDegree, impl.MaxGirth, impl.MaxSought)
	}
}

// joinedByTrial asks, for each pair, for the graph with this edge more.
func joinedByTrial(x table, k int64, c int64) [][]int64 {
	var pairs [][]int64
	for v := range int64(len(x)) {
		for w := v + 1; w < int64(len(x)); w++ {
			if x[v][w] {
				continue
			}
			x.join(v, w)
			if fitsByTable(x, k, c) {
				pairs = append(pairs, []int64{v, w})
			}
			x[v][w], x[w][v] = false, false
		}
	}
	return pairs
}

func wantPairs(t *testing.T, x table, k int64, c int64, want [][]int64) {
	t.Helper()
	pairs, code := impl.PairsToJoin(x.graph(), k, c)
	wantLists(t, call("PairsToJoin", x.graph(), k, c), pairs, code, want)
	if full, code := impl.IsFull(x.graph(), k, c); full != (len(want) == 0) || code != impl.ErrNone {
		t.Errorf("IsFull(%v, %d, %d) = %v, %d, want the pairs %v", x.graph(), k, c, full, code, want)
	}
}

func TestPairsToJoin(t *testing.T) {
	for x := range smallTables {
		for k, c := range withinBoth {
			if fitsByTable(x, k, c) {
				wantPairs(t, x, k, c, joinedByTrial(x, k, c))
			}
		}
	}
	full := 0
	for f := range scatteredFits {
		g := grownFrom(f.x)
		var want [][]int64
		for v := range int64(len(f.x)) {
			for w := v + 1; w < int64(len(f.x)); w++ {
				if g.mayJoin(v, w, f.k, f.c) {
					want = append(want, []int64{v, w})
				}
			}
		}
		wantPairs(t, f.x, f.k, f.c, want)
		if len(f.x) <= 14 {
			wantPairs(t, f.x, f.k, f.c, joinedByTrial(f.x, f.k, f.c))
		}
		if len(want) == 0 {
			full++
		}
	}
	if full < 500 {
		t.Errorf("%d graphs alone are full", full)
	}
}

// TestPairsToJoinByHand has pairs that are kept apart by the degree alone, by the girth alone, and by neither.
func TestPairsToJoinByHand(t *testing.T) {
	for _, c := range []struct {
		text string
		k, c int64
		want [][]int64
	}{
		{"1:", 1, 3, nil},
		{"1:", 6, 12, nil},
		{"2:", 1, 12, [][]int64{{0, 1}}},
		{"2:0-1", 6, 3, nil},
		{"3:", 1, 3, [][]int64{{0, 1}, {0, 2}, {1, 2}}},
		{"3:0-1", 1, 3, nil},
		{"3:0-1", 2, 12, [][]int64{{0, 2}, {1, 2}}},
		{"3:0-1,1-2", 2, 3, [][]int64{{0, 2}}},
		{"3:0-1,1-2", 2, 4, nil},
		{"4:0-1,1-2", 2, 4, [][]int64{{0, 3}, {2, 3}}},
		{"4:0-1,1-2", 3, 4, [][]int64{{0, 3}, {1, 3}, {2, 3}}},
		{"4:0-1,1-2", 3, 3, [][]int64{{0, 2}, {0, 3}, {1, 3}, {2, 3}}},
		{"4:0-1,1-2,2-3", 2, 4, [][]int64{{0, 3}}},
		{"4:0-1,1-2,2-3", 2, 5, nil},
		{"4:0-1,1-2,2-3", 3, 5, nil},
		{"4:0-1,1-2,2-3", 3, 3, [][]int64{{0, 2}, {0, 3}, {1, 3}}},
		{"4:0-3,1-3,2-3", 3, 3, [][]int64{{0, 1}, {0, 2}, {1, 2}}},
		{"4:0-1,0-2,1-2", 2, 3, nil},
		{"4:0-1,0-2,1-2", 3, 3, [][]int64{{0, 3}, {1, 3}, {2, 3}}},
		{"6:0-5,1-5,2-5,3-5", 5, 4, [][]int64{{0, 4}, {1, 4}, {2, 4}, {3, 4}, {4, 5}}},
		{"6:0-5,1-5,2-5,3-5", 4, 4, [][]int64{{0, 4}, {1, 4}, {2, 4}, {3, 4}}},
	} {
		wantPairs(t, tableOf(parsed(t, c.text)), c.k, c.c, c.want)
	}
}

// TestPairsAround joins both ends of ways, for each girth, and takes an edge of full graphs.
func TestPairsAround(t *testing.T) {
	for n := int64(3); n <= 14; n++ {
		for c := int64(3); c <= 12; c++ {
			want := [][]int64{{0, n - 1}}
			if n < c {
				want = nil
			}
			wantPairs(t, path(n, 1), 2, c, want)
		}
	}
	for name, c := range map[string]int64{"k4": 3, "k33": 4, "petersen": 5, "heawood": 6, "mcgee": 7, "tuttecoxeter": 8} {
		x := tableOf(named(t, name))
		wantPairs(t, x, 3, c, nil)
		for _, e := range x.edges() {
			x[e[0]][e[1]], x[e[1]][e[0]] = false, false
			wantPairs(t, x, 3, c, [][]int64{e})
			x.join(e[0], e[1])
		}
	}
	wantPairs(t, tableOf(named(t, "petersen")), 6, 4, nil)
	wantPairs(t, tableOf(named(t, "k33")), 6, 4, nil)
	wantPairs(t, groups(7, 1), 6, 3, nil)
	wantPairs(t, groups(2, 6), 6, 4, nil)
	wantPairs(t, newTable(62), 6, 12, groups(62, 1).edges())
	wantPairs(t, path(62, 1), 2, 12, [][]int64{{0, 61}})
}

func wantLeft(t *testing.T, g impl.Graph, k int64, want int64) {
	t.Helper()
	if left, code := impl.EdgesLeft(g, k); left != want || code != impl.ErrNone {
		t.Errorf("EdgesLeft(%v, %d) = %d, %d, want %d", g, k, left, code, want)
	}
}

func TestEdgesLeft(t *testing.T) {
	odd, even := 0, 0
	for x := range allTables {
		degree := x.greatestDegree()
		for k := int64(1); k <= 6; k++ {
			if degree > k {
				wantError(t, call("EdgesLeft", x.graph(), k), impl.ErrState, results(impl.EdgesLeft(x.graph(), k))...)
				continue
			}
			twice := int64(len(x))*k - 2*int64(len(x.edges()))
			wantLeft(t, x.graph(), k, twice/2)
			if twice%2 == 1 {
				odd++
			} else {
				even++
			}
		}
	}
	if odd < 100 || even < 100 {
		t.Errorf("%d sums alone are odd, and %d even", odd, even)
	}
}

// TestEdgesLeftByHand has sums that are odd, sums of 0 and 1, and short cycles, which do not count here.
func TestEdgesLeftByHand(t *testing.T) {
	for _, c := range []struct {
		text    string
		k, left int64
	}{
		{"1:", 1, 0}, {"1:", 2, 1}, {"1:", 3, 1}, {"1:", 6, 3}, {"2:", 1, 1}, {"2:0-1", 1, 0}, {"2:0-1", 2, 1}, {"3:0-1", 1, 0}, {"3:0-1", 2, 2}, {"3:0-1,0-2,1-2", 2, 0},
		{"3:0-1,0-2,1-2", 3, 1}, {"3:0-1,0-2,1-2", 6, 6}, {"4:0-1,1-2", 2, 2}, {"4:0-1,1-2", 3, 4}, {"5:0-1,0-2,0-3,0-4", 4, 6}, {"62:", 1, 31}, {"62:", 6, 186}, {"61:", 1, 30}, {"61:", 5, 152},
	} {
		wantLeft(t, parsed(t, c.text), c.k, c.left)
	}
	wantLeft(t, named(t, "petersen"), 3, 0)
	wantLeft(t, named(t, "petersen"), 6, 15)
	wantLeft(t, groups(7, 1).graph(), 6, 0)
	wantLeft(t, groups(6, 1).graph(), 6, 3)
	for what, g := range map[string]impl.Graph{"8 joined": groups(8, 1).graph(), "hoffmansingleton": named(t, "hoffmansingleton"), "a star": star(62).graph()} {
		for k := int64(1); k <= 6; k++ {
			wantError(t, "EdgesLeft: "+what, impl.ErrState, results(impl.EdgesLeft(g, k))...)
		}
	}
}

// TestFitsErrors has graphs that do not fit, and numbers out of range for those that do and those that do not.
func TestFitsErrors(t *testing.T) {
	for _, text := range []string{"1:", "2:0-1", "4:0-1,0-2,1-2", "8:0-1,0-2,0-3,0-4,0-5,0-6,0-7", "62:"} {
		g := parsed(t, text)
		for k, c := range withoutBoth {
			what := call(text, k, c)
			wantError(t, "FitsBoth of "+what, impl.ErrRange, results(impl.FitsBoth(g, k, c))...)
			wantError(t, "PairsToJoin of "+what, impl.ErrRange, results(impl.PairsToJoin(g, k, c))...)
			wantError(t, "IsFull of "+what, impl.ErrRange, results(impl.IsFull(g, k, c))...)
			wantError(t, "FillGraph of "+what, impl.ErrRange, results(impl.FillGraph(g, k, c))...)
			if k < 1 || k > 6 {
				wantError(t, "EdgesLeft of "+what, impl.ErrRange, results(impl.EdgesLeft(g, k))...)
			}
		}
	}
	for x := range allTables {
		g, degree, girth := x.graph(), x.greatestDegree(), girthOrNoWay(x)
		for _, c := range []int64{3, 4, 5, 6, 12} {
			for k := int64(1); k <= 6; k++ {
				if degree > k || girth < c {
					what := call("no fit", g, k, c)
					wantError(t, "PairsToJoin: "+what, impl.ErrState, results(impl.PairsToJoin(g, k, c))...)
					wantError(t, "IsFull: "+what, impl.ErrState, results(impl.IsFull(g, k, c))...)
					wantError(t, "FillGraph: "+what, impl.ErrState, results(impl.FillGraph(g, k, c))...)
				}
			}
		}
	}
}

// TestInvalidInChapter7 has values that are no graphs, with numbers in their ranges and out of them.
func TestInvalidInChapter7(t *testing.T) {
	none := int64(impl.ErrInvalid)
	for why, g := range notGraphs() {
		for _, k := range []int64{1, 6, 0, 7, -1, 1 << 40} {
			for _, c := range []int64{3, 12, 2, 13, -1, 1 << 40} {
				wantError(t, "FitsBoth: "+why, none, results(impl.FitsBoth(g, k, c))...)
				wantError(t, "PairsToJoin: "+why, none, results(impl.PairsToJoin(g, k, c))...)
				wantError(t, "IsFull: "+why, none, results(impl.IsFull(g, k, c))...)
				wantError(t, "FillGraph: "+why, none, results(impl.FillGraph(g, k, c))...)
			}
			wantError(t, "EdgesLeft: "+why, none, results(impl.EdgesLeft(g, k))...)
		}
	}
}
