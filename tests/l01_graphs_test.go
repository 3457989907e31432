package tests

import (
	"math"
	"slices"
	"testing"

	"loop.example/g01331/impl"
)

func TestCodesAndLimit(t *testing.T) {
	got := []int64{impl.ErrNone, impl.ErrInvalid, impl.ErrRange, impl.ErrLimit, impl.ErrNotFound, impl.ErrState, impl.ErrSyntax, impl.MaxVertices}
	if !slices.Equal(got, []int64{0, 1, 2, 3, 4, 5, 6, 62}) {
		t.Errorf("constants are %v", got)
	}
}

func TestIsGraph(t *testing.T) {
	for x := range sampleTables {
		if g := x.graph(); !impl.IsGraph(g) {
			t.Errorf("IsGraph(%v) = false", g)
		}
	}
	for why, g := range notGraphs() {
		if impl.IsGraph(g) {
			t.Errorf("IsGraph = true for %s", why)
		}
	}
}

// TestIsGraphRows tries all rows of up to three vertices, and some numbers that are none.
func TestIsGraphRows(t *testing.T) {
	for a := int64(-1); a <= 8; a++ {
		for b := int64(-1); b <= 8; b++ {
			for c := int64(-1); c <= 8; c++ {
				fits := max(a, b, c) < 8 && min(a, b, c) >= 0
				want := fits && a&1 == 0 && b&2 == 0 && c&4 == 0 && a>>1&1 == b&1 && a>>2&1 == c&1 && b>>2&1 == c>>1&1
				if impl.IsGraph(impl.Graph{Size: 3, Rows: []int64{a, b, c}}) != want {
					t.Errorf("IsGraph of the rows %d, %d, %d: not %v", a, b, c, want)
				}
			}
		}
	}
}

func TestInvalidGraphs(t *testing.T) {
	fine := newTable(2).graph()
	for why, g := range notGraphs() {
		none := int64(impl.ErrInvalid)
		wantError(t, "EdgesOf: "+why, none, results(impl.EdgesOf(g))...)
		wantError(t, "NeighboursOf: "+why, none, results(impl.NeighboursOf(g, 0))...)
		wantError(t, "DegreesOf: "+why, none, results(impl.DegreesOf(g))...)
		wantError(t, "RegularDegree: "+why, none, results(impl.RegularDegree(g))...)
		wantError(t, "PartsOf: "+why, none, results(impl.PartsOf(g))...)
		wantError(t, "IsConnected: "+why, none, results(impl.IsConnected(g))...)
		wantError(t, "IsBipartite: "+why, none, results(impl.IsBipartite(g))...)
		wantError(t, "ComplementOf: "+why, none, results(impl.ComplementOf(g))...)
		wantError(t, "PartOn: "+why, none, results(impl.PartOn(g, []int64{0}))...)
		wantError(t, "PutEdge: "+why, none, results(impl.PutEdge(g, 0, 1))...)
		wantError(t, "TakeEdge: "+why, none, results(impl.TakeEdge(g, 0, 1))...)
		wantError(t, "RenumberGraph: "+why, none, results(impl.RenumberGraph(g, []int64{1, 0}))...)
		wantError(t, "PutBeside: "+why, none, results(impl.PutBeside(g, fine))...)
		wantError(t, "PutBeside, second: "+why, none, results(impl.PutBeside(fine, g))...)
		wantError(t, "GraphText: "+why, none, results(impl.GraphText(g))...)
	}
}

// TestInvalidBeforeRange gives what is no graph together with numbers and lists out of range.
func TestInvalidBeforeRange(t *testing.T) {
	g := impl.Graph{Size: 2, Rows: []int64{2, 0}}
	large := newTable(impl.MaxVertices).graph()
	none := int64(impl.ErrInvalid)
	wantError(t, "NeighboursOf", none, results(impl.NeighboursOf(g, -1))...)
	wantError(t, "PartOn", none, results(impl.PartOn(g, nil))...)
	wantError(t, "PutEdge", none, results(impl.PutEdge(g, 5, 5))...)
	wantError(t, "TakeEdge", none, results(impl.TakeEdge(g, 5, 5))...)
	wantError(t, "RenumberGraph", none, results(impl.RenumberGraph(g, []int64{7}))...)
	wantError(t, "PutBeside", none, results(impl.PutBeside(large, g))...)
	wantError(t, "PutBeside", none, results(impl.PutBeside(g, large))...)
}

func TestGraphOf(t *testing.T) {
	for x := range sampleTables {
		edges := x.edges()
		slices.Reverse(edges)
		for i, e := range edges {
			if i%2 == 0 {
				e[0], e[1] = e[1], e[0]
			}
		}
		edges = append(edges, edges[:len(edges)/2]...)
		g, code := impl.GraphOf(int64(len(x)), edges)
		wantGraph(t, "GraphOf", g, code, x.graph())
	}
	g, code := impl.GraphOf(1, nil)
	wantGraph(t, "GraphOf(1)", g, code, impl.Graph{Size: 1, Rows: []int64{0}})
	g, code = impl.GraphOf(3, [][]int64{{2, 0}, {0, 2}, {2, 0}})
	wantGraph(t, "GraphOf(3)", g, code, impl.Graph{Size: 3, Rows: []int64{4, 0, 1}})
	g, code = impl.GraphOf(62, [][]int64{{61, 60}})
	if g.Size != 62 || g.Rows[61] != 1<<60 || g.Rows[60] != 1<<61 || code != impl.ErrNone {
		t.Errorf("GraphOf(62) = %v, %d", g, code)
	}
}

func TestGraphOfErrors(t *testing.T) {
	for _, n := range []int64{0, -1, 63, math.MaxInt64, math.MinInt64} {
		wantError(t, call("GraphOf", n), impl.ErrRange, results(impl.GraphOf(n, nil))...)
	}
	for _, edge := range [][]int64{nil, {}, {0}, {0, 1, 2}, {0, 0}, {2, 2}, {0, 3}, {3, 0}, {-1, 0}, {0, -1}, {3, 3}, {-1, -1}, {0, math.MaxInt64}, {math.MinInt64, 0}} {
		wantError(t, call("GraphOf", edge), impl.ErrRange, results(impl.GraphOf(3, [][]int64{edge}))...)
		wantError(t, call("GraphOf", edge), impl.ErrRange, results(impl.GraphOf(3, [][]int64{{0, 1}, edge, {1, 2}}))...)
	}
	many := make([][]int64, 4001)
	for i := range many {
		many[i] = []int64{1, 0}
	}
	g, code := impl.GraphOf(2, many[:4000])
	wantGraph(t, "GraphOf with 4000 lists", g, code, impl.Graph{Size: 2, Rows: []int64{2, 1}})
	wantError(t, "GraphOf with 4001 lists", impl.ErrRange, results(impl.GraphOf(2, many))...)
}

func TestEdgesOf(t *testing.T) {
	for x := range sampleTables {
		edges, code := impl.EdgesOf(x.graph())
		wantLists(t, "EdgesOf", edges, code, x.edges())
	}
	edges, code := impl.EdgesOf(impl.Graph{Size: 4, Rows: []int64{12, 8, 1, 3}})
	wantLists(t, "EdgesOf", edges, code, [][]int64{{0, 2}, {0, 3}, {1, 3}})
	edges, code = impl.EdgesOf(newTable(1).graph())
	wantLists(t, "EdgesOf one vertex", edges, code, nil)
}

func TestNeighboursOf(t *testing.T) {
	for x := range sampleTables {
		g := x.graph()
		for v := range x {
			var want []int64
			for w, joined := range x[v] {
				if joined {
					want = append(want, int64(w))
				}
			}
			list, code := impl.NeighboursOf(g, int64(v))
			wantList(t, "NeighboursOf", list, code, want...)
		}
		for _, v := range []int64{-1, g.Size, math.MaxInt64, math.MinInt64} {
			wantError(t, call("NeighboursOf", v), impl.ErrRange, results(impl.NeighboursOf(g, v))...)
		}
	}
}

func TestDegreesOf(t *testing.T) {
	for x := range sampleTables {
		want := make([]int64, len(x))
		for _, e := range x.edges() {
			want[e[0]]++
			want[e[1]]++
		}
		degrees, code := impl.DegreesOf(x.graph())
		wantList(t, "DegreesOf", degrees, code, want...)
		least, greatest := slices.Min(want), slices.Max(want)
		if least < greatest {
			wantError(t, "RegularDegree", impl.ErrState, results(impl.RegularDegree(x.graph()))...)
		} else if k, code := impl.RegularDegree(x.graph()); k != least || code != impl.ErrNone {
			t.Errorf("RegularDegree = %d, %d, want %d", k, code, least)
		}
	}
}

func TestRegularDegree(t *testing.T) {
	for text, want := range map[string]int64{"1:": 0, "62:": 0, "2:0-1": 1, "4:0-1,2-3": 1, "3:0-1,0-2,1-2": 2} {
		if k, code := impl.RegularDegree(parsed(t, text)); k != want || code != impl.ErrNone {
			t.Errorf("RegularDegree(%s) = %d, %d", text, k, code)
		}
	}
	if k, code := impl.RegularDegree(complement(t, newTable(62).graph())); k != 61 || code != impl.ErrNone {
		t.Errorf("RegularDegree of all pairs of 62 = %d, %d", k, code)
	}
	for _, text := range []string{"3:0-1", "3:0-1,0-2", "3:1-2"} {
		wantError(t, "RegularDegree("+text+")", impl.ErrState, results(impl.RegularDegree(parsed(t, text)))...)
	}
}

// partsByLabels gives the vertices of an edge the same label until all edges have one.
func partsByLabels(x table) [][]int64 {
	label := turn(int64(len(x)), 0)
	for range x {
		for _, e := range x.edges() {
			least := min(label[e[0]], label[e[1]])
			label[e[0]], label[e[1]] = least, least
		}
	}
	var parts [][]int64
	for least := range x {
		var part []int64
		for v := range x {
			if label[v] == int64(least) {
				part = append(part, int64(v))
			}
		}
		if len(part) > 0 {
			parts = append(parts, part)
		}
	}
	return parts
}

func TestPartsOf(t *testing.T) {
	for x := range sampleTables {
		want := partsByLabels(x)
		parts, code := impl.PartsOf(x.graph())
		wantLists(t, "PartsOf", parts, code, want)
		if connected, code := impl.IsConnected(x.graph()); connected != (len(want) == 1) || code != impl.ErrNone {
			t.Errorf("IsConnected(%v) = %v, %d", x.graph(), connected, code)
		}
	}
	parts, code := impl.PartsOf(parsed(t, "6:0-4,1-5,2-4"))
	wantLists(t, "PartsOf", parts, code, [][]int64{{0, 2, 4}, {1, 5}, {3}})
	parts, code = impl.PartsOf(newTable(1).graph())
	wantLists(t, "PartsOf one vertex", parts, code, [][]int64{{0}})
}

// TestLongPaths goes along 62 vertices in an order that is not that of their numbers.
func TestLongPaths(t *testing.T) {
	path := newTable(62)
	for i := range int64(61) {
		path.join(i*23%62, (i+1)*23%62)
	}
	parts, code := impl.PartsOf(path.graph())
	wantLists(t, "PartsOf a path", parts, code, [][]int64{turn(62, 0)})
	connected, one := impl.IsConnected(path.graph())
	bipartite, two := impl.IsBipartite(path.graph())
	if !connected || !bipartite || one != impl.ErrNone || two != impl.ErrNone {
		t.Errorf("a path is connected %v, %d, bipartite %v, %d", connected, one, bipartite, two)
	}
	for n := int64(3); n <= 62; n++ {
		g, _ := impl.JumpGraph(n, nil)
		if bipartite, code := impl.IsBipartite(g); bipartite != (n%2 == 0) || code != impl.ErrNone {
			t.Errorf("IsBipartite of a ring of %d = %v, %d", n, bipartite, code)
		}
	}
}

// twoKinds tries all kinds for the vertices.
func twoKinds(x table) bool {
	for kinds := range 1 << len(x) {
		fits := true
		for _, e := range x.edges() {
			fits = fits && kinds>>e[0]&1 != kinds>>e[1]&1
		}
		if fits {
			return true
		}
	}
	return false
}

func TestIsBipartite(t *testing.T) {
	for x := range smallTables {
		want := twoKinds(x)
		if bipartite, code := impl.IsBipartite(x.graph()); bipartite != want || code != impl.ErrNone {
			t.Errorf("IsBipartite(%v) = %v, %d", x.graph(), bipartite, code)
		}
	}
	for text, want := range map[string]bool{"62:": true, "7:0-1,1-2,4-5,4-6,5-6": false, "7:0-1,0-2,1-2,4-5": false, "8:0-1,2-3,4-5,6-7": true} {
		if bipartite, code := impl.IsBipartite(parsed(t, text)); bipartite != want || code != impl.ErrNone {
			t.Errorf("IsBipartite(%s) = %v, %d", text, bipartite, code)
		}
	}
}

func complement(t *testing.T, g impl.Graph) impl.Graph {
	t.Helper()
	h, code := impl.ComplementOf(g)
	wantCode(t, "ComplementOf", code, impl.ErrNone)
	return h
}

func TestComplementOf(t *testing.T) {
	for x := range sampleTables {
		want := newTable(int64(len(x)))
		for v := range x {
			for w := range x {
				want[v][w] = v != w && !x[v][w]
			}
		}
		g, code := impl.ComplementOf(x.graph())
		wantGraph(t, "ComplementOf", g, code, want.graph())
	}
	g, code := impl.ComplementOf(newTable(1).graph())
	wantGraph(t, "ComplementOf one vertex", g, code, impl.Graph{Size: 1, Rows: []int64{0}})
	all := complement(t, newTable(62).graph())
	if all.Rows[0] != 1<<62-2 || all.Rows[61] != 1<<61-1 {
		t.Errorf("ComplementOf 62 vertices without edges = %v", all)
	}
}

func TestPartOn(t *testing.T) {
	for x := range sampleTables {
		for step := 1; step <= 3; step++ {
			var vertices []int64
			for v := len(x) % step; v < len(x); v += step {
				vertices = append(vertices, int64(v))
			}
			if len(vertices) == 0 {
				continue
			}
			want := newTable(int64(len(vertices)))
			for i, v := range vertices {
				for j, w := range vertices {
					want[i][j] = x[v][w]
				}
			}
			g, code := impl.PartOn(x.graph(), vertices)
			wantGraph(t, "PartOn", g, code, want.graph())
		}
	}
	g, code := impl.PartOn(parsed(t, "62:60-61"), []int64{60, 61})
	wantGraph(t, "PartOn", g, code, impl.Graph{Size: 2, Rows: []int64{2, 1}})
	g, code = impl.PartOn(newTable(1).graph(), []int64{0})
	wantGraph(t, "PartOn one vertex", g, code, newTable(1).graph())
}

func TestPartOnErrors(t *testing.T) {
	g := parsed(t, "4:0-1,0-2,2-3")
	for _, list := range [][]int64{nil, {}, {-1}, {4}, {0, 4}, {-1, 0}, {0, 0}, {1, 0}, {0, 2, 1}, {0, 1, 1}, {0, 1, 2, 3, 4}, {math.MinInt64}, {math.MaxInt64}, {0, math.MaxInt64, 1}} {
		wantError(t, call("PartOn", list), impl.ErrRange, results(impl.PartOn(g, list))...)
	}
	wantError(t, "PartOn with 63 vertices", impl.ErrRange, results(impl.PartOn(newTable(62).graph(), turn(63, 0)))...)
}

func TestPutAndTakeEdge(t *testing.T) {
	for x := range smallTables {
		g := x.graph()
		for a := range g.Size {
			for b := range g.Size {
				if a == b {
					continue
				}
				with, without := tableOf(g), tableOf(g)
				with.join(a, b)
				without[a][b], without[b][a] = false, false
				if x[a][b] {
					wantError(t, "PutEdge", impl.ErrState, results(impl.PutEdge(g, a, b))...)
					h, code := impl.TakeEdge(g, a, b)
					wantGraph(t, "TakeEdge", h, code, without.graph())
				} else {
					wantError(t, "TakeEdge", impl.ErrState, results(impl.TakeEdge(g, a, b))...)
					h, code := impl.PutEdge(g, a, b)
					wantGraph(t, "PutEdge", h, code, with.graph())
				}
			}
		}
	}
	g, code := impl.PutEdge(newTable(62).graph(), 61, 0)
	wantGraph(t, "PutEdge at 62 vertices", g, code, parsed(t, "62:0-61"))
	g, code = impl.TakeEdge(parsed(t, "62:0-1,60-61"), 61, 60)
	wantGraph(t, "TakeEdge at 62 vertices", g, code, parsed(t, "62:0-1"))
}

func TestPutAndTakeEdgeErrors(t *testing.T) {
	for _, text := range []string{"1:", "3:", "3:0-1,0-2,1-2", "62:"} {
		g := parsed(t, text)
		for _, ends := range [][2]int64{{0, 0}, {g.Size - 1, g.Size - 1}, {-1, 0}, {0, -1}, {g.Size, 0}, {0, g.Size}, {-1, -1}, {0, math.MaxInt64}, {math.MinInt64, 0}, {0, 64}, {64, 0}} {
			wantError(t, call("PutEdge", text, ends), impl.ErrRange, results(impl.PutEdge(g, ends[0], ends[1]))...)
			wantError(t, call("TakeEdge", text, ends), impl.ErrRange, results(impl.TakeEdge(g, ends[0], ends[1]))...)
		}
	}
}

func TestRenumberGraph(t *testing.T) {
	for x := range sampleTables {
		n := int64(len(x))
		for by := range min(n, 4) {
			p := turn(n, by)
			p[0], p[n-1] = p[n-1], p[0]
			want := newTable(n)
			for v := range x {
				for w := range x {
					want[p[v]][p[w]] = x[v][w]
				}
			}
			g, code := impl.RenumberGraph(x.graph(), p)
			wantGraph(t, "RenumberGraph", g, code, want.graph())
		}
	}
	g, code := impl.RenumberGraph(parsed(t, "3:0-1"), []int64{1, 2, 0})
	wantGraph(t, "RenumberGraph", g, code, parsed(t, "3:1-2"))
	g, code = impl.RenumberGraph(newTable(1).graph(), []int64{0})
	wantGraph(t, "RenumberGraph one vertex", g, code, newTable(1).graph())
}

func TestRenumberGraphErrors(t *testing.T) {
	g := parsed(t, "3:0-1")
	for _, p := range [][]int64{nil, {}, {0, 1}, {0, 1, 2, 3}, {0, 1, 1}, {0, 0, 0}, {1, 1, 2}, {2, 2, 1}, {0, 2, 2}, {0, 1, 3}, {-1, 0, 1}, {1, 2, 3}, {0, 1, math.MaxInt64}, {math.MinInt64, 1, 2}, {0, 1, 2, 2}, {0, 1, 64}} {
		wantError(t, call("RenumberGraph", p), impl.ErrRange, results(impl.RenumberGraph(g, p))...)
	}
}

func TestPutBeside(t *testing.T) {
	var shifted [][]int64
	for x := range sampleTables {
		for _, text := range []string{"1:", "3:0-1,1-2", "5:0-4,1-3"} {
			h := parsed(t, text)
			n := int64(len(x))
			if n+h.Size > impl.MaxVertices {
				wantError(t, "PutBeside", impl.ErrLimit, results(impl.PutBeside(x.graph(), h))...)
				continue
			}
			shifted = x.edges()
			for _, e := range tableOf(h).edges() {
				shifted = append(shifted, []int64{n + e[0], n + e[1]})
			}
			want, _ := impl.GraphOf(n+h.Size, shifted)
			g, code := impl.PutBeside(x.graph(), h)
			wantGraph(t, "PutBeside", g, code, want)
		}
	}
}

func TestPutBesideLimits(t *testing.T) {
	sixty, two := parsed(t, "60:0-59"), parsed(t, "2:0-1")
	g, code := impl.PutBeside(sixty, two)
	wantGraph(t, "PutBeside to 62", g, code, parsed(t, "62:0-59,60-61"))
	g, code = impl.PutBeside(two, sixty)
	wantGraph(t, "PutBeside to 62", g, code, parsed(t, "62:0-1,2-61"))
	wantError(t, "PutBeside to 63", impl.ErrLimit, results(impl.PutBeside(sixty, parsed(t, "3:0-1")))...)
	wantError(t, "PutBeside to 63", impl.ErrLimit, results(impl.PutBeside(parsed(t, "1:"), parsed(t, "62:")))...)
	wantError(t, "PutBeside to 124", impl.ErrLimit, results(impl.PutBeside(parsed(t, "62:"), parsed(t, "62:")))...)
}
