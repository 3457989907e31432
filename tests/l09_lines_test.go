package tests

import (
	"slices"
	"testing"

	"loop.example/g01331/impl"
)

// scatteredTable has n vertices and so many edges, which lie elsewhere for another seed.
func scatteredTable(n int64, edges int, seed uint32) table {
	pairs := groups(n, 1).edges()
	x := newTable(n)
	for i := range edges {
		seed = seed*1664525 + 1013904223
		j := i + int(seed>>8)%(len(pairs)-i)
		pairs[i], pairs[j] = pairs[j], pairs[i]
		x.join(pairs[i][0], pairs[i][1])
	}
	return x
}

// withPairs are graphs of different sizes with just so many edges.
func withPairs(edges int) []table {
	var list []table
	for n := int64(2); n <= impl.MaxVertices; n++ {
		if int(n*(n-1)/2) >= edges {
			list = append(list, scatteredTable(n, edges, uint32(n)), scatteredTable(n, edges, uint32(n+100)))
		}
	}
	return list
}

// lineByEdges joins the places of edges that have a vertex in common.
func lineByEdges(x table) table {
	edges := x.edges()
	return tableWhere(int64(len(edges)), func(e int64, f int64) bool {
		return slices.Contains(edges[f], edges[e][0]) || slices.Contains(edges[f], edges[e][1])
	})
}

// subdividedByEdges puts a vertex into each edge.
func subdividedByEdges(x table) table {
	edges := x.edges()
	y := newTable(int64(len(x) + len(edges)))
	for e, edge := range edges {
		for _, v := range edge {
			y.join(v, int64(len(x)+e))
		}
	}
	return y
}

// pairAt is a pair of an edge and one of its vertices, with the other one.
type pairAt struct {
	vertex int64
	other  int64
	edge   int
}

// inflatedByPairs sorts the pairs of all edges and their vertices.
func inflatedByPairs(x table) table {
	var pairs []pairAt
	for e, edge := range x.edges() {
		pairs = append(pairs, pairAt{edge[1], edge[0], e}, pairAt{edge[0], edge[1], e})
	}
	slices.SortFunc(pairs, func(p pairAt, q pairAt) int {
		return slices.Compare([]int64{p.vertex, p.other}, []int64{q.vertex, q.other})
	})
	return tableWhere(int64(len(pairs)), func(i int64, j int64) bool {
		return pairs[i].vertex == pairs[j].vertex || pairs[i].edge == pairs[j].edge
	})
}

// making is a function of chapter 9 that makes a graph of one, what it must make, and how many vertices that must have.
type making struct {
	name string
	make func(impl.Graph) (impl.Graph, int64)
	want func(table) table
	size func(table) int
}

func lineMaking() making {
	return making{"LineGraph", impl.LineGraph, lineByEdges, func(x table) int { return len(x.edges()) }}
}

func subdivideMaking() making {
	return making{"SubdivideGraph", impl.SubdivideGraph, subdividedByEdges, func(x table) int { return len(x) + len(x.edges()) }}
}

func inflateMaking() making {
	return making{"InflateGraph", impl.InflateGraph, inflatedByPairs, func(x table) int { return 2 * len(x.edges()) }}
}

// ask holds the answer against what must be made, or asks for ErrLimit. It returns whether there is a graph.
func (m making) ask(t *testing.T, x table) bool {
	t.Helper()
	what, size := call(m.name, x.graph()), m.size(x)
	if size < 1 || size > impl.MaxVertices {
		wantError(t, what, impl.ErrLimit, results(m.make(x.graph()))...)
		return false
	}
	got, code := m.make(x.graph())
	wantGraph(t, what, got, code, m.want(x).graph())
	if got.Size != int64(size) {
		t.Errorf("%s has %d vertices, want %d", what, got.Size, size)
	}
	return true
}

// askAll asks for all sample graphs, and for some of a few edges on many vertices.
func (m making) askAll(t *testing.T) {
	t.Helper()
	made, refused := 0, 0
	for x := range moreTables {
		if m.ask(t, x) {
			made++
		} else {
			refused++
		}
	}
	if made < 1100 || refused < 30 {
		t.Errorf("%s: %d graphs are made, and %d refused", m.name, made, refused)
	}
}

// askTexts asks for the graphs that texts tell.
func (m making) askTexts(t *testing.T, wanted map[string]string) {
	t.Helper()
	for text, want := range wanted {
		got, code := m.make(parsed(t, text))
		wantGraph(t, call(m.name, text), got, code, parsed(t, want))
	}
}

// askInvalid gives what is no graph, also where it would have no edges, or too many.
func (m making) askInvalid(t *testing.T) {
	t.Helper()
	for why, g := range wideNotGraphs() {
		wantError(t, m.name+": "+why, impl.ErrInvalid, results(m.make(g))...)
	}
}

// wideNotGraphs also has values of many edges, and of many vertices.
func wideNotGraphs() map[string]impl.Graph {
	list := notGraphs()
	all := groups(62, 1).graph().Rows
	list["all edges of 62 and 61 vertices"] = impl.Graph{Size: 61, Rows: all[:61]}
	list["all edges of 62 and a row"] = impl.Graph{Size: 62, Rows: append(slices.Clone(all), 0)}
	list["all edges of 62, one of them one way"] = groups(62, 1).without(61, 0).graph()
	list["62 vertices, one way"] = newTable(62).with(0, 61).graph()
	list["62 vertices, one's own neighbour"] = newTable(62).with(61, 61).graph()
	return list
}

// moreTables yields the sample graphs and some of a few edges on many vertices.
func moreTables(yield func(table) bool) {
	for x := range sampleTables {
		if !yield(x) {
			return
		}
	}
	for n := int64(6); n <= impl.MaxVertices; n += 4 {
		for _, edges := range []int{1, 2, 7, 14} {
			if !yield(scatteredTable(n, edges, uint32(n)+uint32(edges))) {
				return
			}
		}
	}
}

func TestLineGraph(t *testing.T) { lineMaking().askAll(t) }

func TestLineGraphsByHand(t *testing.T) {
	lineMaking().askTexts(t, map[string]string{
		"2:0-1":                     "1:",
		"4:1-3":                     "1:",
		"4:0-1,2-3":                 "2:",
		"3:0-1,1-2":                 "2:0-1",
		"3:0-1,0-2,1-2":             "3:0-1,0-2,1-2",
		"4:0-1,0-2,0-3":             "3:0-1,0-2,1-2",
		"6:0-4,1-2,2-4":             "3:0-2,1-2",
		"4:0-1,0-3,1-2,2-3":         "4:0-1,0-2,1-3,2-3",
		"4:0-1,0-2,0-3,1-2,1-3,2-3": "6:0-1,0-2,0-3,0-4,1-2,1-3,1-5,2-4,2-5,3-4,3-5,4-5",
	})
	all, code := impl.LineGraph(star(62).graph())
	wantGraph(t, "LineGraph of a star of 62", all, code, groups(61, 1).graph())
	way, code := impl.LineGraph(path(62, 1).graph())
	wantGraph(t, "LineGraph of a way of 62", way, code, path(61, 1).graph())
	apart, code := impl.LineGraph(severalParts(groups(2, 1), 31).graph())
	wantGraph(t, "LineGraph of 31 edges apart", apart, code, newTable(31).graph())
	pairs, code := impl.LineGraph(groups(11, 1).graph())
	wantGraph(t, "LineGraph of all edges of 11", pairs, code, johnson(11, 2).graph())
}

// TestLineGraphLimit has graphs of 62 edges and of 63 on few vertices and on many, and graphs without edges.
func TestLineGraphLimit(t *testing.T) {
	for _, edges := range []int{0, 1, 61, 62, 63, 64} {
		for _, x := range withPairs(edges) {
			lineMaking().ask(t, x)
		}
	}
	for _, x := range []table{newTable(1), newTable(62), ring(62), ring(62).together(0, 2), tableOf(named(t, "hoffmansingleton"))} {
		lineMaking().ask(t, x)
	}
	for n := int64(12); n <= impl.MaxVertices; n++ {
		wantError(t, call("LineGraph of all edges of", n), impl.ErrLimit, results(impl.LineGraph(groups(n, 1).graph()))...)
	}
	lineMaking().askInvalid(t)
}

func TestSubdivideGraph(t *testing.T) { subdivideMaking().askAll(t) }

func TestSubdividedByHand(t *testing.T) {
	subdivideMaking().askTexts(t, map[string]string{
		"1:":                "1:",
		"3:":                "3:",
		"62:":               "62:",
		"2:0-1":             "3:0-2,1-2",
		"4:1-3":             "5:1-4,3-4",
		"3:0-1,0-2,1-2":     "6:0-3,0-4,1-3,1-5,2-4,2-5",
		"4:0-3,1-2":         "6:0-4,1-5,2-5,3-4",
		"4:0-1,0-3,1-2,2-3": "8:0-4,0-5,1-4,1-6,2-6,2-7,3-5,3-7",
		"61:0-60":           "62:0-61,60-61",
	})
	way, code := impl.SubdivideGraph(path(31, 1).graph())
	wantCode(t, "SubdivideGraph of a way of 31", code, impl.ErrNone)
	if far, _, code := impl.DiameterOf(way); way.Size != 61 || far != 60 || code != impl.ErrNone {
		t.Errorf("a way of 31 subdivided has %d vertices and the diameter %d, %d", way.Size, far, code)
	}
}

// TestSubdivideGraphLimit has for each number of vertices as many edges as may be, and one more.
func TestSubdivideGraphLimit(t *testing.T) {
	for n := int64(11); n <= impl.MaxVertices; n++ {
		most := impl.MaxVertices - int(n)
		for _, edges := range []int{most - 1, most, most + 1, most + 2} {
			if edges >= 0 && edges <= int(n*(n-1)/2) {
				subdivideMaking().ask(t, scatteredTable(n, edges, uint32(n)))
			}
		}
	}
	for _, x := range []table{path(31, 1), ring(31), path(32, 1), groups(10, 1), groups(11, 1), groups(62, 1)} {
		subdivideMaking().ask(t, x)
	}
	wantError(t, "SubdivideGraph of 62 with one edge", impl.ErrLimit, results(impl.SubdivideGraph(parsed(t, "62:60-61")))...)
	subdivideMaking().askInvalid(t)
}

func TestInflateGraph(t *testing.T) { inflateMaking().askAll(t) }

// TestInflatedByHand also has vertices without edges, ahead of the others, between them and behind.
func TestInflatedByHand(t *testing.T) {
	inflateMaking().askTexts(t, map[string]string{
		"2:0-1":                     "2:0-1",
		"5:1-3":                     "2:0-1",
		"4:0-1,2-3":                 "4:0-1,2-3",
		"4:0-3,1-2":                 "4:0-3,1-2",
		"3:0-2,1-2":                 "4:0-2,1-3,2-3",
		"3:0-1,0-2":                 "4:0-1,0-2,1-3",
		"7:1-3,3-5":                 "4:0-1,1-2,2-3",
		"3:0-1,0-2,1-2":             "6:0-1,0-2,1-4,2-3,3-5,4-5",
		"4:0-1,0-2,0-3":             "6:0-1,0-2,0-3,1-2,1-4,2-5",
		"4:0-3,1-3,2-3":             "6:0-3,1-4,2-5,3-4,3-5,4-5",
		"4:0-1,0-2,0-3,1-2,1-3,2-3": "12:0-1,0-2,0-3,1-2,1-6,2-9,3-4,3-5,4-5,4-7,5-10,6-7,6-8,7-8,8-11,9-10,9-11,10-11",
	})
	around, code := impl.InflateGraph(ring(31).graph())
	wantCode(t, "InflateGraph of 31 around", code, impl.ErrNone)
	if degree, _ := impl.RegularDegree(around); around.Size != 62 || degree != 2 {
		t.Errorf("31 around inflated have %d vertices and the degree %d", around.Size, degree)
	}
	if girth, code := impl.GirthOf(around); girth != 62 || code != impl.ErrNone {
		t.Errorf("31 around inflated have the girth %d, %d", girth, code)
	}
}

// TestInflateGraphLimit has graphs of 31 edges and of 32 on few vertices and on many, and graphs without edges.
func TestInflateGraphLimit(t *testing.T) {
	for _, edges := range []int{0, 1, 30, 31, 32, 33, 62, 63} {
		for _, x := range withPairs(edges) {
			inflateMaking().ask(t, x)
		}
	}
	for _, x := range []table{newTable(1), newTable(62), star(32), star(33), path(62, 1), severalParts(groups(2, 1), 31)} {
		inflateMaking().ask(t, x)
	}
	for n := int64(9); n <= impl.MaxVertices; n++ {
		wantError(t, call("InflateGraph of all edges of", n), impl.ErrLimit, results(impl.InflateGraph(groups(n, 1).graph()))...)
	}
	inflateMaking().askInvalid(t)
}
