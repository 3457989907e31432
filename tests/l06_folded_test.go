package tests

import (
	"slices"
	"testing"

	"loop.example/g01331/impl"
)

// evenOnes returns the vertices at an even distance from 0, or nil if two of all those at even, or at odd distances are neighbours.
func evenOnes(x table, distances [][]int64) []int64 {
	var even []int64
	for v := range x {
		for w := range x {
			if x[v][w] && distances[0][v]%2 == distances[0][w]%2 {
				return nil
			}
		}
		if distances[0][v]%2 == 0 {
			even = append(even, int64(v))
		}
	}
	return even
}

func TestHalfOf(t *testing.T) {
	halves := 0
	for x := range allTables {
		g, distances := x.graph(), distancesBySums(x)
		even := evenOnes(x, distances)
		if even == nil || !areWhole(distances) {
			wantError(t, call("HalfOf", g), impl.ErrState, results(impl.HalfOf(g))...)
			continue
		}
		halves++
		half, code := impl.HalfOf(g)
		want := tableWhere(int64(len(even)), func(v int64, w int64) bool { return distances[even[v]][even[w]] == 2 })
		wantGraph(t, call("HalfOf", g), half, code, want.graph())
	}
	if halves < 300 {
		t.Errorf("%d graphs have halves", halves)
	}
}

func TestHalvesByHand(t *testing.T) {
	for text, want := range map[string]string{"1:": "1:", "2:0-1": "1:", "3:0-1,1-2": "2:0-1", "3:0-1,0-2": "1:", "3:0-2,1-2": "2:0-1", "4:0-3,1-2,1-3": "2:0-1",
		"4:0-2,1-3,2-3": "2:0-1", "6:0-1,0-5,1-2,2-3,3-4,4-5": "3:0-1,0-2,1-2", "5:0-4,1-2,1-4,2-3": "3:0-1,1-2"} {
		half, code := impl.HalfOf(parsed(t, text))
		wantGraph(t, call("HalfOf", text), half, code, parsed(t, want))
	}
	for what, c := range map[string][2]table{
		"the cube": {hamming(3, 2), groups(4, 1)}, "heawood": {tableOf(named(t, "heawood")), groups(7, 1)}, "62 around": {ring(62), ring(31)}, "a path of 62": {path(62, 1), path(31, 1)},
		"the middle of a star": {star(62), newTable(1)}, "31 and 31": {groups(2, 31), groups(31, 1)},
	} {
		half, code := impl.HalfOf(c[0].graph())
		wantGraph(t, "HalfOf "+what, half, code, c[1].graph())
	}
	half, code := impl.HalfOf(hamming(4, 2).graph())
	wantCode(t, "HalfOf 16 words", code, impl.ErrNone)
	parameters, code := impl.ParametersOf(half)
	wantList(t, "ParametersOf the half of 16 words", parameters, code, 8, 6, 4, 6)
	for _, text := range []string{"2:", "62:", "4:0-1,2-3", "3:0-1", "3:1-2", "3:0-1,0-2,1-2", "6:0-1,0-2,1-2,3-4,3-5,4-5", "4:0-1,1-2,1-3,2-3", "5:0-1,0-4,1-2,2-3,3-4", "8:0-1,0-3,1-2,2-3,4-5,4-7,5-6,6-7"} {
		wantError(t, call("HalfOf", text), impl.ErrState, results(impl.HalfOf(parsed(t, text)))...)
	}
}

// foldedByPairs looks at all vertices at the greatest distance from the same one; nil is for a graph that is not antipodal.
func foldedByPairs(x table, distances [][]int64) table {
	d := slices.Max(slices.Concat(distances...))
	if d < 2 {
		return nil
	}
	var firsts []int
	fibre := make([]int, len(x))
	for v := range x {
		for w := range x {
			for u := range x {
				if distances[v][w] == d && distances[v][u] == d && w != u && distances[w][u] != d {
					return nil
				}
			}
		}
		first := slices.IndexFunc(distances[v], func(distance int64) bool { return distance == 0 || distance == d })
		if first == v {
			firsts = append(firsts, v)
		}
		fibre[v] = slices.Index(firsts, first)
	}
	folded := newTable(int64(len(firsts)))
	for _, e := range x.edges() {
		folded.join(int64(fibre[e[0]]), int64(fibre[e[1]]))
	}
	return folded
}

func TestAntipodal(t *testing.T) {
	antipodal, others := map[int]int{}, 0
	for x := range allTables {
		g, distances := x.graph(), distancesBySums(x)
		if !areWhole(distances) {
			wantError(t, call("IsAntipodal", g), impl.ErrState, results(impl.IsAntipodal(g))...)
			wantError(t, call("FoldedGraph", g), impl.ErrState, results(impl.FoldedGraph(g))...)
			continue
		}
		want := foldedByPairs(x, distances)
		if yes, code := impl.IsAntipodal(g); yes != (want != nil) || code != impl.ErrNone {
			t.Errorf("IsAntipodal(%v) = %v, %d", g, yes, code)
		}
		if want == nil {
			others++
			wantError(t, call("FoldedGraph", g), impl.ErrState, results(impl.FoldedGraph(g))...)
			continue
		}
		antipodal[int(min(4, slices.Max(slices.Concat(distances...))))]++
		folded, code := impl.FoldedGraph(g)
		wantGraph(t, call("FoldedGraph", g), folded, code, want.graph())
	}
	if antipodal[2] < 100 || antipodal[3] < 100 || antipodal[4] < 100 || others < 500 {
		t.Errorf("%v graphs are antipodal, %d are not", antipodal, others)
	}
}

// TestFoldedByHand has fibres of one vertex, of two and of more. Two vertices of a fibre are at a distance of at least 2, so that none has an edge.
func TestFoldedByHand(t *testing.T) {
	for text, want := range map[string]string{
		"3:0-1,1-2": "2:0-1", "3:0-1,0-2": "2:0-1", "4:0-1,1-2,2-3": "3:0-1,0-2,1-2", "4:0-1,0-2,0-3": "2:0-1", "4:0-1,0-3,1-2,2-3": "2:0-1", "4:0-1,0-2,0-3,1-2,1-3": "3:0-1,0-2,1-2",
		"5:0-1,1-2,2-3,3-4": "4:0-1,0-3,1-2,2-3", "5:0-2,0-4,1-3,1-4": "4:0-2,0-3,1-2,1-3", "6:0-1,0-5,1-2,2-3,3-4,4-5": "3:0-1,0-2,1-2",
	} {
		folded, code := impl.FoldedGraph(parsed(t, text))
		wantGraph(t, call("FoldedGraph", text), folded, code, parsed(t, want))
		if yes, code := impl.IsAntipodal(parsed(t, text)); !yes || code != impl.ErrNone {
			t.Errorf("IsAntipodal(%s) = %v, %d", text, yes, code)
		}
	}
	for what, c := range map[string][2]table{
		"the cube": {hamming(3, 2), groups(4, 1)}, "k33": {groups(2, 3), groups(2, 1)}, "an octahedron": {groups(3, 2), groups(3, 1)}, "icosahedron": {tableOf(named(t, "icosahedron")), groups(6, 1)},
		"62 around": {ring(62), ring(31)}, "a path of 62": {path(62, 1), ring(61)}, "a star": {star(62), groups(2, 1)}, "31 pairs": {groups(31, 2), groups(31, 1)},
	} {
		folded, code := impl.FoldedGraph(c[0].graph())
		wantGraph(t, "FoldedGraph "+what, folded, code, c[1].graph())
	}
	for what, c := range map[string]struct {
		g    impl.Graph
		want []int64
	}{
		"dodecahedron": {named(t, "dodecahedron"), []int64{10, 3, 0, 1}}, "desargues": {named(t, "desargues"), []int64{10, 3, 0, 1}},
		"16 words": {hamming(4, 2).graph(), []int64{8, 4, 0, 4}}, "32 words": {hamming(5, 2).graph(), []int64{16, 5, 0, 2}},
	} {
		folded, code := impl.FoldedGraph(c.g)
		wantCode(t, "FoldedGraph "+what, code, impl.ErrNone)
		parameters, code := impl.ParametersOf(folded)
		wantList(t, "ParametersOf folded "+what, parameters, code, c.want...)
	}
}

// TestNotAntipodal has diameters of 0, 1, 2 and more, and graphs that are not connected.
func TestNotAntipodal(t *testing.T) {
	for what, x := range map[string]table{
		"one vertex": newTable(1), "an edge": path(2, 1), "a triangle": ring(3), "62 joined ones": groups(62, 1), "a pentagon": ring(5), "petersen": tableOf(named(t, "petersen")),
		"61 around": ring(61), "heawood": tableOf(named(t, "heawood")), "a fork": tableOf(parsed(t, "5:0-1,0-2,0-3,3-4")), "two tips on an end": tableOf(parsed(t, "5:0-1,1-2,2-3,2-4")),
	} {
		g := x.graph()
		wantError(t, "FoldedGraph "+what, impl.ErrState, results(impl.FoldedGraph(g))...)
		if yes, code := impl.IsAntipodal(g); yes || code != impl.ErrNone {
			t.Errorf("IsAntipodal %s = %v, %d", what, yes, code)
		}
	}
	for _, text := range []string{"2:", "62:", "3:0-1", "3:1-2", "4:0-1,2-3", "6:0-1,1-2,3-4,4-5", "8:0-1,0-3,1-2,2-3,4-5,4-7,5-6,6-7"} {
		g := parsed(t, text)
		wantError(t, call("FoldedGraph", text), impl.ErrState, results(impl.FoldedGraph(g))...)
		wantError(t, call("IsAntipodal", text), impl.ErrState, results(impl.IsAntipodal(g))...)
	}
}
