package tests

import (
	"slices"
	"testing"

	"loop.example/g01331/impl"
)

// invariants are what isomorphic graphs have in common, with the codes.
func invariants(g impl.Graph) [][]int64 {
	count, code := impl.CountAutomorphisms(g)
	girth, none := impl.GirthOf(g)
	cycles, other := impl.CountShortest(g)
	degrees, _ := impl.DegreesOf(g)
	orbits, _ := impl.VertexOrbits(g)
	var sizes []int64
	for _, orbit := range orbits {
		sizes = append(sizes, int64(len(orbit)))
	}
	slices.Sort(degrees)
	slices.Sort(sizes)
	alike, arcs := int64(0), int64(0)
	if is, _ := impl.LooksAlike(g); is {
		alike = 1
	}
	if is, _ := impl.LooksAlikeByArcs(g); is {
		arcs = 1
	}
	return [][]int64{{count, code}, {girth, none}, {cycles, other}, degrees, sizes, {alike, arcs}}
}

// TestPromise14Renumbered asks that renumbered graphs are isomorphic, have as many automorphisms and the same girth, and all else alike.
func TestPromise14Renumbered(t *testing.T) {
	for x := range allTables {
		g := x.graph()
		renumbered, code := impl.RenumberGraph(g, places(g.Size, 11))
		wantCode(t, "RenumberGraph", code, impl.ErrNone)
		same, code := impl.AreIsomorphic(g, renumbered)
		if !same || code != impl.ErrNone {
			t.Errorf("%v is not isomorphic to itself renumbered, %d", g, code)
		}
		wantLists(t, call("what renumbered graphs have in common", g), invariants(renumbered), code, invariants(g))
	}
}

// TestPromise14Isomorphic asks of pairs of graphs that isomorphic ones have all in common, and those that have not are not isomorphic.
func TestPromise14Isomorphic(t *testing.T) {
	bySize := map[int64][]impl.Graph{}
	for x := range patternedTables {
		if g := x.graph(); g.Size <= 24 {
			bySize[g.Size] = append(bySize[g.Size], g)
		}
	}
	met := map[bool]int{}
	for _, some := range bySize {
		known := map[string][]impl.Graph{}
		for _, g := range some {
			key := call("", invariants(g))
			for other, list := range known {
				same, code := impl.AreIsomorphic(g, list[0])
				met[same]++
				if same && other != key || code != impl.ErrNone {
					t.Errorf("AreIsomorphic(%v, %v) = %v, %d, but they have not all in common", g, list[0], same, code)
				}
			}
			known[key] = append(known[key], g)
		}
	}
	if met[true] < 500 || met[false] < 1000 {
		t.Errorf("pairs that are isomorphic, and not: %v", met)
	}
}

// TestPromise14Alike asks that graphs that look alike are regular, and those from all arcs but for vertices without neighbours.
func TestPromise14Alike(t *testing.T) {
	met := map[[2]bool]int{}
	for x := range allTables {
		g := x.graph()
		vertices, one := impl.LooksAlike(g)
		arcs, two := impl.LooksAlikeByArcs(g)
		wantCode(t, "LooksAlike", one, impl.ErrNone)
		wantCode(t, "LooksAlikeByArcs", two, impl.ErrNone)
		met[[2]bool{vertices, arcs}]++
		if _, code := impl.RegularDegree(g); vertices && code != impl.ErrNone {
			t.Errorf("%v looks alike, and is not regular", g)
		}
		degrees := degreesOf(t, "a graph", g)
		some := slices.DeleteFunc(degrees, func(k int64) bool { return k == 0 })
		if arcs && (len(some) == 0 || slices.Min(some) != slices.Max(some)) {
			t.Errorf("%v looks alike from all arcs, and has the degrees %v", g, some)
		}
	}
	for _, vertices := range []bool{true, false} {
		for _, arcs := range []bool{true, false} {
			if met[[2]bool{vertices, arcs}] < 60 {
				t.Errorf("graphs that look alike from vertices, and from arcs: %v", met)
			}
		}
	}
}

// TestPromise14Cycles asks that vertices of one orbit have one girth, and that edges in one orbit have equally many shortest cycles.
func TestPromise14Cycles(t *testing.T) {
	for x := range sampleTables {
		g := x.graph()
		orbits, code := impl.VertexOrbits(g)
		wantCode(t, "VertexOrbits", code, impl.ErrNone)
		for _, orbit := range orbits {
			girth, none := impl.GirthAt(g, orbit[0])
			levels, _ := impl.LevelsFrom(g, orbit[0])
			for _, v := range orbit {
				at, other := impl.GirthAt(g, v)
				if at != girth || other != none {
					t.Errorf("the girths at %d and %d in %v are %d, %d and %d, %d", orbit[0], v, g, girth, none, at, other)
				}
				from, code := impl.LevelsFrom(g, v)
				wantList(t, call("LevelsFrom", g, v), from, code, levels...)
			}
		}
		edges := x.edges()
		for i := 0; i < len(edges); i += 1 + len(edges)/5 {
			edge := edges[i]
			through, code := impl.ShortestThrough(g, edge[0], edge[1])
			if code != impl.ErrNone {
				continue
			}
			pairs, _ := impl.PairOrbit(g, edge[0], edge[1])
			for _, pair := range pairs {
				if other, _ := impl.ShortestThrough(g, pair[0], pair[1]); other != through {
					t.Errorf("%d shortest cycles go through %v in %v, %d through %v", through, edge, g, other, pair)
				}
			}
		}
	}
}
