package tests

import (
	"slices"
	"testing"

	"loop.example/g01331/impl"
)

// TestPromise10Refined asks that refined partitions are equal, finer, and not refined again, and that no equal partition is refined at all.
func TestPromise10Refined(t *testing.T) {
	met := 0
	for x := range allTables {
		g := x.graph()
		for _, list := range somePartitions(g.Size) {
			refined, code := impl.RefinedPartition(g, list)
			wantPartition(t, g, refined, code == impl.ErrNone)
			wantEqual(t, g, refined, true)
			again, code := impl.RefinedPartition(g, refined)
			wantList(t, call("RefinedPartition again", g, refined), again, code, refined...)
			if !isFiner(refined, list) {
				t.Errorf("RefinedPartition(%v, %v) = %v, which is not finer", g, list, refined)
			}
			is, code := impl.IsEqualPartition(g, list)
			if same := slices.Equal(refined, list); is != same || code != impl.ErrNone {
				t.Errorf("IsEqualPartition(%v, %v) = %v, %d, refined %v", g, list, is, code, refined)
			}
			if !is {
				met++
			}
		}
	}
	if met < 1000 {
		t.Errorf("%d partitions alone are refined", met)
	}
}

// TestPromise10Complements asks that the complement has the same refined partitions, automorphisms and orbits.
func TestPromise10Complements(t *testing.T) {
	for x := range sampleTables {
		g := x.graph()
		h := complement(t, g)
		for _, list := range somePartitions(g.Size) {
			refined, code := impl.RefinedPartition(g, list)
			wantCode(t, "RefinedPartition", code, impl.ErrNone)
			other, code := impl.RefinedPartition(h, list)
			wantList(t, call("RefinedPartition of the complement", h, list), other, code, refined...)
		}
		one, code := impl.CountAutomorphisms(g)
		two, other := impl.CountAutomorphisms(h)
		orbits, _ := impl.VertexOrbits(g)
		others, last := impl.VertexOrbits(h)
		wantLists(t, call("VertexOrbits of the complement", h), others, last, orbits)
		if one != two || code != other {
			t.Errorf("%v has %d, %d automorphisms, the complement %d, %d", g, one, code, two, other)
		}
	}
}

// TestPromise10Counts asks that orbits have all vertices, each once, and that the number of automorphisms is that of each orbit times a stabiliser number.
func TestPromise10Counts(t *testing.T) {
	met := map[int64]int{}
	for x := range allTables {
		g := x.graph()
		orbits, code := impl.VertexOrbits(g)
		wantCode(t, "VertexOrbits", code, impl.ErrNone)
		all := slices.Concat(orbits...)
		slices.Sort(all)
		wantList(t, call("all orbits together", g), all, code, turn(g.Size, 0)...)
		count, code := impl.CountAutomorphisms(g)
		met[code]++
		for i, orbit := range orbits {
			if i > 0 && orbits[i-1][0] > orbit[0] {
				t.Errorf("the orbits of %v are %v", g, orbits)
			}
			if i < 4 {
				wantOrbitTimes(t, g, orbit, orbit[i%len(orbit)], count, code)
			}
		}
		alike, _ := impl.LooksAlike(g)
		if alike != (len(orbits) == 1) {
			t.Errorf("%v has the orbits %v, and looks alike: %v", g, orbits, alike)
		}
	}
	if met[impl.ErrNone] < 1000 || met[impl.ErrLimit] < 50 || len(met) != 2 {
		t.Errorf("codes of CountAutomorphisms: %v", met)
	}
}

// wantOrbitTimes asks of one vertex of an orbit, told a number of automorphisms and its code.
func wantOrbitTimes(t *testing.T, g impl.Graph, orbit []int64, v int64, count int64, code int64) {
	t.Helper()
	own, other := impl.OrbitOf(g, v)
	wantList(t, call("OrbitOf", g, v), own, other, orbit...)
	stabiliser, other := impl.StabiliserNumber(g, v)
	many := int64(len(orbit))
	switch {
	case code == impl.ErrNone && (other != impl.ErrNone || stabiliser*many != count):
		t.Errorf("%v has %d automorphisms, the orbit %v, and the stabiliser number %d, %d", g, count, orbit, stabiliser, other)
	case code == impl.ErrLimit && other == impl.ErrNone && stabiliser*many <= impl.MaxCount:
		t.Errorf("%v has too many automorphisms, the orbit %v, and the stabiliser number %d", g, orbit, stabiliser)
	case code == impl.ErrLimit && other != impl.ErrNone && other != impl.ErrLimit:
		t.Errorf("StabiliserNumber(%v, %d): code %d", g, v, other)
	}
}

// TestPromise10Pairs asks that the pairs of different vertices are in orbits of pairs, each once, with vertices of one orbit first, and that their numbers divide that of the automorphisms.
func TestPromise10Pairs(t *testing.T) {
	for x := range sampleTables {
		g := x.graph()
		if g.Size > 20 {
			continue
		}
		count, code := impl.CountAutomorphisms(g)
		left := groups(g.Size, 1).arcs()
		for len(left) > 0 {
			a, b := left[0][0], left[0][1]
			pairs, other := impl.PairOrbit(g, a, b)
			wantCode(t, "PairOrbit", other, impl.ErrNone)
			if code == impl.ErrNone && count%int64(len(pairs)) != 0 {
				t.Errorf("%v has %d automorphisms, and %d pairs in an orbit", g, count, len(pairs))
			}
			orbit, _ := impl.OrbitOf(g, a)
			if len(pairs)%len(orbit) != 0 {
				t.Errorf("the orbit of %d, %d in %v has %d pairs", a, b, g, len(pairs))
			}
			before := len(left)
			left = slices.DeleteFunc(left, func(pair []int64) bool {
				return slices.ContainsFunc(pairs, func(p []int64) bool { return slices.Equal(p, pair) })
			})
			if before-len(left) != len(pairs) {
				t.Errorf("the orbit of %d, %d in %v is %v", a, b, g, pairs)
			}
			last := pairs[len(pairs)-1]
			again, other := impl.PairOrbit(g, last[0], last[1])
			wantLists(t, call("PairOrbit of its last pair", g), again, other, pairs)
		}
	}
}

// TestPromise10Colours asks that vertices of one orbit have one colour in the refined first partition, so that orbits are an equal partition.
func TestPromise10Colours(t *testing.T) {
	for x := range allTables {
		g := x.graph()
		refined, code := impl.RefinedPartition(g, make([]int64, g.Size))
		wantCode(t, "RefinedPartition", code, impl.ErrNone)
		orbits, _ := impl.VertexOrbits(g)
		list := make([]int64, g.Size)
		for i, orbit := range orbits {
			for _, v := range orbit {
				list[v] = int64(i)
			}
		}
		wantEqual(t, g, list, true)
		if !isFiner(list, refined) {
			t.Errorf("%v has the orbits %v, and the refined partition %v", g, orbits, refined)
		}
	}
}

// TestAnswersOwnTheirMemory10 writes over the answers of chapter 10, asks again, and looks at the arguments and what lies behind them.
func TestAnswersOwnTheirMemory10(t *testing.T) {
	rows, otherRows, colours := path(4, 1).graph().Rows, groups(4, 1).graph().Rows, []int64{0, 0, 0, 0}
	g, h := impl.Graph{Size: 4, Rows: guarded(rows)}, impl.Graph{Size: 4, Rows: guarded(otherRows)}
	equal := []int64{0, 1, 1, 0}
	list, finer := guarded(colours), guarded(equal)
	for range 2 {
		refined, code := impl.RefinedPartition(g, list)
		wantList(t, "RefinedPartition", refined, code, equal...)
		spoil(refined)
		refined, code = impl.RefinedPartition(g, finer)
		wantList(t, "RefinedPartition", refined, code, equal...)
		spoil(refined)
		orbit, code := impl.OrbitOf(g, 1)
		wantList(t, "OrbitOf", orbit, code, 1, 2)
		spoil(orbit)
		spoilLists(t, [][]int64{{0, 3}, {1, 2}}, func() ([][]int64, int64) { return impl.VertexOrbits(g) })
		spoilLists(t, [][]int64{{1, 0}, {2, 3}}, func() ([][]int64, int64) { return impl.PairOrbit(g, 2, 3) })
		wantPartition(t, g, list, true)
		wantEqual(t, g, list, false)
		wantAlike(t, "a ring", tableOf(h), true, true)
		impl.AreIsomorphic(g, h)
		impl.AreIsomorphic(h, h)
		impl.CountAutomorphisms(g)
		impl.CountAutomorphisms(h)
		impl.StabiliserNumber(g, 3)
		impl.LooksAlike(g)
		impl.LooksAlikeByArcs(g)
		wantGuarded(t, "the graph", g.Rows, rows)
		wantGuarded(t, "the other graph", h.Rows, otherRows)
		wantGuarded(t, "the partition", list, colours)
		wantGuarded(t, "the equal partition", finer, equal)
	}
}

// spoilLists writes over one list of an answer after the other, and looks at those behind it.
func spoilLists(t *testing.T, want [][]int64, ask func() ([][]int64, int64)) {
	t.Helper()
	for range 2 {
		lists, code := ask()
		for i := range lists {
			wantLists(t, "lists of an answer", lists[i:], code, want[i:])
			spoil(lists[i])
		}
	}
}
