package tests

import (
	"slices"
	"testing"

	"loop.example/g01331/impl"
)

// wantGirthAsTold holds a graph that fits, or does not, against its degrees and its girth, and returns whether it fits.
func wantGirthAsTold(t *testing.T, g impl.Graph, k int64, c int64) bool {
	t.Helper()
	fits, code := impl.FitsBoth(g, k, c)
	wantCode(t, "FitsBoth", code, impl.ErrNone)
	degrees, code := impl.DegreesOf(g)
	wantCode(t, "DegreesOf", code, impl.ErrNone)
	girth, code := impl.GirthOf(g)
	withoutCycles := code == impl.ErrNotFound
	if fits != (slices.Max(degrees) <= k && (withoutCycles || girth >= c)) {
		t.Errorf("%v fits %d and %d: %v, the girth is %d, %d, the degrees are %v", g, k, c, fits, girth, code, degrees)
	}
	return fits
}

// TestPromise17 asks of all sample graphs.
func TestPromise17(t *testing.T) {
	met := map[bool]int{}
	for x := range allTables {
		for k, c := range withinBoth {
			met[wantGirthAsTold(t, x.graph(), k, c)]++
		}
	}
	if met[true] < 5000 || met[false] < 5000 {
		t.Errorf("there are so many graphs that fit and that do not alone: %v", met)
	}
}

// TestPromise17Made asks of the graphs that chapter 7 makes, which fit, and keep the bounds of Moore where they are regular.
func TestPromise17Made(t *testing.T) {
	check := func(g impl.Graph, k int64, c int64) {
		if !wantGirthAsTold(t, g, k, c) {
			t.Errorf("%v does not fit %d and %d", g, k, c)
		}
		degree, code := impl.RegularDegree(g)
		if least, other := impl.GirthBound(k, c); code == impl.ErrNone && degree == k && other == impl.ErrNone && g.Size < least {
			t.Errorf("%v has less than %d vertices", g, least)
		}
	}
	for f := range scatteredFits {
		check(f.x.graph(), f.k, f.c)
		if g, code := impl.FillGraph(f.x.graph(), f.k, f.c); code == impl.ErrNone {
			check(g, f.k, f.c)
		}
	}
	for k, c := range withinBoth {
		for n := int64(1); n <= impl.MaxVertices; n++ {
			if g, code := impl.GreedyGraph(n, k, c); code == impl.ErrNone {
				check(g, k, c)
			}
			if g, code := impl.FirstRegular(n, k, c); code == impl.ErrNone {
				check(g, k, c)
			}
		}
	}
}
