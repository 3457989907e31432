package tests

import (
	"testing"

	"loop.example/g01331/impl"
)

// TestPromise12Bounds asks of all regular samples that they keep the bounds of Moore.
func TestPromise12Bounds(t *testing.T) {
	met := 0
	for x := range sampleTables {
		met += keepBounds(t, x.graph())
	}
	for n := int64(3); n <= impl.MaxVertices; n++ {
		met += keepBounds(t, ring(n).graph())
		met += keepBounds(t, complement(t, ring(n).graph()))
	}
	for diamonds := range 12 {
		met += keepBounds(t, chain(shortEnd(), diamonds, shortEnd()).graph())
	}
	for _, name := range names() {
		if twice, code := impl.PutBeside(named(t, name), named(t, name)); code == impl.ErrNone {
			met += keepBounds(t, twice)
		}
	}
	for x := range patternedTables {
		met += keepBounds(t, x.graph())
	}
	if met < 1000 {
		t.Errorf("%d graphs alone are regular", met)
	}
}

// keepBounds returns 1 if g is regular of a degree of at least 2, and 0 if it is not.
func keepBounds(t *testing.T, g impl.Graph) int {
	t.Helper()
	k, code := impl.RegularDegree(g)
	if code != impl.ErrNone || k < 2 {
		return 0
	}
	girth, code := impl.GirthOf(g)
	wantCode(t, "GirthOf", code, impl.ErrNone)
	least, code := impl.GirthBound(k, girth)
	wantCode(t, "GirthBound", code, impl.ErrNone)
	excess, code := impl.ExcessOf(g)
	if g.Size < least || excess != g.Size-least || code != impl.ErrNone {
		t.Errorf("%v has the girth bound %d and the excess %d, %d", g, least, excess, code)
	}
	connected, _ := impl.IsConnected(g)
	moore, code := impl.IsMooreGraph(g)
	if moore != (connected && excess == 0) || code != impl.ErrNone {
		t.Errorf("%v is a Moore graph: %v, %d, with the excess %d", g, moore, code, excess)
	}
	if !connected {
		wantError(t, "DefectOf", impl.ErrState, results(impl.DefectOf(g))...)
		return 1
	}
	diameter, _, code := impl.DiameterOf(g)
	wantCode(t, "DiameterOf", code, impl.ErrNone)
	most, code := impl.DiameterBound(k, diameter)
	wantCode(t, "DiameterBound", code, impl.ErrNone)
	defect, code := impl.DefectOf(g)
	if g.Size > most || defect != most-g.Size || code != impl.ErrNone {
		t.Errorf("%v has the diameter bound %d and the defect %d, %d", g, most, defect, code)
	}
	return 1
}

// TestPromise12Strong asks of all connected strongly regular graphs that they are distance-regular, with arrays as the parameters tell, and of all with arrays of two numbers each that they are strongly regular.
func TestPromise12Strong(t *testing.T) {
	met := 0
	for x := range allTables {
		g := x.graph()
		connected, _ := impl.IsConnected(g)
		parameters, code := impl.ParametersOf(g)
		b, c, other := impl.ArraysOf(g)
		if !connected || code != impl.ErrNone {
			if other == impl.ErrNone && len(b) == 2 {
				t.Errorf("%v has the arrays %v and %v, and no parameters, %d", g, b, c, code)
			}
			continue
		}
		met++
		n, k, l, m := parameters[0], parameters[1], parameters[2], parameters[3]
		if regular, code := impl.IsDistanceRegular(g); !regular || code != impl.ErrNone {
			t.Errorf("%v has the parameters %v, and is distance-regular: %v, %d", g, parameters, regular, code)
		}
		wantList(t, call("b of ArraysOf", g), b, other, k, k-l-1)
		wantList(t, call("c of ArraysOf", g), c, other, 1, m)
		if degree, code := impl.RegularDegree(g); n != g.Size || degree != k || code != impl.ErrNone || k*(k-l-1) != (n-k-1)*m {
			t.Errorf("%v has the parameters %v, and the degree %d, %d", g, parameters, degree, code)
		}
	}
	if met < 100 {
		t.Errorf("%d graphs alone are connected and strongly regular", met)
	}
}
