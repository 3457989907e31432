package tests

import (
	"testing"

	"loop.example/g01331/impl"
)

// TestPromise13 asks of all plane graphs that they are regular Moore graphs of the girth 6, bipartite, of the diameter 3.
func TestPromise13(t *testing.T) {
	met := 0
	for q := int64(-10); q <= 130; q++ {
		g, code := impl.PlaneGraph(q)
		if code != impl.ErrNone {
			continue
		}
		met++
		degree, code := impl.RegularDegree(g)
		if degree != q+1 || code != impl.ErrNone {
			t.Errorf("PlaneGraph(%d) has the degree %d, %d", q, degree, code)
		}
		girth, code := impl.GirthOf(g)
		if girth != 6 || code != impl.ErrNone {
			t.Errorf("PlaneGraph(%d) has the girth %d, %d", q, girth, code)
		}
		bound, code := impl.GirthBound(q+1, 6)
		if g.Size != bound || code != impl.ErrNone {
			t.Errorf("PlaneGraph(%d) has %d vertices, the bound is %d, %d", q, g.Size, bound, code)
		}
		excess, code := impl.ExcessOf(g)
		if excess != 0 || code != impl.ErrNone {
			t.Errorf("PlaneGraph(%d) has the excess %d, %d", q, excess, code)
		}
		moore, code := impl.IsMooreGraph(g)
		if !moore || code != impl.ErrNone {
			t.Errorf("PlaneGraph(%d) is a Moore graph: %v, %d", q, moore, code)
		}
		diameter, radius, code := impl.DiameterOf(g)
		if diameter != 3 || radius != 3 || code != impl.ErrNone {
			t.Errorf("PlaneGraph(%d) has the diameter %d and the radius %d, %d", q, diameter, radius, code)
		}
		if bipartite, code := impl.IsBipartite(g); !bipartite || code != impl.ErrNone {
			t.Errorf("PlaneGraph(%d) is bipartite: %v, %d", q, bipartite, code)
		}
	}
	if met != 3 {
		t.Errorf("there are %d plane graphs", met)
	}
}
