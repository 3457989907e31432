package tests

import (
	"slices"
	"testing"

	"loop.example/g01331/impl"
)

// TestPromise5Inverses asks that products with inverses are the unit, from both sides, and that the order counts the powers.
func TestPromise5Inverses(t *testing.T) {
	for g := range allGroups {
		order, code := impl.OrderOfGroup(g.group)
		wantCode(t, "OrderOfGroup", code, impl.ErrNone)
		for x := range order {
			y, code := impl.InverseIn(g.group, x)
			wantCode(t, "InverseIn", code, impl.ErrNone)
			before, one := impl.ProductIn(g.group, y, x)
			behind, other := impl.ProductIn(g.group, x, y)
			if before != 0 || behind != 0 || one != impl.ErrNone || other != impl.ErrNone {
				t.Errorf("in %v the products of %d and its inverse %d are %d and %d", g.group, x, y, before, behind)
			}
			back, _ := impl.InverseIn(g.group, y)
			left, _ := impl.ProductIn(g.group, 0, x)
			right, _ := impl.ProductIn(g.group, x, 0)
			if back != x || left != x || right != x {
				t.Errorf("in %v the inverse of the inverse of %d is %d, the products with the unit are %d and %d", g.group, x, back, left, right)
			}
			powers, _ := impl.GeneratedBy(g.group, []int64{x})
			if k, code := impl.OrderOf(g.group, x); k != int64(len(powers)) || order%k != 0 || code != impl.ErrNone {
				t.Errorf("in %v the order of %d is %d, %d, with %d powers", g.group, x, k, code, len(powers))
			}
		}
	}
}

// TestPromise5Products asks that it does not matter which of two products is made first.
func TestPromise5Products(t *testing.T) {
	product := func(g impl.Group, x int64, y int64) int64 {
		z, code := impl.ProductIn(g, x, y)
		wantCode(t, "ProductIn", code, impl.ErrNone)
		return z
	}
	for g := range allGroups {
		for x := range g.order() {
			for y := int64(0); y < g.order(); y += 1 + g.order()/9 {
				for z := int64(0); z < g.order(); z += 1 + g.order()/7 {
					if product(g.group, product(g.group, x, y), z) != product(g.group, x, product(g.group, y, z)) {
						t.Errorf("in %v the products of %d, %d and %d differ", g.group, x, y, z)
					}
				}
			}
		}
	}
}

// TestPromise5Cayley asks that Cayley graphs are regular of as many as the set has, that they have as many parts as the
// generated elements fit, and that these are the part with the unit.
func TestPromise5Cayley(t *testing.T) {
	met := 0
	for g := range allGroups {
		for set := range g.someSets {
			yes, code := impl.IsConnectionSet(g.group, set)
			graph, other := impl.CayleyGraph(g.group, set)
			if !yes || code != impl.ErrNone || other != impl.ErrNone {
				t.Errorf("%v is no connection set of %v: %v, %d, %d", set, g.group, yes, code, other)
				continue
			}
			met++
			if k, code := impl.RegularDegree(graph); k != int64(len(set)) || !impl.IsGraph(graph) || graph.Size != g.order() || code != impl.ErrNone {
				t.Errorf("CayleyGraph(%v, %v) = %v is of degree %d, %d", g.group, set, graph, k, code)
			}
			generated, code := impl.GeneratedBy(g.group, set)
			wantCode(t, "GeneratedBy", code, impl.ErrNone)
			parts, _ := impl.PartsOf(graph)
			if int64(len(parts)*len(generated)) != g.order() || !slices.Equal(parts[0], generated) {
				t.Errorf("CayleyGraph(%v, %v) has the parts %v, and %v are generated", g.group, set, parts, generated)
			}
		}
	}
	if met < 3000 {
		t.Errorf("there are %d sets alone", met)
	}
}

// TestPromise5Closed asks that closed sets are connection sets that generate the same, and stay as they are.
func TestPromise5Closed(t *testing.T) {
	for g := range allGroups {
		for list := range g.someLists {
			set, code := impl.ClosedSet(g.group, list)
			wantCode(t, "ClosedSet", code, impl.ErrNone)
			if yes, code := impl.IsConnectionSet(g.group, set); !yes || code != impl.ErrNone {
				t.Errorf("the closed set %v of %v is no connection set: %d", set, list, code)
			}
			again, code := impl.ClosedSet(g.group, set)
			wantList(t, call("ClosedSet", g.group, set), again, code, set...)
			want, _ := impl.GeneratedBy(g.group, list)
			generated, code := impl.GeneratedBy(g.group, set)
			wantList(t, call("GeneratedBy", g.group, set), generated, code, want...)
			if g.group.Kind == cyclic && !slices.Contains(list, 0) {
				graph, _ := impl.CayleyGraph(g.group, set)
				circulant, code := impl.CirculantGraph(g.group.Param, list)
				wantGraph(t, call("CirculantGraph", g.group.Param, list), circulant, code, graph)
			}
		}
	}
}

// TestAnswersOwnTheirMemory5 writes over the answers of chapter 5, and looks at the arguments.
func TestAnswersOwnTheirMemory5(t *testing.T) {
	g := groupOf(affine, 5)
	elements, letters, broken := []int64{5, 10, 19}, []int64{0, 2, 1}, []int64{5, 19}
	set, word, list, jumps := guarded(elements), guarded(letters), guarded(broken), guarded(elements)
	for range 2 {
		closed, code := impl.ClosedSet(g, set)
		wantList(t, "ClosedSet", closed, code, elements...)
		spoil(closed)
		closed, code = impl.ClosedSet(g, list)
		wantList(t, "ClosedSet", closed, code, elements...)
		spoil(closed)
		generated, code := impl.GeneratedBy(g, list)
		wantList(t, "GeneratedBy", generated, code, groupTableOf(g).generated(broken)...)
		spoil(generated)
		graph, code := impl.CayleyGraph(g, set)
		if degree, _ := impl.RegularDegree(graph); degree != 3 || code != impl.ErrNone {
			t.Errorf("CayleyGraph = %v, %d", graph, code)
		}
		spoil(graph.Rows)
		graph, code = impl.CirculantGraph(38, jumps)
		wantGraph(t, "CirculantGraph", graph, code, circulantTable(38, elements).graph())
		spoil(graph.Rows)
		impl.IsConnectionSet(g, set)
		impl.IsConnectionSet(g, list)
		impl.CayleyGraph(g, list)
		impl.ProductOfWord(g, set, word)
		impl.ProductOfWord(g, list, word)
		impl.WordGirth(g, set)
		impl.WordGirth(g, list)
		wantGuarded(t, "chapter 5", set, elements)
		wantGuarded(t, "chapter 5", word, letters)
		wantGuarded(t, "chapter 5", list, broken)
		wantGuarded(t, "chapter 5", jumps, elements)
	}
}
