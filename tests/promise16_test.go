package tests

import (
	"testing"

	"loop.example/g01331/impl"
)

// TestPromise16 asks of all connection sets that the word girth is the girth of the Cayley graph, as far as it is told.
func TestPromise16(t *testing.T) {
	told, untold := map[int64]int{}, 0
	for g := range allGroups {
		for set := range g.someSets {
			graph, code := impl.CayleyGraph(g.group, set)
			wantCode(t, "CayleyGraph", code, impl.ErrNone)
			girth, code := impl.GirthOf(graph)
			if code == impl.ErrNone && girth <= impl.MaxLetter {
				told[girth]++
				wantWordGirth(t, g.group, set, girth)
				continue
			}
			untold++
			wantWordGirth(t, g.group, set, 0)
		}
	}
	if told[3] < 100 || told[4] < 100 || told[5] < 10 || told[6] < 10 || told[16] < 3 || untold < 100 {
		t.Errorf("%v word girths alone are told, and %d not", told, untold)
	}
}

// TestPromise16Girths asks of connection sets of three elements of dihedral and affine groups, with greater girths than scattered ones.
func TestPromise16Girths(t *testing.T) {
	most := int64(0)
	for _, group := range []impl.Group{groupOf(dihedral, 14), groupOf(dihedral, 31), groupOf(affine, 5), groupOf(affine, 7)} {
		order, _ := impl.OrderOfGroup(group)
		for x := int64(1); x < order; x++ {
			for y := x + 1; y < order; y++ {
				set, code := impl.ClosedSet(group, []int64{x, y})
				wantCode(t, "ClosedSet", code, impl.ErrNone)
				if len(set) > 3 {
					continue
				}
				graph, _ := impl.CayleyGraph(group, set)
				girth, code := impl.GirthOf(graph)
				if code != impl.ErrNone || girth > impl.MaxLetter {
					girth = 0
				}
				wantWordGirth(t, group, set, girth)
				if len(set) == 3 {
					most = max(most, girth)
				}
			}
		}
	}
	if most < 6 {
		t.Errorf("the greatest girth of a set of three elements is %d", most)
	}
}
