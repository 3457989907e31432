package tests

import (
	"math"
	"slices"
	"testing"

	"loop.example/g01331/impl"
)

// wantSet asks whether a list is a connection set, for its closed set, and for its Cayley graph.
func wantSet(t *testing.T, g groupTable, list []int64) {
	t.Helper()
	want := g.isSet(list)
	if yes, code := impl.IsConnectionSet(g.group, list); yes != want || code != impl.ErrNone {
		t.Errorf("IsConnectionSet(%v, %v) = %v, %d", g.group, list, yes, code)
	}
	if len(list) <= impl.MaxOrder {
		closed, code := impl.ClosedSet(g.group, list)
		wantList(t, call("ClosedSet", g.group, list), closed, code, g.closed(list)...)
	}
	if !want {
		wantError(t, call("CayleyGraph", g.group, list), impl.ErrState, results(impl.CayleyGraph(g.group, list))...)
		return
	}
	joined := newTable(g.order())
	for x := range joined {
		for _, s := range list {
			joined[x][g.times[x][s]] = true
		}
	}
	graph, code := impl.CayleyGraph(g.group, list)
	wantGraph(t, call("CayleyGraph", g.group, list), graph, code, joined.graph())
}

// TestSets tries all ascending lists, and all lists of up to three elements, of small groups, and scattered ones of all groups.
func TestSets(t *testing.T) {
	for g := range allGroups {
		for list := range g.someLists {
			wantSet(t, g, list)
			wantSet(t, g, g.closed(list))
		}
		if g.order() > 8 {
			continue
		}
		for list := range g.subsets {
			wantSet(t, g, list)
		}
		for length := 1; length <= 3; length++ {
			list := make([]int64, length)
			for next := true; next; next = countUp(list, g.order()) {
				wantSet(t, g, list)
			}
		}
	}
}

// TestSetsByHand has lists that break one rule each.
func TestSetsByHand(t *testing.T) {
	for _, c := range []struct {
		group impl.Group
		list  []int64
		want  bool
	}{
		{groupOf(cyclic, 1), nil, true}, {groupOf(cyclic, 1), []int64{0}, false}, {groupOf(cyclic, 62), []int64{}, true}, {groupOf(cyclic, 62), []int64{1, 61}, true},
		{groupOf(cyclic, 62), []int64{31}, true}, {groupOf(cyclic, 62), []int64{61, 1}, false}, {groupOf(cyclic, 62), []int64{1, 1, 61}, false}, {groupOf(cyclic, 62), []int64{1, 61, 61}, false},
		{groupOf(cyclic, 62), []int64{31, 31}, false}, {groupOf(cyclic, 62), []int64{0, 1, 61}, false}, {groupOf(cyclic, 62), []int64{1}, false}, {groupOf(cyclic, 62), []int64{1, 31}, false},
		{groupOf(cyclic, 62), []int64{1, 2, 61}, false}, {groupOf(cyclic, 62), []int64{0}, false}, {groupOf(cyclic, 62), []int64{0, 31}, false}, {groupOf(cyclic, 62), []int64{31, 0}, false},
		{groupOf(dihedral, 1), []int64{1}, true}, {groupOf(dihedral, 2), []int64{1, 2, 3}, true}, {groupOf(dihedral, 31), []int64{31, 61}, true}, {groupOf(dihedral, 31), []int64{1, 30, 61}, true},
		{groupOf(dihedral, 31), []int64{30, 31}, false}, {groupOf(dihedral, 31), []int64{61, 31}, false}, {groupOf(dihedral, 31), []int64{1, 30, 30}, false},
		{groupOf(affine, 2), []int64{1}, true}, {groupOf(affine, 5), []int64{5, 10}, true}, {groupOf(affine, 5), []int64{5, 15}, false}, {groupOf(affine, 5), []int64{6, 12, 19}, true}, {groupOf(affine, 5), []int64{5, 19}, false},
		{groupOf(affine, 7), []int64{41}, true}, {groupOf(affine, 7), []int64{7, 21, 41}, true}, {groupOf(affine, 7), []int64{7, 41}, false},
	} {
		if yes, code := impl.IsConnectionSet(c.group, c.list); yes != c.want || code != impl.ErrNone {
			t.Errorf("IsConnectionSet(%v, %v) = %v, %d", c.group, c.list, yes, code)
		}
		wantSet(t, groupTableOf(c.group), c.list)
	}
	for _, c := range []struct {
		group impl.Group
		list  []int64
		want  []int64
	}{
		{groupOf(cyclic, 6), []int64{5, 0, 3}, []int64{1, 3, 5}}, {groupOf(cyclic, 6), []int64{1, 1, 5, 1}, []int64{1, 5}}, {groupOf(cyclic, 1), []int64{0, 0}, nil}, {groupOf(cyclic, 9), nil, nil},
		{groupOf(cyclic, 62), []int64{61, 31}, []int64{1, 31, 61}}, {groupOf(dihedral, 31), []int64{61, 1, 31}, []int64{1, 30, 31, 61}}, {groupOf(dihedral, 1), []int64{1, 0}, []int64{1}},
		{groupOf(affine, 5), []int64{6, 10}, []int64{5, 6, 10, 12}}, {groupOf(affine, 7), []int64{7}, []int64{7, 21}},
	} {
		closed, code := impl.ClosedSet(c.group, c.list)
		wantList(t, call("ClosedSet", c.group, c.list), closed, code, c.want...)
	}
}

// TestMostElements has lists of MaxOrder elements and more: closed sets have a bound, connection sets have none of their own.
func TestMostElements(t *testing.T) {
	for _, group := range []impl.Group{groupOf(cyclic, 62), groupOf(cyclic, 1), groupOf(cyclic, 3), groupOf(dihedral, 31), groupOf(affine, 7)} {
		order, _ := impl.OrderOfGroup(group)
		var list []int64
		for i := range int64(impl.MaxOrder + 1) {
			list = append(list, i%order)
		}
		closed, code := impl.ClosedSet(group, list[:impl.MaxOrder])
		wantList(t, call("ClosedSet", group), closed, code, groupTableOf(group).closed(list)...)
		if int64(len(closed)) != order-1 {
			t.Errorf("the closed set of all elements of %v has %d", group, len(closed))
		}
		wantError(t, call("ClosedSet", group), impl.ErrRange, results(impl.ClosedSet(group, list))...)
		for _, length := range []int{impl.MaxOrder + 1, 200, 5000} {
			long := slices.Repeat([]int64{order - 1}, length)
			if yes, code := impl.IsConnectionSet(group, long); yes || code != impl.ErrNone {
				t.Errorf("IsConnectionSet(%v, %d elements) = %v, %d", group, length, yes, code)
			}
			wantError(t, call("CayleyGraph", group, length), impl.ErrState, results(impl.CayleyGraph(group, long))...)
			wantError(t, call("WordGirth", group, length), impl.ErrState, results(impl.WordGirth(group, long))...)
			wantError(t, call("ClosedSet", group, length), impl.ErrRange, results(impl.ClosedSet(group, long))...)
			long[length-1] = order
			wantError(t, call("IsConnectionSet", group, length), impl.ErrRange, results(impl.IsConnectionSet(group, long))...)
			wantError(t, call("CayleyGraph", group, length), impl.ErrRange, results(impl.CayleyGraph(group, long))...)
			wantError(t, call("WordGirth", group, length), impl.ErrRange, results(impl.WordGirth(group, long))...)
		}
	}
}

func TestCayleyGraphsByHand(t *testing.T) {
	for _, c := range []struct {
		group impl.Group
		set   []int64
		text  string
	}{
		{groupOf(cyclic, 1), nil, "1:"}, {groupOf(cyclic, 3), nil, "3:"}, {groupOf(cyclic, 2), []int64{1}, "2:0-1"}, {groupOf(cyclic, 6), []int64{3}, "6:0-3,1-4,2-5"},
		{groupOf(cyclic, 6), []int64{1, 3, 5}, "6:0-1,0-3,0-5,1-2,1-4,2-3,2-5,3-4,4-5"}, {groupOf(dihedral, 1), []int64{1}, "2:0-1"},
		{groupOf(dihedral, 3), []int64{1, 2}, "6:0-1,0-2,1-2,3-4,3-5,4-5"}, {groupOf(dihedral, 3), []int64{4}, "6:0-4,1-5,2-3"},
		{groupOf(dihedral, 3), []int64{1, 2, 4}, "6:0-1,0-2,0-4,1-2,1-5,2-3,3-4,3-5,4-5"},
		{groupOf(affine, 2), []int64{1}, "2:0-1"}, {groupOf(affine, 3), []int64{4}, "6:0-4,1-5,2-3"}, {groupOf(affine, 3), []int64{1, 2}, "6:0-1,0-2,1-2,3-4,3-5,4-5"},
		{groupOf(affine, 3), []int64{3, 4}, "6:0-3,0-4,1-4,1-5,2-3,2-5"},
	} {
		g, code := impl.CayleyGraph(c.group, c.set)
		wantGraph(t, call("CayleyGraph", c.group, c.set), g, code, parsed(t, c.text))
	}
	g, code := impl.CayleyGraph(groupOf(cyclic, 5), []int64{1, 2, 3, 4})
	wantGraph(t, "CayleyGraph of all elements", g, code, named(t, "k5"))
	g, code = impl.CayleyGraph(groupOf(dihedral, 2), []int64{1, 2, 3})
	wantGraph(t, "CayleyGraph of all elements", g, code, named(t, "k4"))
	g, code = impl.CayleyGraph(groupOf(dihedral, 31), []int64{31, 32, 34, 39, 43, 49})
	if girth, _ := impl.GirthOf(g); g.Size != 62 || girth != 6 || code != impl.ErrNone {
		t.Errorf("CayleyGraph of a difference set has %d vertices, and the girth %d, %d", g.Size, girth, code)
	}
}

func TestSetErrors(t *testing.T) {
	for g := range allGroups {
		n := g.order()
		for _, x := range outside(n) {
			for _, list := range [][]int64{{x}, {0, x}, {x, 0}, {n - 1, n - 1, x}, {1 % n, n - 1, x}} {
				what := call("", g.group, list)
				wantError(t, "IsConnectionSet"+what, impl.ErrRange, results(impl.IsConnectionSet(g.group, list))...)
				wantError(t, "ClosedSet"+what, impl.ErrRange, results(impl.ClosedSet(g.group, list))...)
				wantError(t, "CayleyGraph"+what, impl.ErrRange, results(impl.CayleyGraph(g.group, list))...)
				wantError(t, "WordGirth"+what, impl.ErrRange, results(impl.WordGirth(g.group, list))...)
				for _, word := range [][]int64{nil, {0}, {3}, {-1}} {
					wantError(t, "ProductOfWord"+what, impl.ErrRange, results(impl.ProductOfWord(g.group, list, word))...)
				}
			}
		}
	}
	for _, g := range notGroups() {
		for _, list := range [][]int64{nil, {0}, {1}, {1, 2}, {63}, {-1}, make([]int64, 63), {math.MaxInt64}, {math.MinInt64}} {
			what := call("", g, list)
			wantError(t, "IsConnectionSet"+what, impl.ErrInvalid, results(impl.IsConnectionSet(g, list))...)
			wantError(t, "ClosedSet"+what, impl.ErrInvalid, results(impl.ClosedSet(g, list))...)
			wantError(t, "CayleyGraph"+what, impl.ErrInvalid, results(impl.CayleyGraph(g, list))...)
			wantError(t, "WordGirth"+what, impl.ErrInvalid, results(impl.WordGirth(g, list))...)
			for _, word := range [][]int64{nil, {0}, {3}, {-1}, make([]int64, 17)} {
				wantError(t, "ProductOfWord"+what, impl.ErrInvalid, results(impl.ProductOfWord(g, list, word))...)
			}
		}
	}
}

// circulantTable joins by the rule of the document.
func circulantTable(n int64, jumps []int64) table {
	want := newTable(n)
	for i := range n {
		for _, j := range jumps {
			want.join(i, turned(n, i, j, 1))
			want.join(i, turned(n, i, j, -1))
		}
	}
	return want
}

// TestCirculantGraph has all n, with no jumps, with all of one and of two for small n, and with scattered ones.
func TestCirculantGraph(t *testing.T) {
	state := uint32(11)
	for n := int64(1); n <= 62; n++ {
		lists := [][]int64{nil, {}}
		for j := int64(1); j < n; j++ {
			lists = append(lists, []int64{j}, []int64{j, j})
			for k := int64(1); k < n && n <= 12; k++ {
				lists = append(lists, []int64{j, k})
			}
		}
		for _, length := range []int{3, 5, 20, 62} {
			list := make([]int64, length)
			for i := range list {
				state = state*1664525 + 1013904223
				list[i] = 1 + int64(state>>8)%max(n-1, 1)
			}
			if n > 1 {
				lists = append(lists, list)
			}
		}
		for _, list := range lists {
			g, code := impl.CirculantGraph(n, list)
			wantGraph(t, call("CirculantGraph", n, list), g, code, circulantTable(n, list).graph())
		}
	}
	for text, c := range map[string][]int64{"1:": {1}, "2:0-1": {2, 1}, "3:0-1,0-2,1-2": {3, 2}, "4:0-2,1-3": {4, 2, 2}, "6:0-1,0-3,0-5,1-2,1-4,2-3,2-5,3-4,4-5": {6, 5, 3, 1}, "5:": {5}} {
		g, code := impl.CirculantGraph(c[0], c[1:])
		wantGraph(t, call("CirculantGraph", c), g, code, parsed(t, text))
	}
}

// TestCirculantGraphMost has 62 jumps and 63, jumps at 1 and n - 1 and one beyond, and n at 1 and 62 and one beyond.
func TestCirculantGraphMost(t *testing.T) {
	for _, n := range []int64{2, 3, 40, 62} {
		for _, j := range []int64{1, n - 1} {
			most := slices.Repeat([]int64{j}, 63)
			g, code := impl.CirculantGraph(n, most[:62])
			wantGraph(t, call("CirculantGraph", n, j), g, code, circulantTable(n, []int64{1}).graph())
			wantError(t, call("CirculantGraph", n, j), impl.ErrRange, results(impl.CirculantGraph(n, most))...)
		}
		for _, j := range []int64{0, n, -1, 1 - n, n + 1, 1<<32 + 1, math.MaxInt64, math.MinInt64} {
			for _, list := range [][]int64{{j}, {1, j}, {j, 1}, append(slices.Repeat([]int64{1}, 61), j)} {
				wantError(t, call("CirculantGraph", n, list), impl.ErrRange, results(impl.CirculantGraph(n, list))...)
			}
		}
	}
	for _, j := range []int64{0, 1, -1, 2, 62, math.MaxInt64, math.MinInt64} {
		wantError(t, call("CirculantGraph", 1, j), impl.ErrRange, results(impl.CirculantGraph(1, []int64{j}))...)
	}
	for _, n := range []int64{0, -1, -2, 63, 64, 257, 1<<32 + 5, 1 << 62, math.MaxInt64, math.MinInt64, math.MinInt64 + 1} {
		for _, list := range [][]int64{nil, {1}, {0}, {62}, slices.Repeat([]int64{1}, 63)} {
			wantError(t, call("CirculantGraph", n, list), impl.ErrRange, results(impl.CirculantGraph(n, list))...)
		}
	}
	var all []int64
	for j := int64(61); j >= 1; j-- {
		all = append(all, j)
	}
	g, code := impl.CirculantGraph(62, append(all, 1))
	wantGraph(t, "CirculantGraph of all jumps", g, code, complement(t, parsed(t, "62:")))
}
