package tests

import (
	"math"
	"slices"
	"testing"

	"loop.example/g01331/impl"
)

const (
	cyclic   = 0
	dihedral = 1
	affine   = 2
)

// groupTable is a group with all its products, made by going step by step, so that the tests do not rest on formulas.
type groupTable struct {
	group impl.Group
	times [][]int64
}

func groupOf(kind int64, param int64) impl.Group { return impl.Group{Kind: kind, Param: param} }

// turned goes as many steps around n places.
func turned(n int64, i int64, steps int64, by int64) int64 {
	for range steps {
		i += by
		if i == n {
			i = 0
		}
		if i < 0 {
			i = n - 1
		}
	}
	return i
}

// dihedralProduct turns backwards behind a flip.
func dihedralProduct(n int64, x int64, y int64) int64 {
	e, i, f, j := false, x, false, y
	if e = x >= n; e {
		i -= n
	}
	if f = y >= n; f {
		j -= n
	}
	by := int64(1)
	if e {
		by = -1
	}
	h := turned(n, i, j, by)
	if e != f {
		h += n
	}
	return h
}

// affineMaps lists for each element where its map leads 0 to p - 1.
func affineMaps(p int64) [][]int64 {
	var maps [][]int64
	for a := int64(1); a < p; a++ {
		for b := range p {
			leads, y := make([]int64, p), b
			for x := range leads {
				leads[x] = y
				y = turned(p, y, a, 1)
			}
			maps = append(maps, leads)
		}
	}
	return maps
}

func affineProduct(maps [][]int64, x int64, y int64) int64 {
	return int64(slices.IndexFunc(maps, func(leads []int64) bool {
		for t := range leads {
			if leads[t] != maps[x][maps[y][t]] {
				return false
			}
		}
		return true
	}))
}

func groupTableOf(group impl.Group) groupTable {
	n := group.Param
	product, order := func(x int64, y int64) int64 { return turned(n, x, y, 1) }, n
	if group.Kind == dihedral {
		product, order = func(x int64, y int64) int64 { return dihedralProduct(n, x, y) }, 2*n
	}
	if group.Kind == affine {
		maps := affineMaps(n)
		product, order = func(x int64, y int64) int64 { return affineProduct(maps, x, y) }, int64(len(maps))
	}
	g := groupTable{group: group}
	for x := range order {
		var row []int64
		for y := range order {
			row = append(row, product(x, y))
		}
		g.times = append(g.times, row)
	}
	return g
}

// allGroups yields all groups that there are.
func allGroups(yield func(groupTable) bool) {
	for n := int64(1); n <= 62; n++ {
		if !yield(groupTableOf(groupOf(cyclic, n))) {
			return
		}
	}
	for n := int64(1); n <= 31; n++ {
		if !yield(groupTableOf(groupOf(dihedral, n))) {
			return
		}
	}
	for _, p := range primes() {
		if !yield(groupTableOf(groupOf(affine, p))) {
			return
		}
	}
}

func (g groupTable) order() int64 { return int64(len(g.times)) }

// inverse looks for the one whose product is the unit.
func (g groupTable) inverse(x int64) int64 { return int64(slices.Index(g.times[x], 0)) }

// generated adds products of those found so far until there are no more.
func (g groupTable) generated(list []int64) []int64 {
	in := make([]bool, len(g.times))
	found := []int64{0}
	in[0] = true
	for i := 0; i < len(found); i++ {
		for _, s := range list {
			for _, t := range []int64{s, g.inverse(s)} {
				if y := g.times[found[i]][t]; !in[y] {
					in[y] = true
					found = append(found, y)
				}
			}
		}
	}
	slices.Sort(found)
	return found
}

// closed takes the elements of a list but the unit, and their inverses.
func (g groupTable) closed(list []int64) []int64 {
	var both []int64
	for _, s := range list {
		if s != 0 {
			both = append(both, s, g.inverse(s))
		}
	}
	slices.Sort(both)
	return slices.Compact(both)
}

// isSet looks at the parts of what a connection set is, one by one.
func (g groupTable) isSet(list []int64) bool {
	for i, s := range list {
		if s == 0 || i > 0 && s <= list[i-1] || !slices.Contains(list, g.inverse(s)) {
			return false
		}
	}
	return true
}

// someLists yields lists of elements, with the empty one, all of one and of two elements for small groups, and scattered
// ones of up to 62 elements, which may have the unit, elements twice, and no order.
func (g groupTable) someLists(yield func([]int64) bool) {
	lists := [][]int64{nil, {0}, {0, 0}, {g.order() - 1}, {g.order() - 1, 0}}
	for x := range g.order() {
		lists = append(lists, []int64{x})
		for y := range g.order() {
			if g.order() <= 12 {
				lists = append(lists, []int64{x, y})
			}
		}
	}
	state := uint32(g.group.Kind*100 + g.group.Param)
	for _, length := range []int{2, 2, 2, 3, 3, 4, 5, 8, 20, 61, 62} {
		var list []int64
		for range length {
			state = state*1664525 + 1013904223
			list = append(list, int64(state>>8)%g.order())
		}
		lists = append(lists, list)
	}
	for _, list := range lists {
		if !yield(list) {
			return
		}
	}
}

// someSets yields all connection sets of groups of at most eight elements, and scattered ones of the others.
func (g groupTable) someSets(yield func([]int64) bool) {
	if g.order() > 8 {
		for list := range g.someLists {
			if !yield(g.closed(list)) {
				return
			}
		}
		return
	}
	for list := range g.subsets {
		if g.isSet(list) && !yield(list) {
			return
		}
	}
}

// subsets yields all ascending lists of elements.
func (g groupTable) subsets(yield func([]int64) bool) {
	for choice := range 1 << g.order() {
		var list []int64
		for x := range g.order() {
			if choice>>x%2 == 1 {
				list = append(list, x)
			}
		}
		if !yield(list) {
			return
		}
	}
}

// notGroups have a Kind or a Param one beyond, or far away, or one of another kind.
func notGroups() []impl.Group {
	list := []impl.Group{{}, groupOf(cyclic, 63), groupOf(dihedral, 32), groupOf(dihedral, 62), groupOf(dihedral, 0), groupOf(cyclic, -1), groupOf(dihedral, -1)}
	for _, kind := range []int64{-1, 3, 4, 256, 1 << 32, 1<<32 + 1, math.MaxInt64, math.MinInt64} {
		for _, param := range []int64{0, 1, 2, 3, 5, 7, 31, 62} {
			list = append(list, groupOf(kind, param))
		}
	}
	for kind := range int64(3) {
		for _, param := range []int64{0, -1, -2, -7, 63, 64, 257, 1<<32 + 2, 1<<62 + 3, math.MaxInt64, math.MinInt64, math.MinInt64 + 2} {
			list = append(list, groupOf(kind, param))
		}
	}
	for _, param := range notPrimes() {
		list = append(list, groupOf(affine, param))
	}
	return list
}

func TestIsGroup(t *testing.T) {
	for kind := int64(-3); kind <= 5; kind++ {
		for param := int64(-70); param <= 130; param++ {
			want := kind == cyclic && param >= 1 && param <= 62 || kind == dihedral && param >= 1 && param <= 31 || kind == affine && slices.Contains(primes(), param)
			if impl.IsGroup(groupOf(kind, param)) != want {
				t.Errorf("IsGroup of the kind %d and %d is not %v", kind, param, want)
			}
		}
	}
	for _, g := range notGroups() {
		if impl.IsGroup(g) {
			t.Errorf("IsGroup(%v)", g)
		}
	}
}

func TestOrderOfGroup(t *testing.T) {
	count := 0
	for g := range allGroups {
		count++
		if n, code := impl.OrderOfGroup(g.group); n != g.order() || code != impl.ErrNone {
			t.Errorf("OrderOfGroup(%v) = %d, %d, want %d", g.group, n, code, g.order())
		}
	}
	if count != 97 {
		t.Errorf("there are %d groups", count)
	}
	for group, want := range map[impl.Group]int64{groupOf(cyclic, 1): 1, groupOf(cyclic, 2): 2, groupOf(cyclic, 62): 62, groupOf(dihedral, 1): 2, groupOf(dihedral, 2): 4,
		groupOf(dihedral, 31): 62, groupOf(affine, 2): 2, groupOf(affine, 3): 6, groupOf(affine, 5): 20, groupOf(affine, 7): 42} {
		if n, code := impl.OrderOfGroup(group); n != want || code != impl.ErrNone {
			t.Errorf("OrderOfGroup(%v) = %d, %d, want %d", group, n, code, want)
		}
	}
}

func TestProductIn(t *testing.T) {
	for g := range allGroups {
		for x, row := range g.times {
			for y, want := range row {
				if z, code := impl.ProductIn(g.group, int64(x), int64(y)); z != want || code != impl.ErrNone {
					t.Errorf("ProductIn(%v, %d, %d) = %d, %d, want %d", g.group, x, y, z, code, want)
				}
			}
		}
	}
	for _, c := range []struct {
		group      impl.Group
		x, y, want int64
	}{
		{groupOf(cyclic, 1), 0, 0, 0}, {groupOf(cyclic, 6), 4, 5, 3}, {groupOf(cyclic, 62), 61, 61, 60}, {groupOf(cyclic, 62), 61, 1, 0},
		{groupOf(dihedral, 1), 0, 1, 1}, {groupOf(dihedral, 1), 1, 1, 0}, {groupOf(dihedral, 2), 3, 2, 1}, {groupOf(dihedral, 2), 1, 3, 2},
		{groupOf(dihedral, 4), 5, 2, 7}, {groupOf(dihedral, 4), 5, 3, 6}, {groupOf(dihedral, 4), 3, 5, 4}, {groupOf(dihedral, 4), 5, 7, 2}, {groupOf(dihedral, 4), 7, 5, 2},
		{groupOf(dihedral, 31), 61, 31, 30}, {groupOf(dihedral, 31), 31, 61, 1}, {groupOf(dihedral, 31), 30, 30, 29},
		{groupOf(affine, 2), 1, 1, 0}, {groupOf(affine, 3), 4, 2, 5}, {groupOf(affine, 3), 2, 4, 3}, {groupOf(affine, 5), 6, 13, 2}, {groupOf(affine, 5), 13, 6, 1},
		{groupOf(affine, 7), 41, 41, 0}, {groupOf(affine, 7), 8, 41, 34}, {groupOf(affine, 7), 35, 6, 36},
	} {
		if z, code := impl.ProductIn(c.group, c.x, c.y); z != c.want || code != impl.ErrNone {
			t.Errorf("ProductIn(%v, %d, %d) = %d, %d, want %d", c.group, c.x, c.y, z, code, c.want)
		}
	}
}

func TestInverseIn(t *testing.T) {
	for g := range allGroups {
		for x := range g.order() {
			if y, code := impl.InverseIn(g.group, x); y != g.inverse(x) || code != impl.ErrNone {
				t.Errorf("InverseIn(%v, %d) = %d, %d, want %d", g.group, x, y, code, g.inverse(x))
			}
		}
	}
	for _, c := range []struct {
		group   impl.Group
		x, want int64
	}{
		{groupOf(cyclic, 1), 0, 0}, {groupOf(cyclic, 6), 3, 3}, {groupOf(cyclic, 62), 61, 1}, {groupOf(dihedral, 1), 1, 1}, {groupOf(dihedral, 4), 1, 3}, {groupOf(dihedral, 4), 5, 5},
		{groupOf(dihedral, 31), 30, 1}, {groupOf(dihedral, 31), 61, 61}, {groupOf(affine, 2), 1, 1}, {groupOf(affine, 3), 1, 2}, {groupOf(affine, 5), 5, 10}, {groupOf(affine, 5), 6, 12},
		{groupOf(affine, 7), 7, 21}, {groupOf(affine, 7), 41, 41},
	} {
		if y, code := impl.InverseIn(c.group, c.x); y != c.want || code != impl.ErrNone {
			t.Errorf("InverseIn(%v, %d) = %d, %d, want %d", c.group, c.x, y, code, c.want)
		}
	}
}

func TestOrderOf(t *testing.T) {
	for g := range allGroups {
		for x := range g.order() {
			want, power := int64(1), x
			for power != 0 {
				want, power = want+1, g.times[x][power]
			}
			if k, code := impl.OrderOf(g.group, x); k != want || code != impl.ErrNone {
				t.Errorf("OrderOf(%v, %d) = %d, %d, want %d", g.group, x, k, code, want)
			}
		}
	}
	for _, c := range []struct {
		group   impl.Group
		x, want int64
	}{
		{groupOf(cyclic, 1), 0, 1}, {groupOf(cyclic, 62), 0, 1}, {groupOf(cyclic, 62), 61, 62}, {groupOf(cyclic, 62), 31, 2}, {groupOf(cyclic, 60), 24, 5},
		{groupOf(dihedral, 1), 1, 2}, {groupOf(dihedral, 31), 1, 31}, {groupOf(dihedral, 31), 61, 2}, {groupOf(dihedral, 6), 4, 3}, {groupOf(affine, 2), 1, 2},
		{groupOf(affine, 5), 4, 5}, {groupOf(affine, 5), 5, 4}, {groupOf(affine, 5), 19, 2}, {groupOf(affine, 7), 7, 3}, {groupOf(affine, 7), 20, 6}, {groupOf(affine, 7), 41, 2},
	} {
		if k, code := impl.OrderOf(c.group, c.x); k != c.want || code != impl.ErrNone {
			t.Errorf("OrderOf(%v, %d) = %d, %d, want %d", c.group, c.x, k, code, c.want)
		}
	}
}

func TestGeneratedBy(t *testing.T) {
	for g := range allGroups {
		for list := range g.someLists {
			found, code := impl.GeneratedBy(g.group, list)
			wantList(t, call("GeneratedBy", g.group, list), found, code, g.generated(list)...)
		}
	}
	for _, c := range []struct {
		group impl.Group
		list  []int64
		want  []int64
	}{
		{groupOf(cyclic, 1), nil, []int64{0}}, {groupOf(cyclic, 62), []int64{}, []int64{0}}, {groupOf(cyclic, 62), []int64{0, 0}, []int64{0}}, {groupOf(cyclic, 62), []int64{31}, []int64{0, 31}},
		{groupOf(cyclic, 12), []int64{8, 8}, []int64{0, 4, 8}}, {groupOf(cyclic, 12), []int64{9, 6}, []int64{0, 3, 6, 9}}, {groupOf(cyclic, 6), []int64{3, 2}, []int64{0, 1, 2, 3, 4, 5}},
		{groupOf(dihedral, 6), []int64{8}, []int64{0, 8}}, {groupOf(dihedral, 6), []int64{8, 10}, []int64{0, 2, 4, 6, 8, 10}}, {groupOf(dihedral, 6), []int64{5}, []int64{0, 1, 2, 3, 4, 5}},
		{groupOf(affine, 5), []int64{1}, []int64{0, 1, 2, 3, 4}}, {groupOf(affine, 5), []int64{10}, []int64{0, 5, 10, 15}}, {groupOf(affine, 5), []int64{18}, []int64{0, 18}},
		{groupOf(affine, 5), []int64{19, 0, 18}, []int64{0, 1, 2, 3, 4, 15, 16, 17, 18, 19}},
	} {
		found, code := impl.GeneratedBy(c.group, c.list)
		wantList(t, call("GeneratedBy", c.group, c.list), found, code, c.want...)
	}
	found, code := impl.GeneratedBy(groupOf(affine, 7), []int64{41, 7})
	if len(found) != 42 || found[41] != 41 || code != impl.ErrNone {
		t.Errorf("GeneratedBy = %v, %d", found, code)
	}
}

// TestGeneratedByMost has lists of MaxOrder elements and of one more, of few and of many different ones.
func TestGeneratedByMost(t *testing.T) {
	for _, group := range []impl.Group{groupOf(cyclic, 62), groupOf(cyclic, 1), groupOf(dihedral, 31), groupOf(affine, 2), groupOf(affine, 7)} {
		order, _ := impl.OrderOfGroup(group)
		list := make([]int64, impl.MaxOrder+1)
		for _, last := range []int64{0, order - 1} {
			list[impl.MaxOrder-1], list[impl.MaxOrder] = last, last
			found, code := impl.GeneratedBy(group, list[:impl.MaxOrder])
			wantList(t, call("GeneratedBy", group, last), found, code, groupTableOf(group).generated([]int64{last})...)
			wantError(t, call("GeneratedBy", group, last), impl.ErrRange, results(impl.GeneratedBy(group, list))...)
		}
		for i := range list {
			list[i] = int64(i) % order
		}
		if found, code := impl.GeneratedBy(group, list[:impl.MaxOrder]); int64(len(found)) != order || code != impl.ErrNone {
			t.Errorf("GeneratedBy(%v, all) = %v, %d", group, found, code)
		}
		wantError(t, call("GeneratedBy", group, "all"), impl.ErrRange, results(impl.GeneratedBy(group, list))...)
	}
}

func TestElementErrors(t *testing.T) {
	for g := range allGroups {
		n := g.order()
		for _, x := range outside(n) {
			for _, y := range []int64{0, n - 1, n, -1} {
				wantError(t, call("ProductIn", g.group, x, y), impl.ErrRange, results(impl.ProductIn(g.group, x, y))...)
				wantError(t, call("ProductIn", g.group, y, x), impl.ErrRange, results(impl.ProductIn(g.group, y, x))...)
				wantError(t, call("GeneratedBy", g.group, x, y), impl.ErrRange, results(impl.GeneratedBy(g.group, []int64{x, y}))...)
				wantError(t, call("GeneratedBy", g.group, y, x), impl.ErrRange, results(impl.GeneratedBy(g.group, []int64{y, x}))...)
			}
			wantError(t, call("InverseIn", g.group, x), impl.ErrRange, results(impl.InverseIn(g.group, x))...)
			wantError(t, call("OrderOf", g.group, x), impl.ErrRange, results(impl.OrderOf(g.group, x))...)
			wantError(t, call("GeneratedBy", g.group, x), impl.ErrRange, results(impl.GeneratedBy(g.group, []int64{x}))...)
		}
	}
}

// TestGroupErrors has numbers that are elements of no group, too, as ErrInvalid comes first.
func TestGroupErrors(t *testing.T) {
	for _, g := range notGroups() {
		wantError(t, call("OrderOfGroup", g), impl.ErrInvalid, results(impl.OrderOfGroup(g))...)
		for _, x := range []int64{0, 1, 5, 62, 63, -1, math.MaxInt64, math.MinInt64} {
			wantError(t, call("ProductIn", g, x), impl.ErrInvalid, results(impl.ProductIn(g, x, 0))...)
			wantError(t, call("ProductIn", g, x), impl.ErrInvalid, results(impl.ProductIn(g, 0, x))...)
			wantError(t, call("InverseIn", g, x), impl.ErrInvalid, results(impl.InverseIn(g, x))...)
			wantError(t, call("OrderOf", g, x), impl.ErrInvalid, results(impl.OrderOf(g, x))...)
			wantError(t, call("GeneratedBy", g, x), impl.ErrInvalid, results(impl.GeneratedBy(g, []int64{x}))...)
			wantError(t, call("GeneratedBy", g, x), impl.ErrInvalid, results(impl.GeneratedBy(g, slices.Repeat([]int64{x}, 63)))...)
		}
		wantError(t, call("GeneratedBy", g), impl.ErrInvalid, results(impl.GeneratedBy(g, nil))...)
	}
}
