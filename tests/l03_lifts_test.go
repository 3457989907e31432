package tests

import (
	"math"
	"slices"
	"testing"

	"loop.example/g01331/impl"
)

// baseOf takes arcs as lists of From, To and Volt.
func baseOf(size int64, modulus int64, arcs ...[3]int64) impl.Base {
	x := impl.Base{Size: size, Modulus: modulus}
	for _, a := range arcs {
		x.Arcs = append(x.Arcs, impl.Arc{From: a[0], To: a[1], Volt: a[2]})
	}
	return x
}

// bouquet is a base of one vertex, with a loop for each voltage.
func bouquet(modulus int64, volts ...int64) impl.Base {
	x := impl.Base{Size: 1, Modulus: modulus}
	for _, volt := range volts {
		x.Arcs = append(x.Arcs, impl.Arc{Volt: volt})
	}
	return x
}

// turns is the base of a jump graph of the size n whose jumps repeat after period vertices: the vertex
// q period + r of the graph is the vertex r n / period + q of the lift.
func turns(n int64, jumps ...int64) impl.Base {
	period := max(int64(len(jumps)), 1)
	x := impl.Base{Size: period, Modulus: n / period}
	met := map[impl.Arc]bool{}
	for r := range period {
		for _, jump := range append([]int64{1}, jumps[min(r, int64(len(jumps))):min(r+1, int64(len(jumps)))]...) {
			arc := impl.Arc{From: r, To: (r + jump) % period, Volt: (r + jump) / period % x.Modulus}
			back := impl.Arc{From: arc.To, To: arc.From, Volt: (x.Modulus - arc.Volt) % x.Modulus}
			if !met[arc] && !met[back] {
				met[arc] = true
				x.Arcs = append(x.Arcs, arc)
			}
		}
	}
	return x
}

// turnsPlaces returns for each vertex of a jump graph the one of the lift of its base.
func turnsPlaces(n int64, period int64) []int64 {
	var places []int64
	for t := range n {
		places = append(places, t%period*(n/period)+t/period)
	}
	return places
}

// arcChoices lists all arcs that a base may have.
func arcChoices(size int64, modulus int64) [][3]int64 {
	var list [][3]int64
	for from := range size {
		for to := range size {
			for volt := range modulus {
				list = append(list, [3]int64{from, to, volt})
			}
		}
	}
	return list
}

// smallBases yields all bases of at most two vertices, a modulus of at most 4, and at most two arcs.
func smallBases(yield func(impl.Base) bool) {
	for size := int64(1); size <= 2; size++ {
		for modulus := int64(1); modulus <= 4; modulus++ {
			all := arcChoices(size, modulus)
			if !yield(baseOf(size, modulus)) {
				return
			}
			for _, a := range all {
				if !yield(baseOf(size, modulus, a)) {
					return
				}
				for _, b := range all {
					if !yield(baseOf(size, modulus, a, b)) {
						return
					}
				}
			}
		}
	}
}

// largeBases yields scattered bases of all sizes and moduli, with 0, some, and MaxArcs arcs.
func largeBases(yield func(impl.Base) bool) {
	state := uint32(7)
	next := func(below int64) int64 {
		state = state*1664525 + 1013904223
		return int64(state>>8) % below
	}
	for size := int64(1); size <= impl.MaxBase; size++ {
		for modulus := int64(1); size*modulus <= impl.MaxVertices; modulus++ {
			for _, count := range []int64{0, 1, size, 5, impl.MaxArcs} {
				x := impl.Base{Size: size, Modulus: modulus}
				for range count {
					x.Arcs = append(x.Arcs, impl.Arc{From: next(size), To: next(size), Volt: next(modulus)})
				}
				if !yield(x) {
					return
				}
			}
		}
	}
}

// sampleBases yields the small and the large ones, and some with lifts of large girth.
func sampleBases(yield func(impl.Base) bool) {
	for x := range smallBases {
		if !yield(x) {
			return
		}
	}
	for x := range largeBases {
		if !yield(x) {
			return
		}
	}
	for _, x := range girthBases() {
		if !yield(x) {
			return
		}
	}
}

// girthBases are some whose lifts are rings, trees, or named graphs.
func girthBases() []impl.Base {
	list := []impl.Base{
		baseOf(2, 5, [3]int64{0, 0, 1}, [3]int64{0, 1, 0}, [3]int64{1, 1, 2}),
		baseOf(2, 7, [3]int64{0, 1, 0}, [3]int64{0, 1, 1}, [3]int64{1, 0, 4}),
		baseOf(2, 13, [3]int64{0, 1, 0}, [3]int64{0, 1, 1}, [3]int64{0, 1, 3}, [3]int64{0, 1, 9}),
		baseOf(3, 2, [3]int64{0, 1, 0}, [3]int64{1, 2, 1}),
		turns(14, 5, 9), turns(16, 5, 11), turns(18, 5, 7, 11, 7, 11, 13), turns(20, 5, 15, 9, 11),
		turns(20, 10, 7, 4, 16, 13, 10, 16, 7, 13, 4), turns(30, 17, 21, 7, 23, 9, 13), turns(24, 12, 7, 17),
	}
	for m := int64(1); m <= impl.MaxVertices; m++ {
		list = append(list, bouquet(m, 1%m), bouquet(m, m/2), bouquet(m, m-1))
		if 2*m <= impl.MaxVertices {
			list = append(list, baseOf(2, m, [3]int64{0, 1, 0}, [3]int64{0, 1, 1 % m}))
		}
	}
	return list
}

// joinsOf counts how often the arcs join each pair of vertices of the lift, the lesser vertex first.
func joinsOf(x impl.Base) map[[2]int64]int {
	joins := map[[2]int64]int{}
	for _, arc := range x.Arcs {
		for i := int64(0); i < x.Modulus; i++ {
			v, w := arc.From*x.Modulus+i, arc.To*x.Modulus+(i+arc.Volt)%x.Modulus
			joins[[2]int64{min(v, w), max(v, w)}]++
		}
	}
	return joins
}

// liftTable has the pairs of different vertices that the arcs join.
func liftTable(x impl.Base) table {
	lift := newTable(x.Size * x.Modulus)
	for p := range joinsOf(x) {
		if p[0] != p[1] {
			lift.join(p[0], p[1])
		}
	}
	return lift
}

// notBases are values each of which breaks one rule of a base.
func notBases() map[string]impl.Base {
	below, above := int64(math.MinInt64), int64(math.MaxInt64)
	list := map[string]impl.Base{
		"the zero value":      {},
		"no vertex":           {Size: 0, Modulus: 3},
		"a negative size":     {Size: -1, Modulus: 3},
		"a size and modulus":  {Size: -2, Modulus: -3},
		"11 vertices":         {Size: impl.MaxBase + 1, Modulus: 1},
		"62 vertices":         {Size: 62, Modulus: 1},
		"no modulus":          {Size: 1, Modulus: 0},
		"a negative modulus":  {Size: 1, Modulus: -1},
		"the modulus 63":      {Size: 1, Modulus: 63},
		"2 times 32":          {Size: 2, Modulus: 32},
		"3 times 21":          {Size: 3, Modulus: 21},
		"7 times 9":           {Size: 7, Modulus: 9},
		"9 times 7":           {Size: 9, Modulus: 7},
		"10 times 7":          {Size: 10, Modulus: 7},
		"2 times 62":          {Size: 2, Modulus: 62},
		"the greatest size":   {Size: above, Modulus: 1},
		"the least size":      {Size: below, Modulus: 1},
		"a great modulus":     {Size: 1, Modulus: above},
		"the least modulus":   {Size: 1, Modulus: below},
		"a product of 2^64":   {Size: 4, Modulus: 1 << 62},
		"a product around 0":  {Size: below, Modulus: 2},
		"both greatest":       {Size: above, Modulus: above},
		"17 arcs":             bouquet(62, make([]int64, impl.MaxArcs+1)...),
		"4000 arcs":           bouquet(62, make([]int64, 4000)...),
		"17 arcs, one wrong":  bouquet(62, append(make([]int64, impl.MaxArcs), 62)...),
		"a last arc is wrong": baseOf(2, 3, [3]int64{0, 1, 2}, [3]int64{1, 1, 1}, [3]int64{1, 2, 0}),
	}
	for what, wrong := range map[string]int64{"-1": -1, "the greatest number": above, "the least number": below} {
		list["from "+what] = baseOf(3, 5, [3]int64{wrong, 0, 0})
		list["to "+what] = baseOf(3, 5, [3]int64{0, wrong, 0})
		list["the voltage "+what] = baseOf(3, 5, [3]int64{0, 0, wrong})
	}
	list["from 3"] = baseOf(3, 5, [3]int64{3, 0, 0})
	list["to 3"] = baseOf(3, 5, [3]int64{0, 3, 0})
	list["the voltage 5"] = baseOf(3, 5, [3]int64{0, 0, 5})
	list["the voltage 1 by 1"] = baseOf(1, 1, [3]int64{0, 0, 1})
	return list
}

func TestBaseLimits(t *testing.T) {
	if impl.MaxBase != 10 || impl.MaxArcs != 16 || impl.MaxWalk != 14 {
		t.Errorf("the limits are %d, %d and %d", impl.MaxBase, impl.MaxArcs, impl.MaxWalk)
	}
}

func TestIsBase(t *testing.T) {
	for x := range sampleBases {
		if !impl.IsBase(x) {
			t.Errorf("IsBase(%v) = false", x)
		}
	}
	for _, x := range []impl.Base{
		bouquet(1), bouquet(62), baseOf(2, 31), baseOf(10, 6), baseOf(10, 1), bouquet(1, make([]int64, 16)...),
		{Size: 1, Modulus: 1, Arcs: []impl.Arc{}}, bouquet(62, 61), baseOf(10, 6, [3]int64{9, 9, 5}, [3]int64{9, 9, 5}),
	} {
		if !impl.IsBase(x) {
			t.Errorf("IsBase(%v) = false", x)
		}
	}
	for why, x := range notBases() {
		if impl.IsBase(x) {
			t.Errorf("IsBase = true for %s", why)
		}
	}
	for size := int64(-1); size <= 70; size++ {
		for modulus := int64(-1); modulus <= 70; modulus++ {
			want := size >= 1 && size <= 10 && modulus >= 1 && size*modulus <= 62
			if impl.IsBase(baseOf(size, modulus)) != want {
				t.Errorf("IsBase(%d, %d) is not %v", size, modulus, want)
			}
		}
	}
}

// TestInvalidBases also has other arguments that are wrong, as ErrInvalid comes first.
func TestInvalidBases(t *testing.T) {
	none := int64(impl.ErrInvalid)
	for why, x := range notBases() {
		wantError(t, "LiftOf: "+why, none, results(impl.LiftOf(x))...)
		wantError(t, "IsFaithful: "+why, none, results(impl.IsFaithful(x))...)
		wantError(t, "WalkGirth: "+why, none, results(impl.WalkGirth(x))...)
		wantError(t, "LiftParts: "+why, none, results(impl.LiftParts(x))...)
		wantError(t, "CoverOfLift: "+why, none, results(impl.CoverOfLift(x))...)
		for _, walk := range [][]int64{nil, {0}, {0, 0}, {-1}, {0, 99}, make([]int64, impl.MaxWalk+1)} {
			wantError(t, "WalkSum: "+why, none, results(impl.WalkSum(x, walk))...)
			wantError(t, "IsReducedWalk: "+why, none, results(impl.IsReducedWalk(x, walk))...)
			for _, i := range []int64{0, -1, 62} {
				wantError(t, "LiftedWalk: "+why, none, results(impl.LiftedWalk(x, walk, i))...)
			}
		}
		for _, k := range []int64{0, 1, impl.MaxWalk, -1, impl.MaxWalk + 1} {
			for _, sum := range []int64{0, -1, 62} {
				wantError(t, "CountVoltWalks: "+why, none, results(impl.CountVoltWalks(x, k, sum))...)
			}
		}
	}
}

// TestLifts holds lifts, whether they are faithful, their parts and their covers against the tables.
func TestLifts(t *testing.T) {
	for x := range sampleBases {
		lift := liftTable(x)
		g, code := impl.LiftOf(x)
		wantGraph(t, call("LiftOf", x), g, code, lift.graph())
		wantFaithful := true
		for p, count := range joinsOf(x) {
			wantFaithful = wantFaithful && count == 1 && p[0] != p[1]
		}
		faithful, code := impl.IsFaithful(x)
		if faithful != wantFaithful || code != impl.ErrNone {
			t.Errorf("IsFaithful(%v) = %v, %d", x, faithful, code)
		}
		if faithful && len(lift.edges()) != len(x.Arcs)*int(x.Modulus) {
			t.Errorf("the lift of %v has %d edges", x, len(lift.edges()))
		}
		wantParts := int64(0)
		for v, row := range distancesBySums(lift) {
			if slices.IndexFunc(row, func(d int64) bool { return d >= 0 }) == v {
				wantParts++
			}
		}
		if parts, code := impl.LiftParts(x); parts != wantParts || code != impl.ErrNone {
			t.Errorf("LiftParts(%v) = %d, %d, want %d", x, parts, code, wantParts)
		}
		var below []int64
		for v := range x.Size {
			below = append(below, slices.Repeat([]int64{v}, int(x.Modulus))...)
		}
		cover, code := impl.CoverOfLift(x)
		wantList(t, call("CoverOfLift", x), cover, code, below...)
	}
}

func TestLiftsByHand(t *testing.T) {
	for _, c := range []struct {
		x        impl.Base
		text     string
		faithful bool
		parts    int64
	}{
		{bouquet(1), "1:", true, 1},
		{bouquet(1, 0), "1:", false, 1},
		{bouquet(1, 0, 0), "1:", false, 1},
		{bouquet(2, 1), "2:0-1", false, 1},
		{bouquet(2), "2:", true, 2},
		{bouquet(3, 1), "3:0-1,0-2,1-2", true, 1},
		{bouquet(3, 2), "3:0-1,0-2,1-2", true, 1},
		{bouquet(3, 1, 1), "3:0-1,0-2,1-2", false, 1},
		{bouquet(3, 1, 2), "3:0-1,0-2,1-2", false, 1},
		{bouquet(3, 0), "3:", false, 3},
		{bouquet(3, 1, 0), "3:0-1,0-2,1-2", false, 1},
		{bouquet(4, 2), "4:0-2,1-3", false, 2},
		{bouquet(4, 1), "4:0-1,0-3,1-2,2-3", true, 1},
		{bouquet(4, 1, 2), "4:0-1,0-2,0-3,1-2,1-3,2-3", false, 1},
		{bouquet(5, 1, 2), "5:0-1,0-2,0-3,0-4,1-2,1-3,1-4,2-3,2-4,3-4", true, 1},
		{bouquet(5, 1, 4), "5:0-1,0-4,1-2,2-3,3-4", false, 1},
		{bouquet(6, 2), "6:0-2,0-4,1-3,1-5,2-4,3-5", true, 2},
		{baseOf(2, 1, [3]int64{0, 1, 0}), "2:0-1", true, 1},
		{baseOf(2, 1, [3]int64{1, 0, 0}), "2:0-1", true, 1},
		{baseOf(2, 1, [3]int64{0, 1, 0}, [3]int64{0, 1, 0}), "2:0-1", false, 1},
		{baseOf(2, 1, [3]int64{0, 1, 0}, [3]int64{1, 0, 0}), "2:0-1", false, 1},
		{baseOf(2, 2, [3]int64{0, 1, 1}), "4:0-3,1-2", true, 2},
		{baseOf(2, 2, [3]int64{0, 1, 1}, [3]int64{1, 0, 0}), "4:0-2,0-3,1-2,1-3", true, 1},
		{baseOf(2, 2, [3]int64{0, 1, 1}, [3]int64{1, 0, 1}), "4:0-3,1-2", false, 2},
		{baseOf(2, 3, [3]int64{0, 1, 1}), "6:0-4,1-5,2-3", true, 3},
		{baseOf(2, 3, [3]int64{1, 0, 1}), "6:0-5,1-3,2-4", true, 3},
		{baseOf(2, 3, [3]int64{0, 1, 1}, [3]int64{1, 0, 1}), "6:0-4,0-5,1-3,1-5,2-3,2-4", true, 1},
		{baseOf(2, 3, [3]int64{0, 1, 1}, [3]int64{1, 0, 2}), "6:0-4,1-5,2-3", false, 3},
		{baseOf(3, 2, [3]int64{0, 0, 1}, [3]int64{2, 1, 1}), "6:0-1,2-5,3-4", false, 3},
		{baseOf(10, 1, [3]int64{9, 0, 0}), "10:0-9", true, 9},
	} {
		g, code := impl.LiftOf(c.x)
		wantGraph(t, call("LiftOf", c.x), g, code, parsed(t, c.text))
		if faithful, code := impl.IsFaithful(c.x); faithful != c.faithful || code != impl.ErrNone {
			t.Errorf("IsFaithful(%v) = %v, %d", c.x, faithful, code)
		}
		if parts, code := impl.LiftParts(c.x); parts != c.parts || code != impl.ErrNone {
			t.Errorf("LiftParts(%v) = %d, %d, want %d", c.x, parts, code, c.parts)
		}
	}
}

// TestLiftsAreJumpGraphs knows the lifts of turns, and that the greatest common factor tells the parts of a loop.
func TestLiftsAreJumpGraphs(t *testing.T) {
	for name, x := range map[string]impl.Base{
		"heawood": turns(14, 5, 9), "moebiuskantor": turns(16, 5, 11), "pappus": turns(18, 5, 7, 11, 7, 11, 13), "desargues": turns(20, 5, 15, 9, 11),
		"dodecahedron": turns(20, 10, 7, 4, 16, 13, 10, 16, 7, 13, 4), "mcgee": turns(24, 12, 7, 17), "tuttecoxeter": turns(30, 17, 21, 7, 23, 9, 13),
	} {
		want, code := impl.RenumberGraph(named(t, name), turnsPlaces(x.Size*x.Modulus, x.Size))
		wantCode(t, "RenumberGraph", code, impl.ErrNone)
		g, code := impl.LiftOf(x)
		wantGraph(t, name, g, code, want)
		if faithful, code := impl.IsFaithful(x); faithful != (name != "mcgee" && name != "dodecahedron") || code != impl.ErrNone {
			t.Errorf("the base of %s is faithful: %v, %d", name, faithful, code)
		}
	}
	for m := int64(1); m <= impl.MaxVertices; m++ {
		for volt := range m {
			factor, rest := m, volt
			for rest != 0 {
				factor, rest = rest, factor%rest
			}
			if parts, code := impl.LiftParts(bouquet(m, volt)); parts != factor || code != impl.ErrNone {
				t.Errorf("LiftParts(%d, %d) = %d, %d, want %d", m, volt, parts, code, factor)
			}
		}
	}
}

// isCoverOf compares the neighbours one by one.
func isCoverOf(g table, h table, list []int64) bool {
	for v := range g {
		met := make([]int, len(h))
		for w := range g {
			if g[v][w] {
				met[list[w]]++
			}
		}
		for w := range h {
			if (met[w] == 1) != h[list[v]][w] || met[w] > 1 {
				return false
			}
		}
	}
	return true
}

// TestCovers tries all lists from graphs of up to four vertices to those of up to three.
func TestCovers(t *testing.T) {
	for h := range smallTables {
		for g := range smallTables {
			if len(g) > 4 || len(h) > 3 {
				continue
			}
			list := make([]int64, len(g))
			for next := true; next; next = countUp(list, int64(len(h))) {
				if yes, code := impl.IsCover(g.graph(), h.graph(), list); yes != isCoverOf(g, h, list) || code != impl.ErrNone {
					t.Errorf("IsCover(%v, %v, %v) = %v, %d", g.graph(), h.graph(), list, yes, code)
				}
			}
		}
	}
}

// countUp goes on to the next list of digits below a number, as if the list were a number to this base.
func countUp(list []int64, base int64) bool {
	for i := range list {
		list[i] = (list[i] + 1) % base
		if list[i] != 0 {
			return true
		}
	}
	return false
}

func TestCoversByHand(t *testing.T) {
	petersen, k4, k5 := named(t, "petersen"), named(t, "k4"), named(t, "k5")
	pair, _ := impl.PutBeside(k4, k4)
	long := make([]int64, 62)
	for v := range long {
		long[v] = int64(v) % 31
	}
	twoRings, _ := impl.PutBeside(ring(31).graph(), ring(31).graph())
	for _, c := range []struct {
		what string
		g, h impl.Graph
		list []int64
		want bool
	}{
		{"itself", petersen, petersen, turn(10, 0), true},
		{"itself, turned", ring(7).graph(), ring(7).graph(), turn(7, 3), true},
		{"a ring of 62", ring(62).graph(), ring(31).graph(), long, true},
		{"two rings of 31", twoRings, ring(31).graph(), long, true},
		{"a ring of 62 less exactly", ring(62).graph(), ring(62).graph(), long, false},
		{"a cube by opposite vertices", named(t, "cube"), k4, []int64{0, 1, 2, 3, 3, 2, 1, 0}, true},
		{"a cube otherwise", named(t, "cube"), k4, []int64{0, 1, 2, 3, 0, 1, 2, 3}, false},
		{"not all of the lower graph", k4, pair, []int64{6, 4, 5, 7}, true},
		{"on both parts", k4, pair, []int64{0, 1, 2, 7}, false},
		{"both parts turned over", pair, k4, []int64{0, 1, 2, 3, 3, 1, 0, 2}, true},
		{"single vertices", newTable(62).graph(), newTable(1).graph(), make([]int64, 62), true},
		{"a single vertex below", parsed(t, "2:0-1"), newTable(1).graph(), []int64{0, 0}, false},
		{"a neighbour twice", parsed(t, "3:0-1,0-2"), parsed(t, "2:0-1"), []int64{0, 1, 1}, false},
		{"a neighbour not met", parsed(t, "2:0-1"), parsed(t, "3:0-1,0-2"), []int64{0, 1}, false},
		{"all neighbours, and a further one", k5, k4, []int64{0, 1, 2, 3, 0}, false},
	} {
		if yes, code := impl.IsCover(c.g, c.h, c.list); yes != c.want || code != impl.ErrNone {
			t.Errorf("%s: IsCover = %v, %d", c.what, yes, code)
		}
	}
}

func TestCoverErrors(t *testing.T) {
	k4, single := named(t, "k4"), newTable(1).graph()
	for _, list := range [][]int64{nil, {}, {0, 1, 2}, {0, 1, 2, 3, 0}, make([]int64, 62), make([]int64, 63), {0, 1, 2, -1}, {4, 1, 2, 3}, {0, 1, 2, 4, 0},
		{0, 64, 2, 3}, {0, 1, math.MaxInt64, 3}, {math.MinInt64, 1, 2, 3}} {
		wantError(t, call("IsCover", list), impl.ErrRange, results(impl.IsCover(k4, k4, list))...)
	}
	wantError(t, "a vertex of g alone", impl.ErrRange, results(impl.IsCover(k4, single, []int64{0, 0, 0, 1}))...)
	wantError(t, "as long as h", impl.ErrRange, results(impl.IsCover(single, k4, []int64{0, 0, 0, 0}))...)
	for why, g := range notGraphs() {
		for _, list := range [][]int64{{0, 1, 2, 3}, nil, {-1}, {0}} {
			wantError(t, "IsCover of "+why, impl.ErrInvalid, results(impl.IsCover(g, k4, list))...)
			wantError(t, "IsCover by "+why, impl.ErrInvalid, results(impl.IsCover(k4, g, list))...)
			wantError(t, "IsCover of and by "+why, impl.ErrInvalid, results(impl.IsCover(g, g, list))...)
		}
	}
}
