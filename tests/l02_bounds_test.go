package tests

import (
	"math"
	"math/big"
	"testing"

	"loop.example/g01331/impl"
)

// bigPowers is a factor times the sum of the base^i for i in 0..last, without a limit.
func bigPowers(factor int64, base int64, last int64) *big.Int {
	sum := new(big.Int)
	for i := range last + 1 {
		sum.Add(sum, new(big.Int).Exp(big.NewInt(base), big.NewInt(i), nil))
	}
	return sum.Mul(sum, big.NewInt(factor))
}

func wantBound(t *testing.T, what string, want *big.Int, bound int64, code int64) {
	t.Helper()
	if want.Cmp(big.NewInt(impl.MaxBound)) > 0 {
		wantError(t, what, impl.ErrLimit, bound, code)
	} else if want.Cmp(big.NewInt(bound)) != 0 || code != impl.ErrNone {
		t.Errorf("%s = %d, %d, want %v", what, bound, code, want)
	}
}

func TestMaxBound(t *testing.T) {
	if impl.MaxBound != 1_000_000_000_000 {
		t.Errorf("MaxBound is %d", int64(impl.MaxBound))
	}
}

// TestGirthBound tries all degrees and girths.
func TestGirthBound(t *testing.T) {
	for k := int64(2); k <= 62; k++ {
		for g := int64(3); g <= 62; g++ {
			want := bigPowers(2, k-1, g/2-1)
			if g%2 == 1 {
				want = bigPowers(k, k-1, (g-3)/2)
				want.Add(want, big.NewInt(1))
			}
			bound, code := impl.GirthBound(k, g)
			wantBound(t, call("GirthBound", k, g), want, bound, code)
		}
	}
}

// TestDiameterBound tries all degrees and diameters.
func TestDiameterBound(t *testing.T) {
	for k := int64(1); k <= 62; k++ {
		for d := int64(1); d <= 60; d++ {
			want := bigPowers(k, k-1, d-1)
			want.Add(want, big.NewInt(1))
			bound, code := impl.DiameterBound(k, d)
			wantBound(t, call("DiameterBound", k, d), want, bound, code)
		}
	}
}

// TestBoundsByHand has the greatest bounds of at most MaxBound, and the least ones that are greater.
func TestBoundsByHand(t *testing.T) {
	for _, c := range [][3]int64{{2, 3, 3}, {2, 4, 4}, {2, 5, 5}, {2, 61, 61}, {2, 62, 62}, {3, 3, 4}, {3, 4, 6}, {3, 5, 10}, {3, 6, 14}, {3, 7, 22}, {3, 8, 30}, {7, 5, 50}, {57, 5, 3250},
		{62, 3, 63}, {62, 4, 124}, {3, 62, 4294967294}, {4, 50, 847288609442}, {62, 14, 104758094534}, {52, 15, 933307104965}, {32, 17, 909750439937}} {
		if bound, code := impl.GirthBound(c[0], c[1]); bound != c[2] || code != impl.ErrNone {
			t.Errorf("GirthBound(%d, %d) = %d, %d, want %d", c[0], c[1], bound, code, c[2])
		}
	}
	for _, c := range [][2]int64{{48, 16}, {53, 15}, {4, 51}, {62, 15}, {62, 16}, {62, 61}, {62, 62}} {
		wantError(t, call("GirthBound", c), impl.ErrLimit, results(impl.GirthBound(c[0], c[1]))...)
	}
	for _, c := range [][3]int64{{1, 1, 2}, {1, 2, 2}, {1, 60, 2}, {2, 1, 3}, {2, 60, 121}, {3, 1, 4}, {3, 2, 10}, {3, 3, 22}, {7, 2, 50}, {57, 2, 3250},
		{62, 1, 63}, {62, 2, 3845}, {3, 38, 824633720830}, {4, 24, 564859072961}, {62, 6, 53237720173}, {52, 7, 933307104965}} {
		if bound, code := impl.DiameterBound(c[0], c[1]); bound != c[2] || code != impl.ErrNone {
			t.Errorf("DiameterBound(%d, %d) = %d, %d, want %d", c[0], c[1], bound, code, c[2])
		}
	}
	for _, c := range [][2]int64{{53, 7}, {3, 39}, {4, 25}, {3, 60}, {62, 7}, {62, 60}} {
		wantError(t, call("DiameterBound", c), impl.ErrLimit, results(impl.DiameterBound(c[0], c[1]))...)
	}
}

// TestBoundRanges also has numbers out of range beside those that would lead behind MaxBound.
func TestBoundRanges(t *testing.T) {
	for _, k := range []int64{1, 0, -1, 63, math.MaxInt64, math.MinInt64} {
		for _, g := range []int64{3, 30, 62, 2, 63} {
			wantError(t, call("GirthBound", k, g), impl.ErrRange, results(impl.GirthBound(k, g))...)
		}
	}
	for _, g := range []int64{2, 1, 0, -3, 63, 64, math.MaxInt64, math.MinInt64} {
		for _, k := range []int64{2, 3, 62, 1, 63} {
			wantError(t, call("GirthBound", k, g), impl.ErrRange, results(impl.GirthBound(k, g))...)
		}
	}
	for _, k := range []int64{0, -1, 63, math.MaxInt64, math.MinInt64} {
		for _, d := range []int64{1, 30, 60, 0, 61} {
			wantError(t, call("DiameterBound", k, d), impl.ErrRange, results(impl.DiameterBound(k, d))...)
		}
	}
	for _, d := range []int64{0, -1, 61, 62, math.MaxInt64, math.MinInt64} {
		for _, k := range []int64{1, 2, 62, 0, 63} {
			wantError(t, call("DiameterBound", k, d), impl.ErrRange, results(impl.DiameterBound(k, d))...)
		}
	}
}

// piece is a part of a chain: its edges, and the vertices at which those before and behind it are joined.
type piece struct {
	size     int64
	edges    [][2]int64
	from, to int64
}

// Each vertex of a chain of pieces has three neighbours. From the joined vertex of an end to its farthest one there are
// two or three steps, from one side of a diamond to the other one two.
func shortEnd() piece {
	return piece{5, [][2]int64{{0, 1}, {0, 2}, {1, 3}, {1, 4}, {2, 3}, {2, 4}, {3, 4}}, 0, 0}
}

func longEnd() piece {
	return piece{7, [][2]int64{{0, 1}, {0, 2}, {1, 2}, {1, 3}, {2, 4}, {3, 5}, {3, 6}, {4, 5}, {4, 6}, {5, 6}}, 0, 0}
}

func diamond() piece {
	return piece{4, [][2]int64{{0, 1}, {0, 2}, {1, 2}, {1, 3}, {2, 3}}, 0, 3}
}

// chain joins one end, some diamonds, and the other end, by a bridge each.
func chain(one piece, diamonds int, other piece) table {
	pieces := []piece{one}
	for range diamonds {
		pieces = append(pieces, diamond())
	}
	pieces = append(pieces, other)
	size := int64(0)
	for _, p := range pieces {
		size += p.size
	}
	x := newTable(size)
	first, last := int64(0), int64(-1)
	for _, p := range pieces {
		for _, e := range p.edges {
			x.join(first+e[0], first+e[1])
		}
		if last >= 0 {
			x.join(last, first+p.from)
		}
		first, last = first+p.size, first+p.to
	}
	return x
}

func TestExcessAndDefect(t *testing.T) {
	for name, want := range map[string][2]int64{"k4": {0, 0}, "k5": {0, 0}, "k33": {0, 4}, "cube": {2, 14}, "clebsch": {6, 10}, "petersen": {0, 0}, "icosahedron": {6, 94},
		"hoffmansingleton": {0, 0}, "heawood": {0, 8}, "moebiuskantor": {2, 30}, "pappus": {4, 28}, "desargues": {6, 74}, "dodecahedron": {10, 74}, "mcgee": {2, 22}, "tuttecoxeter": {0, 16}} {
		wantExcess(t, named(t, name), want[0], want[1])
	}
	for n := int64(3); n <= 62; n++ {
		wantExcess(t, ring(n).graph(), 0, (n+1)%2)
		wantExcess(t, complement(t, newTable(n).graph()), 0, 0)
	}
	wantExcess(t, chain(shortEnd(), 11, shortEnd()).graph(), 50, 824633720830-54)
}

// wantExcess also asks for a Moore graph, which a connected one with the excess 0 is.
func wantExcess(t *testing.T, g impl.Graph, excess int64, defect int64) {
	t.Helper()
	gotExcess, one := impl.ExcessOf(g)
	gotDefect, two := impl.DefectOf(g)
	moore, three := impl.IsMooreGraph(g)
	if gotExcess != excess || gotDefect != defect || moore != (excess == 0) || one != impl.ErrNone || two != impl.ErrNone || three != impl.ErrNone {
		t.Errorf("%v has the excess %d, %d, and the defect %d, %d, is a Moore graph %v, %d, want %d and %d", g, gotExcess, one, gotDefect, two, moore, three, excess, defect)
	}
}

// TestDefectBehindMaxBound has graphs of degree 3 with diameters of 39 and more.
func TestDefectBehindMaxBound(t *testing.T) {
	for diameter, x := range map[int64]table{39: chain(longEnd(), 11, shortEnd()), 40: chain(longEnd(), 11, longEnd()), 44: chain(shortEnd(), 13, shortEnd())} {
		g := x.graph()
		if got, _, code := impl.DiameterOf(g); got != diameter || code != impl.ErrNone {
			t.Errorf("a chain has the diameter %d, %d, want %d", got, code, diameter)
		}
		if excess, code := impl.ExcessOf(g); excess != g.Size-4 || code != impl.ErrNone {
			t.Errorf("a chain of %d has the excess %d, %d", g.Size, excess, code)
		}
		wantError(t, "DefectOf a long chain", impl.ErrLimit, results(impl.DefectOf(g))...)
	}
}

func TestExcessWithoutConnection(t *testing.T) {
	for text, excess := range map[string]int64{"6:0-1,0-2,1-2,3-4,3-5,4-5": 3, "7:0-1,0-2,1-2,3-4,3-6,4-5,5-6": 4, "8:0-1,0-3,1-2,2-3,4-5,4-7,5-6,6-7": 4} {
		g := parsed(t, text)
		if got, code := impl.ExcessOf(g); got != excess || code != impl.ErrNone {
			t.Errorf("ExcessOf(%s) = %d, %d, want %d", text, got, code, excess)
		}
		wantError(t, call("DefectOf", text), impl.ErrState, results(impl.DefectOf(g))...)
		wantNoMoore(t, text, g)
	}
}

func wantNoMoore(t *testing.T, what string, g impl.Graph) {
	t.Helper()
	if moore, code := impl.IsMooreGraph(g); moore || code != impl.ErrNone {
		t.Errorf("IsMooreGraph(%s) = %v, %d", what, moore, code)
	}
}

// TestWithoutDegree has graphs that are not regular, or of a degree less than 2.
func TestWithoutDegree(t *testing.T) {
	for _, text := range []string{"1:", "2:", "62:", "2:0-1", "4:0-1,2-3", "3:0-1", "3:0-1,0-2", "4:0-1,0-2,1-2", "4:0-1,0-2,1-2,2-3", "4:0-1,0-2,0-3,1-2,1-3", "5:0-1,0-2,1-2,3-4"} {
		g := parsed(t, text)
		wantError(t, call("ExcessOf", text), impl.ErrState, results(impl.ExcessOf(g))...)
		wantError(t, call("DefectOf", text), impl.ErrState, results(impl.DefectOf(g))...)
		wantNoMoore(t, text, g)
	}
}
