package tests

import (
	"math"
	"testing"

	"loop.example/g01331/impl"
)

func primes() []int64 { return []int64{2, 3, 5, 7} }

// notPrimes has numbers that are none in chapter 4, some of them primes elsewhere, and some with a prime as their last 8, 32 or 63 digits.
func notPrimes() []int64 {
	return []int64{0, 1, 4, 6, 8, 9, 10, 11, 13, 25, 31, 49, 62, -1, -2, -3, -5, -7, 258, 1<<32 + 3, 1<<62 + 5,
		math.MaxInt64, math.MinInt64, math.MinInt64 + 2, math.MinInt64 + 7}
}

// planeTriples lists the points as their order has them: those that begin with two zeros, with one, and with none.
func planeTriples(q int64) [][]int64 {
	list := [][]int64{{0, 0, 1}}
	for z := range q {
		list = append(list, []int64{0, 1, z})
	}
	for y := range q {
		for z := range q {
			list = append(list, []int64{1, y, z})
		}
	}
	return list
}

// meet reports whether a point is on a line, by adding up.
func meet(q int64, point []int64, line []int64) bool {
	sum := int64(0)
	for i := range point {
		for range point[i] {
			sum = (sum + line[i]) % q
		}
	}
	return sum == 0
}

func TestPlanePoints(t *testing.T) {
	for _, q := range primes() {
		points, code := impl.PlanePoints(q)
		wantLists(t, call("PlanePoints", q), points, code, planeTriples(q))
		if int64(len(points)) != q*q+q+1 {
			t.Errorf("there are %d points of %d", len(points), q)
		}
	}
	points, code := impl.PlanePoints(2)
	wantLists(t, "PlanePoints(2)", points, code, [][]int64{{0, 0, 1}, {0, 1, 0}, {0, 1, 1}, {1, 0, 0}, {1, 0, 1}, {1, 1, 0}, {1, 1, 1}})
	points, code = impl.PlanePoints(3)
	wantLists(t, "PlanePoints(3)", points, code, [][]int64{{0, 0, 1}, {0, 1, 0}, {0, 1, 1}, {0, 1, 2},
		{1, 0, 0}, {1, 0, 1}, {1, 0, 2}, {1, 1, 0}, {1, 1, 1}, {1, 1, 2}, {1, 2, 0}, {1, 2, 1}, {1, 2, 2}})
}

func TestPlaneGraph(t *testing.T) {
	for _, q := range []int64{2, 3, 5} {
		points := planeTriples(q)
		n := int64(len(points))
		want := newTable(2 * n)
		for v, point := range points {
			for w, line := range points {
				if meet(q, point, line) {
					want.join(int64(v), n+int64(w))
				}
			}
		}
		g, code := impl.PlaneGraph(q)
		wantGraph(t, call("PlaneGraph", q), g, code, want.graph())
	}
	g, code := impl.PlaneGraph(2)
	wantGraph(t, "PlaneGraph(2)", g, code, parsed(t, "14:0-8,0-10,0-12,1-7,1-10,1-11,2-9,2-10,2-13,3-7,3-8,3-9,4-8,4-11,4-13,5-7,5-12,5-13,6-9,6-11,6-12"))
}

// TestPlaneGraphLimit has the planes of 62 and of 114 vertices.
func TestPlaneGraphLimit(t *testing.T) {
	g, code := impl.PlaneGraph(5)
	if g.Size != impl.MaxVertices || code != impl.ErrNone {
		t.Errorf("PlaneGraph(5) has %d vertices, %d", g.Size, code)
	}
	wantError(t, "PlaneGraph(7)", impl.ErrLimit, results(impl.PlaneGraph(7))...)
}

func TestPolarityGraph(t *testing.T) {
	for _, q := range primes() {
		points := planeTriples(q)
		want := newTable(int64(len(points)))
		var absolute []int64
		for v, point := range points {
			for w, line := range points {
				if v == w && meet(q, point, line) {
					absolute = append(absolute, int64(v))
				} else if meet(q, point, line) {
					want.join(int64(v), int64(w))
				}
			}
		}
		g, code := impl.PolarityGraph(q)
		wantGraph(t, call("PolarityGraph", q), g, code, want.graph())
		list, code := impl.AbsolutePoints(q)
		wantList(t, call("AbsolutePoints", q), list, code, absolute...)
	}
	g, code := impl.PolarityGraph(2)
	wantGraph(t, "PolarityGraph(2)", g, code, parsed(t, "7:0-1,0-3,0-5,1-3,1-4,2-3,2-6,4-6,5-6"))
	g, code = impl.PolarityGraph(7)
	if g.Size != 57 || code != impl.ErrNone {
		t.Errorf("PolarityGraph(7) has %d vertices, %d", g.Size, code)
	}
}

func TestAbsolutePoints(t *testing.T) {
	list, code := impl.AbsolutePoints(2)
	wantList(t, "AbsolutePoints(2)", list, code, 2, 4, 5)
	list, code = impl.AbsolutePoints(3)
	wantList(t, "AbsolutePoints(3)", list, code, 8, 9, 11, 12)
	list, code = impl.AbsolutePoints(5)
	wantList(t, "AbsolutePoints(5)", list, code, 3, 4, 8, 9, 16, 21)
}

func TestPlaneErrors(t *testing.T) {
	for _, q := range notPrimes() {
		wantError(t, call("PlanePoints", q), impl.ErrRange, results(impl.PlanePoints(q))...)
		wantError(t, call("PlaneGraph", q), impl.ErrRange, results(impl.PlaneGraph(q))...)
		wantError(t, call("PolarityGraph", q), impl.ErrRange, results(impl.PolarityGraph(q))...)
		wantError(t, call("AbsolutePoints", q), impl.ErrRange, results(impl.AbsolutePoints(q))...)
	}
	for q := int64(-70); q <= 130; q++ {
		_, code := impl.PlanePoints(q)
		if want := q == 2 || q == 3 || q == 5 || q == 7; want != (code == impl.ErrNone) {
			t.Errorf("PlanePoints(%d): code %d", q, code)
		}
	}
}
