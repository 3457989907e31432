package tests

import (
	"math"
	"math/bits"
	"slices"
	"testing"

	"loop.example/g01331/impl"
)

// tupleTable solves the equations: for each a and each first number of b there is one b.
func tupleTable(k int, q int64) table {
	n := int64(1)
	for range k {
		n *= q
	}
	want := newTable(2 * n)
	for v := range n {
		a := make([]int64, k)
		for i, left := k-1, v; i >= 0; i, left = i-1, left/q {
			a[i] = left % q
		}
		for first := range q {
			b := []int64{first, 0, 0, 0}
			w := first
			for i := 1; i < k; i++ {
				product := []int64{0, a[0] * b[0], a[0] * b[1], a[1] * b[0]}[i]
				b[i] = (product - a[i] + q) % q
				w = w*q + b[i]
			}
			want.join(v, n+w)
		}
	}
	return want
}

func TestTupleGraph(t *testing.T) {
	for _, c := range []struct {
		k     int64
		q     int64
		size  int64
		girth int64
	}{{2, 2, 8, 8}, {2, 3, 18, 6}, {2, 5, 50, 6}, {3, 2, 16, 8}, {3, 3, 54, 8}, {4, 2, 32, 8}} {
		g, code := impl.TupleGraph(c.k, c.q)
		wantGraph(t, call("TupleGraph", c.k, c.q), g, code, tupleTable(int(c.k), c.q).graph())
		girth, _ := impl.GirthOf(g)
		degree, code := impl.RegularDegree(g)
		if g.Size != c.size || girth != c.girth || degree != c.q || code != impl.ErrNone {
			t.Errorf("TupleGraph(%d, %d) has %d vertices, the girth %d, and the degree %d, %d", c.k, c.q, g.Size, girth, degree, code)
		}
	}
	g, code := impl.TupleGraph(2, 2)
	wantGraph(t, "TupleGraph(2, 2)", g, code, parsed(t, "8:0-4,0-6,1-5,1-7,2-4,2-7,3-5,3-6"))
}

func TestTupleGraphErrors(t *testing.T) {
	for _, c := range [][2]int64{{2, 7}, {3, 5}, {3, 7}, {4, 3}, {4, 5}, {4, 7}} {
		wantError(t, call("TupleGraph", c), impl.ErrLimit, results(impl.TupleGraph(c[0], c[1]))...)
	}
	outside := []int64{1, 5, 0, -1, -2, 6, 62, 1<<32 + 2, math.MaxInt64, math.MinInt64}
	for _, k := range outside {
		for _, q := range append(primes(), notPrimes()...) {
			wantError(t, call("TupleGraph", k, q), impl.ErrRange, results(impl.TupleGraph(k, q))...)
		}
	}
	for k := int64(2); k <= 4; k++ {
		for _, q := range notPrimes() {
			wantError(t, call("TupleGraph", k, q), impl.ErrRange, results(impl.TupleGraph(k, q))...)
		}
	}
}

// ascendingLists lists the sets of k of the numbers 0 to m - 1, found by their digits, in lexicographic order.
func ascendingLists(k int, m int) [][]int64 {
	var lists [][]int64
	for choice := range uint(1) << m {
		if bits.OnesCount(choice) != k {
			continue
		}
		var list []int64
		for x := range m {
			if choice>>x%2 == 1 {
				list = append(list, int64(x))
			}
		}
		lists = append(lists, list)
	}
	slices.SortFunc(lists, slices.Compare[[]int64])
	return lists
}

func TestOddGraph(t *testing.T) {
	for k := 2; k <= 4; k++ {
		sets := ascendingLists(k-1, 2*k-1)
		want := newTable(int64(len(sets)))
		for v, one := range sets {
			for w, other := range sets {
				if !slices.ContainsFunc(one, func(x int64) bool { return slices.Contains(other, x) }) {
					want.join(int64(v), int64(w))
				}
			}
		}
		g, code := impl.OddGraph(int64(k))
		wantGraph(t, call("OddGraph", k), g, code, want.graph())
		if degree, code := impl.RegularDegree(g); degree != int64(k) || code != impl.ErrNone {
			t.Errorf("OddGraph(%d) has the degree %d, %d", k, degree, code)
		}
	}
	g, code := impl.OddGraph(2)
	wantGraph(t, "OddGraph(2)", g, code, parsed(t, "3:0-1,0-2,1-2"))
	g, code = impl.OddGraph(3)
	wantGraph(t, "OddGraph(3)", g, code, parsed(t, "10:0-7,0-8,0-9,1-5,1-6,1-9,2-4,2-6,2-8,3-4,3-5,3-7,4-9,5-8,6-7"))
	g, _ = impl.OddGraph(4)
	if girth, code := impl.GirthOf(g); g.Size != 35 || girth != 6 || code != impl.ErrNone {
		t.Errorf("OddGraph(4) has %d vertices, and the girth %d, %d", g.Size, girth, code)
	}
}

func TestOddGraphErrors(t *testing.T) {
	for _, k := range []int64{1, 5, 0, -1, -2, -4, 6, 31, 62, 1<<32 + 3, math.MaxInt64, math.MinInt64} {
		wantError(t, call("OddGraph", k), impl.ErrRange, results(impl.OddGraph(k))...)
	}
}

// ringTable joins by the rule of the document.
func ringTable(n int64, k int64) table {
	want := newTable(2 * n)
	after := func(i int64, steps int64) int64 {
		for range steps {
			if i++; i == n {
				i = 0
			}
		}
		return i
	}
	for i := range n {
		want.join(i, after(i, 1))
		want.join(i, n+i)
		want.join(n+i, n+after(i, k))
	}
	return want
}

// TestRingGraph has all n and k that there are, and those one beyond.
func TestRingGraph(t *testing.T) {
	for n := int64(-2); n <= 40; n++ {
		for k := int64(-2); k <= 42; k++ {
			if n < 3 || n > 31 || k < 1 || k >= n || k+k == n {
				wantError(t, call("RingGraph", n, k), impl.ErrRange, results(impl.RingGraph(n, k))...)
				continue
			}
			g, code := impl.RingGraph(n, k)
			wantGraph(t, call("RingGraph", n, k), g, code, ringTable(n, k).graph())
		}
	}
}

func TestRingGraphsByHand(t *testing.T) {
	g, code := impl.RingGraph(3, 1)
	wantGraph(t, "RingGraph(3, 1)", g, code, parsed(t, "6:0-1,0-2,0-3,1-2,1-4,2-5,3-4,3-5,4-5"))
	g, code = impl.RingGraph(3, 2)
	wantGraph(t, "RingGraph(3, 2)", g, code, parsed(t, "6:0-1,0-2,0-3,1-2,1-4,2-5,3-4,3-5,4-5"))
	g, code = impl.RingGraph(4, 1)
	wantGraph(t, "RingGraph(4, 1)", g, code, parsed(t, "8:0-1,0-3,0-4,1-2,1-5,2-3,2-6,3-7,4-5,4-7,5-6,6-7"))
	g, code = impl.RingGraph(5, 2)
	wantGraph(t, "RingGraph(5, 2)", g, code, named(t, "petersen"))
	for _, c := range [][3]int64{{4, 3, 4}, {8, 3, 6}, {10, 2, 5}, {10, 3, 6}, {12, 5, 6}, {13, 5, 7}, {31, 15, 5}, {31, 30, 4}, {31, 1, 4}} {
		g, _ := impl.RingGraph(c[0], c[1])
		if girth, code := impl.GirthOf(g); girth != c[2] || code != impl.ErrNone {
			t.Errorf("RingGraph(%d, %d) has the girth %d, %d", c[0], c[1], girth, code)
		}
	}
}

func TestRingGraphErrors(t *testing.T) {
	for _, wrong := range []int64{math.MaxInt64, math.MinInt64, 1<<32 + 5, 1 << 62, -1 << 62} {
		for _, other := range []int64{0, 1, 2, 5, 31, wrong} {
			wantError(t, call("RingGraph", wrong, other), impl.ErrRange, results(impl.RingGraph(wrong, other))...)
			wantError(t, call("RingGraph", other, wrong), impl.ErrRange, results(impl.RingGraph(other, wrong))...)
		}
	}
}

func TestDoubleGraph(t *testing.T) {
	for x := range sampleTables {
		g := x.graph()
		if g.Size > 31 {
			wantError(t, call("DoubleGraph", g), impl.ErrLimit, results(impl.DoubleGraph(g))...)
			continue
		}
		want := newTable(2 * g.Size)
		for _, e := range x.edges() {
			want.join(e[0], g.Size+e[1])
			want.join(e[1], g.Size+e[0])
		}
		double, code := impl.DoubleGraph(g)
		wantGraph(t, call("DoubleGraph", g), double, code, want.graph())
	}
	double, code := impl.DoubleGraph(parsed(t, "1:"))
	wantGraph(t, "DoubleGraph of one vertex", double, code, parsed(t, "2:"))
	double, code = impl.DoubleGraph(parsed(t, "3:0-1,0-2"))
	wantGraph(t, "DoubleGraph", double, code, parsed(t, "6:0-4,0-5,1-3,2-3"))
	double, code = impl.DoubleGraph(parsed(t, "3:0-1,0-2,1-2"))
	wantGraph(t, "DoubleGraph of a triangle", double, code, parsed(t, "6:0-4,0-5,1-3,1-5,2-3,2-4"))
}

// TestDoubleGraphLimit has graphs of 31 and 32 vertices, with and without edges.
func TestDoubleGraphLimit(t *testing.T) {
	for _, x := range []table{newTable(31), ring(31), tableOf(complement(t, newTable(31).graph()))} {
		double, code := impl.DoubleGraph(x.graph())
		if double.Size != impl.MaxVertices || !impl.IsGraph(double) || code != impl.ErrNone {
			t.Errorf("DoubleGraph(%v) = %v, %d", x.graph(), double, code)
		}
	}
	for _, x := range []table{newTable(32), ring(32), newTable(62), ring(62)} {
		wantError(t, call("DoubleGraph", x.graph()), impl.ErrLimit, results(impl.DoubleGraph(x.graph()))...)
	}
}

// TestDoubleGraphErrors also has values of more than 31 vertices, as ErrInvalid comes first.
func TestDoubleGraphErrors(t *testing.T) {
	for why, x := range notGraphs() {
		wantError(t, "DoubleGraph: "+why, impl.ErrInvalid, results(impl.DoubleGraph(x))...)
	}
	wide := ring(40).graph()
	wide.Rows[39] = 0
	wantError(t, "DoubleGraph of 40 rows, one way", impl.ErrInvalid, results(impl.DoubleGraph(wide))...)
}
