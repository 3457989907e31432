package tests

import (
	"math/bits"
	"slices"
	"testing"

	"loop.example/g01331/impl"
)

// regularOf returns the degree of a regular table, or -1.
func regularOf(x table) int64 {
	for v := range x {
		if x.degree(int64(v)) != x.degree(0) {
			return -1
		}
	}
	return x.degree(0)
}

// cageByRows gives the vertices from v on their neighbours behind them, in lexicographic order, and asks for the girth after each vertex.
func cageByRows(x table, v int64, k int64, c int64) bool {
	n := int64(len(x))
	if v == n {
		return true
	}
	lacks := k - x.degree(v)
	if lacks < 0 {
		return false
	}
	for _, list := range ascendingLists(int(lacks), int(n-v-1)) {
		if slices.ContainsFunc(list, func(i int64) bool { return x.degree(v+1+i) == k }) {
			continue
		}
		for _, i := range list {
			x.join(v, v+1+i)
		}
		if girthOrNoWay(x) >= c && cageByRows(x, v+1, k, c) {
			return true
		}
		for _, i := range list {
			x[v][v+1+i], x[v+1+i][v] = false, false
		}
	}
	return false
}

func wantFirst(t *testing.T, n int64, k int64, c int64, want table) {
	t.Helper()
	if want == nil {
		wantError(t, call("FirstRegular", n, k, c), impl.ErrNotFound, results(impl.FirstRegular(n, k, c))...)
		return
	}
	g, code := impl.FirstRegular(n, k, c)
	wantGraph(t, call("FirstRegular", n, k, c), g, code, want.graph())
}

// TestFirstRegularOfAll goes through all graphs of at most seven vertices in their order: the first pair has the greatest digit.
func TestFirstRegularOfAll(t *testing.T) {
	for n := int64(1); n <= 7; n++ {
		pairs := groups(n, 1).edges()
		around := make([]uint, n)
		for i, e := range pairs {
			digit := uint(1) << (len(pairs) - 1 - i)
			around[e[0]] |= digit
			around[e[1]] |= digit
		}
		first := map[[2]int64]table{}
		for choice := range uint(1) << len(pairs) {
			choice = 1<<len(pairs) - 1 - choice
			degree := bits.OnesCount(choice & around[0])
			if !slices.ContainsFunc(around, func(digits uint) bool { return bits.OnesCount(choice&digits) != degree }) {
				noteFirst(first, orderedTable(n, choice))
			}
		}
		for k, c := range withinBoth {
			wantFirst(t, n, k, c, first[[2]int64{k, c}])
		}
	}
}

// orderedTable has its pairs in lexicographic order as digits of a number, from the greatest one on.
func orderedTable(n int64, choice uint) table {
	x := newTable(n)
	pairs := groups(n, 1).edges()
	for i, e := range pairs {
		if choice>>(len(pairs)-1-i)&1 == 1 {
			x.join(e[0], e[1])
		}
	}
	return x
}

// noteFirst notes a graph for all k and c for which it is a cage graph and there is none yet.
func noteFirst(first map[[2]int64]table, x table) {
	degree, girth := regularOf(x), girthOrNoWay(x)
	for c := int64(3); c <= min(12, girth); c++ {
		if first[[2]int64{degree, c}] == nil {
			first[[2]int64{degree, c}] = x
		}
	}
}

// isKnown reports whether there are cage graphs, as is known of degrees and girths with at most ten vertices.
func isKnown(n int64, k int64, c int64) bool {
	if n*k%2 == 1 {
		return false
	}
	switch {
	case k == 1:
		return true
	case k == 2:
		return n >= c
	case c == 3:
		return n >= k+1
	case c == 4:
		return n >= 2*k && !(n == 9 && k == 4)
	case c == 5:
		return n == 10 && k == 3
	}
	return false
}

func TestFirstRegular(t *testing.T) {
	met := 0
	for n := int64(1); n <= 10; n++ {
		for k, c := range withinBoth {
			x := newTable(n)
			known := isKnown(n, k, c)
			// What is too small or odd is looked for above, with fewer vertices; here that would take long.
			tried := n <= 6 || n*k%2 == 0 && (k <= 2 && c <= n || k > 2 && c <= 5)
			if (known || tried) && known != cageByRows(x, 0, k, c) {
				t.Errorf("there is a graph of %d vertices for %d and %d: %v", n, k, c, known)
			}
			if !known {
				x = nil
			} else {
				met++
			}
			wantFirst(t, n, k, c, x)
		}
	}
	if met != 110 {
		t.Errorf("there are %d first graphs", met)
	}
}

func TestFirstRegularByHand(t *testing.T) {
	for _, c := range []struct {
		n, k, c int64
		text    string
	}{
		{2, 1, 3, "2:0-1"}, {2, 1, 12, "2:0-1"}, {10, 1, 12, "10:0-1,2-3,4-5,6-7,8-9"},
		{3, 2, 3, "3:0-1,0-2,1-2"}, {4, 2, 3, "4:0-1,0-2,1-3,2-3"}, {4, 2, 4, "4:0-1,0-2,1-3,2-3"}, {5, 2, 3, "5:0-1,0-2,1-3,2-4,3-4"}, {6, 2, 3, "6:0-1,0-2,1-2,3-4,3-5,4-5"},
		{6, 2, 4, "6:0-1,0-2,1-3,2-4,3-5,4-5"}, {8, 2, 4, "8:0-1,0-2,1-3,2-3,4-5,4-6,5-7,6-7"}, {10, 2, 10, "10:0-1,0-2,1-3,2-4,3-5,4-6,5-7,6-8,7-9,8-9"},
		{4, 3, 3, "4:0-1,0-2,0-3,1-2,1-3,2-3"}, {6, 3, 3, "6:0-1,0-2,0-3,1-2,1-4,2-5,3-4,3-5,4-5"}, {6, 3, 4, "6:0-1,0-2,0-3,1-4,1-5,2-4,2-5,3-4,3-5"},
		{8, 3, 3, "8:0-1,0-2,0-3,1-2,1-3,2-3,4-5,4-6,4-7,5-6,5-7,6-7"},
		{10, 3, 3, "10:0-1,0-2,0-3,1-2,1-3,2-3,4-5,4-6,4-7,5-6,5-8,6-9,7-8,7-9,8-9"},
		{10, 3, 5, "10:0-1,0-2,0-3,1-4,1-5,2-6,2-7,3-8,3-9,4-6,4-8,5-7,5-9,6-9,7-8"},
		{8, 4, 4, "8:0-1,0-2,0-3,0-4,1-5,1-6,1-7,2-5,2-6,2-7,3-5,3-6,3-7,4-5,4-6,4-7"},
	} {
		wantFirst(t, c.n, c.k, c.c, tableOf(parsed(t, c.text)))
	}
	for k := int64(1); k <= 6; k++ {
		wantFirst(t, k+1, k, 3, groups(k+1, 1))
	}
	wantFirst(t, 10, 4, 3, severalParts(groups(5, 1), 2))
	for _, c := range [][3]int64{{1, 1, 3}, {1, 6, 12}, {3, 1, 3}, {9, 1, 12}, {2, 2, 3}, {10, 2, 11}, {10, 2, 12}, {9, 2, 10}, {5, 3, 3}, {9, 3, 3}, {3, 3, 3}, {2, 3, 3},
		{4, 3, 4}, {8, 3, 5}, {10, 3, 6}, {10, 3, 12}, {9, 4, 4}, {10, 4, 5}, {7, 5, 3}, {9, 5, 3}, {9, 5, 4}, {8, 5, 4}, {6, 6, 3}, {10, 6, 4}, {10, 6, 12}} {
		wantFirst(t, c[0], c[1], c[2], nil)
	}
}

// TestLeastVertices has all numbers within their ranges, as is known of cages.
func TestLeastVertices(t *testing.T) {
	least := map[[2]int64]int64{{3, 3}: 4, {3, 4}: 6, {3, 5}: 10, {4, 3}: 5, {4, 4}: 8, {5, 3}: 6, {5, 4}: 10, {6, 3}: 7}
	for c := int64(3); c <= 12; c++ {
		least[[2]int64{1, c}] = 2
		if c <= 10 {
			least[[2]int64{2, c}] = c
		}
	}
	for k, c := range withinBoth {
		want, ok := least[[2]int64{k, c}]
		if !ok {
			wantError(t, call("LeastVertices", k, c), impl.ErrNotFound, results(impl.LeastVertices(k, c))...)
		} else if n, code := impl.LeastVertices(k, c); n != want || code != impl.ErrNone {
			t.Errorf("LeastVertices(%d, %d) = %d, %d, want %d", k, c, n, code, want)
		}
	}
}

// TestCageErrors has numbers out of range, also where there would be no cage graph.
func TestCageErrors(t *testing.T) {
	for k, c := range withoutBoth {
		wantError(t, call("LeastVertices", k, c), impl.ErrRange, results(impl.LeastVertices(k, c))...)
		for _, n := range []int64{1, 3, 4, 10, 0, 11} {
			wantError(t, call("FirstRegular", n, k, c), impl.ErrRange, results(impl.FirstRegular(n, k, c))...)
		}
	}
	for _, n := range []int64{0, 11, 12, 62, -1, -10, 1 << 40, 1<<63 - 1, -1 << 63} {
		for k, c := range withinBoth {
			wantError(t, call("FirstRegular", n, k, c), impl.ErrRange, results(impl.FirstRegular(n, k, c))...)
		}
	}
}
