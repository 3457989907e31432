package tests

import (
	"fmt"
	"math"
	"slices"
	"testing"

	"loop.example/g01331/impl"
)

// partitions yields all partitions of a graph with n vertices.
func partitions(n int64) func(yield func([]int64) bool) {
	return func(yield func([]int64) bool) {
		var extend func(list []int64, colours int64) bool
		extend = func(list []int64, colours int64) bool {
			if int64(len(list)) == n {
				return yield(list)
			}
			for colour := range colours + 1 {
				if !extend(append(slices.Clone(list), colour), max(colours, colour+1)) {
					return false
				}
			}
			return true
		}
		extend(nil, 0)
	}
}

// isPartitionByRules looks for where each colour is met first.
func isPartitionByRules(n int64, list []int64) bool {
	if int64(len(list)) != n {
		return false
	}
	behind := 0
	for colour := int64(0); colour <= slices.Max(list); colour++ {
		first := slices.Index(list, colour)
		if first < behind {
			return false
		}
		behind = first
	}
	return slices.Min(list) == 0
}

// isEqualByPairs counts the neighbours of each colour of each two vertices of the same colour.
func isEqualByPairs(x table, list []int64) bool {
	for v := range x {
		for w := range v {
			for colour := range int64(len(x)) {
				count := 0
				for u := range x {
					if list[u] == colour && x[v][u] {
						count++
					}
					if list[u] == colour && x[w][u] {
						count--
					}
				}
				if list[v] == list[w] && count != 0 {
					return false
				}
			}
		}
	}
	return true
}

// isFiner reports whether vertices of different colours of a list have different ones of a finer list.
func isFiner(finer []int64, list []int64) bool {
	for v := range list {
		for w := range v {
			if list[v] != list[w] && finer[v] == finer[w] {
				return false
			}
		}
	}
	return true
}

// numbered gives the words their numbers in the order in which they are met first.
func numbered(words []string) []int64 {
	var met []string
	list := make([]int64, len(words))
	for i, word := range words {
		if !slices.Contains(met, word) {
			met = append(met, word)
		}
		list[i] = int64(slices.Index(met, word))
	}
	return list
}

// refinedByWords writes the colours of the neighbours of each vertex, in order, behind its own.
func refinedByWords(x table, list []int64) []int64 {
	for {
		words := make([]string, len(x))
		for v := range x {
			var around []int64
			for w := range x {
				if x[v][w] {
					around = append(around, list[w])
				}
			}
			slices.Sort(around)
			words[v] = fmt.Sprint(list[v], around)
		}
		finer := numbered(words)
		if slices.Equal(finer, list) {
			return list
		}
		list = finer
	}
}

// somePartitions are partitions with one colour, with all, with two, and scattered ones.
func somePartitions(n int64) [][]int64 {
	list := [][]int64{make([]int64, n), turn(n, 0)}
	for _, count := range []int64{2, 3, 7} {
		state := uint32(n)
		var words, last []string
		for v := range n {
			state = state*1664525 + 1013904223
			words = append(words, fmt.Sprint(state>>8%uint32(count)))
			last = append(last, fmt.Sprint(v >= n-count))
		}
		list = append(list, numbered(words), numbered(last))
	}
	return list
}

func wantPartition(t *testing.T, g impl.Graph, list []int64, want bool) {
	t.Helper()
	if got, code := impl.IsPartition(g, list); got != want || code != impl.ErrNone {
		t.Errorf("IsPartition(%v, %v) = %v, %d, want %v", g, list, got, code, want)
	}
}

func wantEqual(t *testing.T, g impl.Graph, list []int64, want bool) {
	t.Helper()
	if got, code := impl.IsEqualPartition(g, list); got != want || code != impl.ErrNone {
		t.Errorf("IsEqualPartition(%v, %v) = %v, %d, want %v", g, list, got, code, want)
	}
}

func wantRefined(t *testing.T, g impl.Graph, list []int64, want []int64) {
	t.Helper()
	got, code := impl.RefinedPartition(g, list)
	wantList(t, call("RefinedPartition", g, list), got, code, want...)
}

// TestIsPartition asks of all short lists of small numbers.
func TestIsPartition(t *testing.T) {
	for n := int64(1); n <= 4; n++ {
		g, met := newTable(n).graph(), 0
		for length := n - 1; length <= n+1; length++ {
			for list := range tuplesBetween(length, -1, n) {
				want := isPartitionByRules(n, list)
				if want {
					met++
				}
				wantPartition(t, g, list, want)
			}
		}
		if want := []int{1, 2, 5, 15}[n-1]; met != want {
			t.Errorf("there are %d partitions of %d vertices, want %d", met, n, want)
		}
	}
}

// tuplesBetween yields all lists of a length with numbers from least to greatest.
func tuplesBetween(length int64, least int64, greatest int64) func(yield func([]int64) bool) {
	return func(yield func([]int64) bool) {
		list := slices.Repeat([]int64{least}, int(length))
		for {
			if !yield(list) {
				return
			}
			i := len(list) - 1
			for ; i >= 0 && list[i] == greatest; i-- {
				list[i] = least
			}
			if i < 0 {
				return
			}
			list[i]++
		}
	}
}

// TestIsPartitionEdges has the cases that the document names, and wide lists.
func TestIsPartitionEdges(t *testing.T) {
	one, wide := newTable(1).graph(), ring(62).graph()
	wantPartition(t, one, []int64{0}, true)
	wantPartition(t, one, nil, false)
	wantPartition(t, one, []int64{}, false)
	wantPartition(t, one, []int64{1}, false)
	wantPartition(t, one, []int64{-1}, false)
	wantPartition(t, one, []int64{0, 0}, false)
	wantPartition(t, one, []int64{0, 1}, false)
	wantPartition(t, wide, turn(62, 0), true)
	wantPartition(t, wide, make([]int64, 62), true)
	wantPartition(t, wide, turn(61, 0), false)
	wantPartition(t, wide, turn(63, 0), false)
	wantPartition(t, wide, make([]int64, 61), false)
	wantPartition(t, wide, make([]int64, 63), false)
	wantPartition(t, wide, make([]int64, 100000), false)
	wantPartition(t, wide, turn(62, 1), false)
	for v := range 62 {
		for _, colour := range []int64{-1, 62, 63, math.MaxInt64, math.MinInt64} {
			list := make([]int64, 62)
			list[v] = colour
			wantPartition(t, wide, list, false)
			list = turn(62, 0)
			list[v] = colour
			wantPartition(t, wide, list, false)
		}
		list := make([]int64, 62)
		list[v] = 1
		wantPartition(t, wide, list, v > 0)
		list[v] = 2
		wantPartition(t, wide, list, false)
		if v > 1 {
			list[1] = 1
			wantPartition(t, wide, list, true)
			list[1], list[v] = 2, 1
			wantPartition(t, wide, list, false)
		}
	}
}

// TestIsEqualPartition asks of all partitions of the small graphs, and of some of the others.
func TestIsEqualPartition(t *testing.T) {
	met := map[bool]int{}
	for x := range smallTables {
		for list := range partitions(int64(len(x))) {
			want := isEqualByPairs(x, list)
			met[want]++
			wantEqual(t, x.graph(), list, want)
		}
	}
	for x := range moreTables {
		for _, list := range somePartitions(int64(len(x))) {
			want := isEqualByPairs(x, list)
			met[want]++
			wantEqual(t, x.graph(), list, want)
		}
	}
	if met[true] < 5000 || met[false] < 5000 {
		t.Errorf("how many partitions are equal: %v", met)
	}
}

func TestIsEqualPartitionEdges(t *testing.T) {
	wantEqual(t, newTable(1).graph(), []int64{0}, true)
	wantEqual(t, path(3, 1).graph(), []int64{0, 1, 0}, true)
	wantEqual(t, path(3, 1).graph(), []int64{0, 0, 0}, false)
	wantEqual(t, path(3, 1).graph(), []int64{0, 0, 1}, false)
	for _, x := range []table{newTable(62), groups(62, 1), ring(62), severalParts(ring(31), 2)} {
		wantEqual(t, x.graph(), make([]int64, 62), true)
		wantEqual(t, x.graph(), turn(62, 0), true)
	}
	// The last vertex alone has another number of neighbours, or another colour.
	tail := ring(61)
	wide := tableWhere(62, func(v int64, w int64) bool { return w < 61 && tail[v][w] })
	list := make([]int64, 62)
	wantEqual(t, wide.graph(), list, false)
	list[61] = 1
	wantEqual(t, wide.graph(), list, true)
	wantEqual(t, ring(62).graph(), list, false)
	wantEqual(t, path(62, 1).graph(), make([]int64, 62), false)
}

// TestRefinedPartition looks among all partitions of the small graphs for the one with the fewest colours.
func TestRefinedPartition(t *testing.T) {
	for x := range smallTables {
		var equal [][]int64
		for list := range partitions(int64(len(x))) {
			if isEqualByPairs(x, list) {
				equal = append(equal, list)
			}
		}
		for list := range partitions(int64(len(x))) {
			wantRefined(t, x.graph(), list, coarsest(t, equal, list))
		}
	}
}

// coarsest returns the one of some partitions that is finer than a list, and than which all such are finer.
func coarsest(t *testing.T, some [][]int64, list []int64) []int64 {
	t.Helper()
	var finer [][]int64
	for _, other := range some {
		if isFiner(other, list) {
			finer = append(finer, other)
		}
	}
	for _, one := range finer {
		if !slices.ContainsFunc(finer, func(other []int64) bool { return !isFiner(other, one) }) {
			return one
		}
	}
	t.Errorf("no coarsest partition: %v", finer)
	return nil
}

// TestRefinedPartitionMore holds larger graphs against refining by words.
func TestRefinedPartitionMore(t *testing.T) {
	rounds := 0
	for x := range allTables {
		if len(x) <= 5 {
			continue
		}
		for _, list := range somePartitions(int64(len(x))) {
			want := refinedByWords(x, list)
			wantRefined(t, x.graph(), list, want)
			if !slices.Equal(want, list) {
				rounds++
			}
		}
	}
	if rounds < 1000 {
		t.Errorf("%d partitions alone are refined at all", rounds)
	}
}

// TestRefinedPartitionEdges has the cases that the document names.
func TestRefinedPartitionEdges(t *testing.T) {
	wantRefined(t, newTable(1).graph(), []int64{0}, []int64{0})
	wantRefined(t, path(3, 1).graph(), []int64{0, 0, 0}, []int64{0, 1, 0})
	wantRefined(t, path(3, 1).graph(), []int64{0, 0, 1}, []int64{0, 1, 2})
	wantRefined(t, path(5, 1).graph(), make([]int64, 5), []int64{0, 1, 2, 1, 0})
	// The ends are met last: they have the last colour.
	wantRefined(t, parsed(t, "5:0-1,0-2,1-3,2-4"), make([]int64, 5), []int64{0, 1, 1, 2, 2})
	wantRefined(t, parsed(t, "5:0-3,1-2,3-4"), make([]int64, 5), []int64{0, 1, 1, 2, 0})
	for _, x := range []table{newTable(62), groups(62, 1), ring(62), severalParts(ring(31), 2), tableOf(named(t, "hoffmansingleton"))} {
		n := int64(len(x))
		wantRefined(t, x.graph(), make([]int64, n), make([]int64, n))
		wantRefined(t, x.graph(), turn(n, 0), turn(n, 0))
	}
	// A way of 62 vertices needs 30 rounds and more, until its middle is reached, or its other end.
	ends := make([]int64, 62)
	for v := range int64(62) {
		ends[v] = min(v, 61-v)
	}
	wantRefined(t, path(62, 1).graph(), make([]int64, 62), ends)
	last := make([]int64, 62)
	last[61] = 1
	wantRefined(t, path(62, 1).graph(), last, turn(62, 0))
	wantRefined(t, newTable(62).graph(), last, last)
	wantRefined(t, groups(62, 1).graph(), last, last)
	// A vertex of a ring singled out: the vertices at the same distance on both sides stay together.
	around := make([]int64, 62)
	for v := range int64(62) {
		around[v] = min(v, 62-v)
	}
	first := slices.Repeat([]int64{1}, 62)
	first[0] = 0
	wantRefined(t, ring(62).graph(), first, around)
}

// listsThatAreNone are no partitions of a graph with four vertices.
func listsThatAreNone() [][]int64 {
	return [][]int64{
		nil, {}, {0}, {0, 1, 1}, {0, 1, 2}, {0, 1, 2, 3, 4}, {0, 0, 0, 0, 0}, {0, 1, 0, 1, 2},
		{-1, 0, 1, 2}, {0, -1, 1, 2}, {0, 1, 1, -1}, {0, 0, 0, math.MinInt64}, {0, 0, 0, math.MaxInt64},
		{1, 0, 0, 0}, {1, 1, 1, 1}, {1, 2, 3, 4}, {3, 2, 1, 0}, {4, 4, 4, 4},
		{0, 2, 1, 0}, {0, 0, 2, 1}, {0, 1, 3, 2}, {0, 0, 0, 2}, {0, 1, 1, 3}, {0, 1, 2, 4}, {0, 2, 2, 2},
	}
}

// TestPartitionsRange has lists that are none: no error for IsPartition, and ErrRange for the others.
func TestPartitionsRange(t *testing.T) {
	for _, x := range []table{path(4, 1), newTable(4), groups(4, 1), star(4)} {
		g := x.graph()
		for _, list := range listsThatAreNone() {
			wantPartition(t, g, list, false)
			wantError(t, call("IsEqualPartition", g, list), impl.ErrRange, results(impl.IsEqualPartition(g, list))...)
			wantError(t, call("RefinedPartition", g, list), impl.ErrRange, results(impl.RefinedPartition(g, list))...)
		}
	}
	wide := ring(62).graph()
	for _, list := range [][]int64{nil, turn(61, 0), turn(63, 0), turn(62, 1), make([]int64, 100000)} {
		wantError(t, "IsEqualPartition", impl.ErrRange, results(impl.IsEqualPartition(wide, list))...)
		wantError(t, "RefinedPartition", impl.ErrRange, results(impl.RefinedPartition(wide, list))...)
	}
}

// TestPartitionsInvalid has graphs that are none, with lists of all kinds: ErrInvalid comes before ErrRange.
func TestPartitionsInvalid(t *testing.T) {
	for name, g := range wideNotGraphs() {
		lists := append(listsThatAreNone(), []int64{0}, []int64{0, 1}, []int64{0, 0, 1}, make([]int64, 62), turn(62, 0), make([]int64, 63))
		for _, list := range lists {
			wantError(t, "IsPartition "+name, impl.ErrInvalid, results(impl.IsPartition(g, list))...)
			wantError(t, "IsEqualPartition "+name, impl.ErrInvalid, results(impl.IsEqualPartition(g, list))...)
			wantError(t, "RefinedPartition "+name, impl.ErrInvalid, results(impl.RefinedPartition(g, list))...)
		}
	}
}
