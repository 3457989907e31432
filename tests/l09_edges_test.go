package tests

import (
	"math"
	"slices"
	"testing"

	"loop.example/g01331/impl"
)

// apart returns the table without an edge.
func (t table) apart(v int64, w int64) table { return t.without(v, w).without(w, v) }

// together returns the table with an edge more.
func (t table) together(v int64, w int64) table { return t.with(v, w).with(w, v) }

// takenOut returns the table without a vertex.
func (t table) takenOut(v int64) table {
	var left []int64
	for w := range int64(len(t)) {
		if w != v {
			left = append(left, w)
		}
	}
	return tableWhere(int64(len(left)), func(i int64, j int64) bool { return t[left[i]][left[j]] })
}

// contracted gives the edges of the greater vertex to the lesser one.
func (t table) contracted(a int64, b int64) table {
	more := t.apart(a, b)
	for _, edge := range more.edges() {
		for i, v := range edge {
			if v == max(a, b) {
				more = more.together(min(a, b), edge[1-i])
			}
		}
	}
	return more.takenOut(max(a, b))
}

// exchangeCode returns the code that ExchangeEdges must have.
func exchangeCode(x table, v [4]int64) int64 {
	for i := range v {
		if v[i] < 0 || v[i] >= int64(len(x)) || slices.Contains(v[:i], v[i]) {
			return impl.ErrRange
		}
	}
	if !x[v[0]][v[1]] || !x[v[2]][v[3]] || x[v[0]][v[2]] || x[v[1]][v[3]] {
		return impl.ErrState
	}
	return impl.ErrNone
}

// wantExchange returns the code that must have come.
func wantExchange(t *testing.T, x table, v [4]int64) int64 {
	t.Helper()
	got, code := impl.ExchangeEdges(x.graph(), v[0], v[1], v[2], v[3])
	want := exchangeCode(x, v)
	if want != impl.ErrNone {
		wantError(t, "ExchangeEdges", want, got, code)
	} else {
		other := x.apart(v[0], v[1]).apart(v[2], v[3]).together(v[0], v[2]).together(v[1], v[3])
		wantGraph(t, "ExchangeEdges", got, code, other.graph())
	}
	if t.Failed() {
		t.Fatalf("ExchangeEdges(%v, %v) = %v, %d", x.graph(), v, got, code)
	}
	return want
}

// fours yields all lists of four numbers from one number to another one.
func fours(from int64, to int64) func(yield func([4]int64) bool) {
	return func(yield func([4]int64) bool) {
		span := to - from + 1
		for i := range span * span * span * span {
			v := [4]int64{i / (span * span * span), i / (span * span) % span, i / span % span, i % span}
			for place := range v {
				v[place] += from
			}
			if !yield(v) {
				return
			}
		}
	}
}

// TestExchangeEdges has for all graphs of at most four vertices all numbers near them, and for those of five vertices all that are different.
func TestExchangeEdges(t *testing.T) {
	met := map[int64]int{}
	for x := range smallTables {
		n := int64(len(x))
		if n < 5 {
			for v := range fours(-1, n) {
				met[wantExchange(t, x, v)]++
			}
			continue
		}
		for v := range fours(0, 4) {
			if exchangeCode(x, v) != impl.ErrRange {
				met[wantExchange(t, x, v)]++
			}
		}
	}
	if met[impl.ErrNone] < 7000 || met[impl.ErrRange] < 50000 || met[impl.ErrState] < 100000 {
		t.Errorf("edges are exchanged, or not, for these numbers of codes: %v", met)
	}
}

// TestExchangeEdgesOfMany takes pairs of edges of the sample graphs, both ways around.
func TestExchangeEdgesOfMany(t *testing.T) {
	made := 0
	for x := range largeTables {
		edges := x.edges()
		for i := 0; i < len(edges); i += 1 + len(edges)/9 {
			for j := 0; j < len(edges); j += 1 + len(edges)/11 {
				a, b, c, d := edges[i][0], edges[i][1], edges[j][0], edges[j][1]
				for _, v := range [][4]int64{{a, b, c, d}, {b, a, c, d}, {a, b, d, c}, {b, a, d, c}} {
					if wantExchange(t, x, v) == impl.ErrNone {
						made++
					}
				}
			}
		}
	}
	if made < 1000 {
		t.Errorf("%d pairs of edges alone are exchanged", made)
	}
}

func TestExchangeByHand(t *testing.T) {
	for _, c := range []struct {
		g    string
		v    [4]int64
		want string
	}{
		{"4:0-1,2-3", [4]int64{0, 1, 2, 3}, "4:0-2,1-3"}, {"4:0-1,2-3", [4]int64{1, 0, 2, 3}, "4:0-3,1-2"}, {"4:0-1,2-3", [4]int64{3, 2, 0, 1}, "4:0-3,1-2"}, {"4:0-1,2-3", [4]int64{3, 2, 1, 0}, "4:0-2,1-3"},
		{"4:0-1,0-3,2-3", [4]int64{0, 1, 2, 3}, "4:0-2,0-3,1-3"}, {"4:0-1,1-2,2-3", [4]int64{0, 1, 2, 3}, "4:0-2,1-2,1-3"}, {"4:0-1,0-3,1-2,2-3", [4]int64{0, 1, 2, 3}, "4:0-2,0-3,1-2,1-3"},
		{"6:0-1,1-2,2-3,3-4,4-5", [4]int64{1, 2, 3, 4}, "6:0-1,1-3,2-3,2-4,4-5"}, {"62:0-1,60-61", [4]int64{61, 60, 0, 1}, "62:0-61,1-60"},
	} {
		got, code := impl.ExchangeEdges(parsed(t, c.g), c.v[0], c.v[1], c.v[2], c.v[3])
		wantGraph(t, call("ExchangeEdges", c.g, c.v), got, code, parsed(t, c.want))
	}
}

// TestExchangeStates breaks one rule each time: an edge is missing, or one of the new ones is there.
func TestExchangeStates(t *testing.T) {
	whole := newTable(6).together(1, 2).together(3, 5)
	if code := wantExchange(t, whole, [4]int64{1, 2, 3, 5}); code != impl.ErrNone {
		t.Errorf("the edges may be exchanged: %d", code)
	}
	for _, x := range []table{whole.apart(1, 2), whole.apart(3, 5), whole.together(1, 3), whole.together(2, 5)} {
		wantError(t, call("ExchangeEdges", x.graph()), impl.ErrState, results(impl.ExchangeEdges(x.graph(), 1, 2, 3, 5))...)
	}
	for _, x := range []table{whole.together(1, 5), whole.together(2, 3), whole.together(1, 5).together(2, 3), whole.together(0, 1).together(4, 5)} {
		if code := wantExchange(t, x, [4]int64{1, 2, 3, 5}); code != impl.ErrNone {
			t.Errorf("the edges of %v may be exchanged: %d", x.graph(), code)
		}
	}
}

// TestExchangeRanges has two equal vertices at each two places, and a number that is no vertex at each place, alone and beside what would be ErrState.
func TestExchangeRanges(t *testing.T) {
	for _, x := range []table{newTable(4), groups(4, 1), newTable(4).together(0, 1).together(2, 3), newTable(62), groups(62, 1), newTable(62).together(0, 1).together(2, 3)} {
		for i := range 4 {
			for j := range i {
				v := [4]int64{0, 1, 2, 3}
				v[i] = v[j]
				wantExchangeRange(t, x, v)
			}
			for _, wrong := range outside(int64(len(x))) {
				v := [4]int64{0, 1, 2, 3}
				v[i] = wrong
				wantExchangeRange(t, x, v)
			}
		}
	}
	for n := int64(1); n < 4; n++ {
		for v := range fours(0, n-1) {
			wantExchangeRange(t, groups(n, 1), v)
		}
	}
}

func wantExchangeRange(t *testing.T, x table, v [4]int64) {
	t.Helper()
	wantError(t, call("ExchangeEdges", x.graph(), v), impl.ErrRange, results(impl.ExchangeEdges(x.graph(), v[0], v[1], v[2], v[3]))...)
}

// wantContracted asks in both orders.
func wantContracted(t *testing.T, x table, a int64, b int64) {
	t.Helper()
	for _, order := range [][2]int64{{a, b}, {b, a}} {
		what := call("ContractEdge", x.graph(), order)
		if !x[a][b] {
			wantError(t, what, impl.ErrState, results(impl.ContractEdge(x.graph(), order[0], order[1]))...)
			continue
		}
		got, code := impl.ContractEdge(x.graph(), order[0], order[1])
		wantGraph(t, what, got, code, x.contracted(a, b).graph())
	}
}

// TestContractEdge has all pairs of vertices of small graphs, a vertex with itself, too, and some of large ones.
func TestContractEdge(t *testing.T) {
	for x := range sampleTables {
		step := 1 + int64(len(x))/9
		for a := int64(0); a < int64(len(x)); a += step {
			for b := a; b < int64(len(x)); b += step {
				wantContracted(t, x, a, b)
			}
		}
		if edges := x.edges(); len(x) > 5 && len(edges) > 0 {
			last := edges[len(edges)-1]
			wantContracted(t, x, edges[0][0], edges[0][1])
			wantContracted(t, x, last[0], last[1])
		}
	}
}

// TestContractByHand has neighbours of one of both vertices, of each one, common ones, and none.
func TestContractByHand(t *testing.T) {
	for _, c := range []struct {
		g    string
		a, b int64
		want string
	}{
		{"2:0-1", 0, 1, "1:"}, {"4:1-2", 1, 2, "3:"}, {"3:0-1,0-2", 0, 1, "2:0-1"}, {"3:0-1,1-2", 0, 1, "2:0-1"}, {"3:0-1,0-2,1-2", 0, 2, "2:0-1"},
		{"4:0-1,1-2,2-3", 1, 2, "3:0-1,1-2"}, {"4:0-2,1-2,1-3", 1, 2, "3:0-1,1-2"}, {"4:0-1,0-2,0-3,1-2,1-3,2-3", 1, 3, "3:0-1,0-2,1-2"},
		{"5:0-3,0-4,1-4,2-3,3-4", 3, 4, "4:0-3,1-3,2-3"}, {"5:0-1,0-4,1-2,2-3,3-4", 0, 4, "4:0-1,0-3,1-2,2-3"}, {"6:0-5,1-2,3-4", 0, 5, "5:1-2,3-4"}, {"6:0-1,0-5,4-5", 0, 5, "5:0-1,0-4"},
	} {
		for _, order := range [][2]int64{{c.a, c.b}, {c.b, c.a}} {
			got, code := impl.ContractEdge(parsed(t, c.g), order[0], order[1])
			wantGraph(t, call("ContractEdge", c.g, order), got, code, parsed(t, c.want))
		}
	}
	for _, order := range [][2]int64{{0, 61}, {61, 0}, {30, 31}} {
		around, code := impl.ContractEdge(ring(62).graph(), order[0], order[1])
		wantGraph(t, call("ContractEdge of 62 around", order), around, code, ring(61).graph())
		all, code := impl.ContractEdge(groups(62, 1).graph(), order[0], order[1])
		wantGraph(t, call("ContractEdge of all of 62", order), all, code, groups(61, 1).graph())
	}
}

// TestContractErrors has numbers that are no vertices beside some that are, and vertices that are no neighbours.
func TestContractErrors(t *testing.T) {
	for _, x := range []table{newTable(1), newTable(3), groups(3, 1), newTable(62), groups(62, 1)} {
		n := int64(len(x))
		for _, wrong := range outside(n) {
			for _, v := range []int64{0, n - 1, wrong} {
				wantError(t, call("ContractEdge", n, v, wrong), impl.ErrRange, results(impl.ContractEdge(x.graph(), v, wrong))...)
				wantError(t, call("ContractEdge", n, wrong, v), impl.ErrRange, results(impl.ContractEdge(x.graph(), wrong, v))...)
			}
		}
		for v := range n {
			wantError(t, call("ContractEdge", n, v, v), impl.ErrState, results(impl.ContractEdge(x.graph(), v, v))...)
		}
	}
	wantError(t, "ContractEdge of none", impl.ErrState, results(impl.ContractEdge(groups(62, 1).apart(3, 61).graph(), 61, 3))...)
}

// TestTakeVertex has all vertices of all sample graphs.
func TestTakeVertex(t *testing.T) {
	for x := range sampleTables {
		for v := range int64(len(x)) {
			what := call("TakeVertex", x.graph(), v)
			if len(x) == 1 {
				wantError(t, what, impl.ErrLimit, results(impl.TakeVertex(x.graph(), v))...)
				continue
			}
			got, code := impl.TakeVertex(x.graph(), v)
			wantGraph(t, what, got, code, x.takenOut(v).graph())
		}
	}
}

func TestTakenByHand(t *testing.T) {
	for _, c := range []struct {
		g    string
		v    int64
		want string
	}{
		{"2:", 0, "1:"}, {"2:0-1", 1, "1:"}, {"3:0-1,1-2", 0, "2:0-1"}, {"3:0-1,1-2", 1, "2:"}, {"3:0-1,1-2", 2, "2:0-1"},
		{"5:0-4,1-3,2-3", 0, "4:0-2,1-2"}, {"5:0-4,1-3,2-3", 2, "4:0-3,1-2"}, {"5:0-4,1-3,2-3", 3, "4:0-3"}, {"5:0-4,1-3,2-3", 4, "4:1-3,2-3"},
	} {
		got, code := impl.TakeVertex(parsed(t, c.g), c.v)
		wantGraph(t, call("TakeVertex", c.g, c.v), got, code, parsed(t, c.want))
	}
	for v := range int64(62) {
		all, code := impl.TakeVertex(groups(62, 1).graph(), v)
		wantGraph(t, call("TakeVertex of all of 62", v), all, code, groups(61, 1).graph())
		tips, code := impl.TakeVertex(star(62).graph(), v)
		want := star(61)
		if v == 0 {
			want = newTable(61)
		}
		wantGraph(t, call("TakeVertex of a star of 62", v), tips, code, want.graph())
	}
}

// TestTakeVertexErrors also has one vertex alone, for which ErrRange comes before ErrLimit.
func TestTakeVertexErrors(t *testing.T) {
	for _, x := range []table{newTable(1), newTable(2), groups(3, 1), newTable(62), groups(62, 1)} {
		for _, wrong := range outside(int64(len(x))) {
			wantError(t, call("TakeVertex", len(x), wrong), impl.ErrRange, results(impl.TakeVertex(x.graph(), wrong))...)
		}
	}
	wantError(t, "TakeVertex of one", impl.ErrLimit, results(impl.TakeVertex(newTable(1).graph(), 0))...)
}

// TestInvalidInChapter9 gives what is no graph, and vertices of all kinds beside it, as ErrInvalid comes first.
func TestInvalidInChapter9(t *testing.T) {
	none := int64(impl.ErrInvalid)
	for why, g := range wideNotGraphs() {
		for _, v := range []int64{0, 1, 2, 3, -1, 61, 62, math.MaxInt64, math.MinInt64} {
			wantError(t, "TakeVertex: "+why, none, results(impl.TakeVertex(g, v))...)
			wantError(t, "ContractEdge: "+why, none, results(impl.ContractEdge(g, v, 1))...)
			wantError(t, "ContractEdge: "+why, none, results(impl.ContractEdge(g, 0, v))...)
			wantError(t, "ExchangeEdges: "+why, none, results(impl.ExchangeEdges(g, v, 1, 2, 3))...)
			wantError(t, "ExchangeEdges: "+why, none, results(impl.ExchangeEdges(g, 0, v, 2, 3))...)
			wantError(t, "ExchangeEdges: "+why, none, results(impl.ExchangeEdges(g, 0, 1, v, 3))...)
			wantError(t, "ExchangeEdges: "+why, none, results(impl.ExchangeEdges(g, 0, 1, 2, v))...)
		}
	}
}
