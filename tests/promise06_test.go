package tests

import (
	"slices"
	"testing"

	"loop.example/g01331/impl"
)

// TestPromise6Arrays asks of all graphs with arrays that these are feasible, and that numbers at distances are the levels of all vertices.
func TestPromise6Arrays(t *testing.T) {
	met := map[int]int{}
	for x := range allTables {
		g := x.graph()
		b, c, code := impl.ArraysOf(g)
		if regular, other := impl.IsDistanceRegular(g); regular != (code == impl.ErrNone) || code == impl.ErrState != (other == impl.ErrState) {
			t.Errorf("%v is distance-regular: %v, %d, its arrays have the code %d", g, regular, other, code)
		}
		if code != impl.ErrNone || len(b) == 0 || len(b) > 10 {
			continue
		}
		met[len(b)]++
		if feasible, code := impl.AreFeasible(b, c); !feasible || code != impl.ErrNone {
			t.Errorf("the arrays %v and %v of %v are feasible: %v, %d", b, c, g, feasible, code)
		}
		numbers, code := impl.NumbersAt(b, c)
		wantCode(t, call("NumbersAt", b, c), code, impl.ErrNone)
		for v := range g.Size {
			levels, code := impl.LevelsFrom(g, v)
			wantList(t, call("LevelsFrom", g, v), levels, code, numbers...)
		}
		diameter, radius, code := impl.DiameterOf(g)
		if degree, other := impl.RegularDegree(g); int(diameter) != len(b) || radius != diameter || degree != b[0] || code != impl.ErrNone || other != impl.ErrNone {
			t.Errorf("%v has the arrays %v and %v, the diameter %d, the radius %d, and the degree %d", g, b, c, diameter, radius, degree)
		}
	}
	if met[1] < 60 || met[2] < 50 || met[3] < 30 || met[4] < 3 || met[5] < 3 || met[10] != 2 {
		t.Errorf("there are so many arrays of each length alone: %v", met)
	}
}

// TestPromise6Distances asks that the graphs at all distances have each pair between which there is a way once, and no other one.
func TestPromise6Distances(t *testing.T) {
	for x := range sampleTables {
		g := x.graph()
		together := newTable(g.Size)
		for i := int64(1); i <= 61; i++ {
			at, code := impl.GraphAt(g, i)
			wantCode(t, "GraphAt", code, impl.ErrNone)
			if !impl.IsGraph(at) {
				t.Fatalf("%v at the distance %d is no graph: %v", g, i, at)
			}
			for _, e := range tableOf(at).edges() {
				if far, code := impl.DistanceOf(g, e[0], e[1]); together[e[0]][e[1]] || far != i || code != impl.ErrNone {
					t.Errorf("%v joins %v at the distance %d, which is %d, %d", g, e, i, far, code)
				}
				together.join(e[0], e[1])
			}
		}
		parts, _ := impl.PartsOf(g)
		want := newTable(g.Size)
		for _, part := range parts {
			for i, v := range part {
				for _, w := range part[:i] {
					want.join(v, w)
				}
			}
		}
		wantGraph(t, call("all distances", g), together.graph(), impl.ErrNone, want.graph())
	}
}

// TestPromise6Closed asks that ways there and back tell degrees, that odd ones are missing in bipartite graphs, and that those in graphs with arrays are the same from all vertices.
func TestPromise6Closed(t *testing.T) {
	for x := range allTables {
		g := x.graph()
		degrees, _ := impl.DegreesOf(g)
		bipartite, _ := impl.IsBipartite(g)
		regular, _ := impl.IsDistanceRegular(g)
		for k := range int64(impl.MaxClosed + 1) {
			first, code := impl.CountClosedAt(g, 0, k)
			wantCode(t, "CountClosedAt", code, impl.ErrNone)
			for v := range g.Size {
				closed, code := impl.CountClosedAt(g, v, k)
				if code != impl.ErrNone || k == 2 && closed != degrees[v] || k%2 == 1 && bipartite && closed != 0 || regular && closed != first {
					t.Errorf("CountClosedAt(%v, %d, %d) = %d, %d", g, v, k, closed, code)
				}
			}
		}
	}
}

// TestPromise6Halves asks for halves of just the bipartite graphs, and for folded graphs of just the antipodal ones, which are connected both.
func TestPromise6Halves(t *testing.T) {
	for x := range allTables {
		g := x.graph()
		connected, _ := impl.IsConnected(g)
		bipartite, _ := impl.IsBipartite(g)
		half, code := impl.HalfOf(g)
		if whole, other := impl.IsConnected(half); (code == impl.ErrNone) != (connected && bipartite) || code == impl.ErrNone && (!whole || other != impl.ErrNone) {
			t.Errorf("the half of %v is %v, %d", g, half, code)
		}
		antipodal, _ := impl.IsAntipodal(g)
		folded, code := impl.FoldedGraph(g)
		if whole, other := impl.IsConnected(folded); (code == impl.ErrNone) != antipodal || antipodal && (!whole || other != impl.ErrNone || folded.Size >= g.Size) {
			t.Errorf("%v is antipodal: %v, its folded graph is %v, %d", g, antipodal, folded, code)
		}
	}
}

// TestAnswersOwnTheirMemory6 writes over the answers of chapter 6, asks again, and looks at the arguments.
func TestAnswersOwnTheirMemory6(t *testing.T) {
	rows := named(t, "cube").Rows
	further, nearer := []int64{3, 2, 1}, []int64{1, 2, 3}
	g, b, c := impl.Graph{Size: 8, Rows: guarded(rows)}, guarded(further), guarded(nearer)
	for range 2 {
		first, second, code := impl.ArraysOf(g)
		spoil(first)
		wantList(t, "c of ArraysOf", second, code, nearer...)
		spoil(second)
		first, second, code = impl.ArraysOf(g)
		spoil(second)
		wantList(t, "b of ArraysOf", first, code, further...)
		numbers, code := impl.NumbersAt(b, c)
		wantList(t, "NumbersAt", numbers, code, 1, 3, 3, 1)
		spoil(numbers)
		at, code := impl.GraphAt(g, 3)
		wantGraph(t, "GraphAt", at, code, parsed(t, "8:0-7,1-6,2-5,3-4"))
		spoil(at.Rows)
		at, code = impl.GraphAt(g, 1)
		wantGraph(t, "GraphAt", at, code, named(t, "cube"))
		spoil(at.Rows)
		half, code := impl.HalfOf(g)
		wantGraph(t, "HalfOf", half, code, named(t, "k4"))
		spoil(half.Rows)
		folded, code := impl.FoldedGraph(g)
		wantGraph(t, "FoldedGraph", folded, code, named(t, "k4"))
		spoil(folded.Rows)
		impl.IsDistanceRegular(g)
		impl.AreFeasible(b, c)
		impl.AreFeasible(c, b)
		impl.CountClosedAt(g, 0, 8)
		impl.ParametersOf(g)
		impl.IsAntipodal(g)
		wantGuarded(t, "chapter 6", g.Rows, rows)
		wantGuarded(t, "chapter 6", b, further)
		wantGuarded(t, "chapter 6", c, nearer)
	}
	ringRows := []int64{10, 5, 10, 5}
	square := impl.Graph{Size: 4, Rows: guarded(ringRows)}
	for range 2 {
		parameters, code := impl.ParametersOf(square)
		wantList(t, "ParametersOf", parameters, code, 4, 2, 0, 2)
		spoil(parameters)
		wantGuarded(t, "ParametersOf", square.Rows, ringRows)
	}
}

// TestChapter6AtOnce asks for arrays from many goroutines at once: the answers are those of one.
func TestChapter6AtOnce(t *testing.T) {
	g := ring(62).graph()
	b, c, code := impl.ArraysOf(g)
	wantCode(t, "ArraysOf", code, impl.ErrNone)
	answers := make(chan bool)
	for range 50 {
		go func() {
			further, nearer, code := impl.ArraysOf(g)
			answers <- code == impl.ErrNone && slices.Equal(b, further) && slices.Equal(c, nearer)
		}()
	}
	for range 50 {
		if !<-answers {
			t.Errorf("the arrays of 62 around are not always the same")
		}
	}
}
