package tests

import (
	"math"
	"testing"

	"loop.example/g01331/impl"
)

// ringWithJumps joins by the rule of the document, vertex by vertex.
func ringWithJumps(n int64, jumps []int64) table {
	t := newTable(n)
	for i := int64(0); i < n; i++ {
		next := i + 1
		if next == n {
			next = 0
		}
		t.join(i, next)
		if m := int64(len(jumps)); m > 0 {
			over := i + jumps[i-i/m*m]
			if over >= n {
				over -= n
			}
			t.join(i, over)
		}
	}
	return t
}

func TestJumpGraph(t *testing.T) {
	for n := int64(3); n <= impl.MaxVertices; n++ {
		for m := range int64(21) {
			jumps := make([]int64, m)
			for i := range jumps {
				jumps[i] = 1 + int64(i*i+7*i)%(n-1)
			}
			g, code := impl.JumpGraph(n, jumps)
			wantGraph(t, call("JumpGraph", n, jumps), g, code, ringWithJumps(n, jumps).graph())
		}
	}
	g, code := impl.JumpGraph(3, []int64{1, 2})
	wantGraph(t, "JumpGraph with edges met twice", g, code, parsed(t, "3:0-1,0-2,1-2"))
	g, code = impl.JumpGraph(6, []int64{3})
	wantGraph(t, "JumpGraph", g, code, parsed(t, "6:0-1,0-3,0-5,1-2,1-4,2-3,2-5,3-4,4-5"))
	g, code = impl.JumpGraph(5, []int64{2, 3})
	wantGraph(t, "JumpGraph that goes around unevenly", g, code, parsed(t, "5:0-1,0-2,0-4,1-2,1-3,1-4,2-3,2-4,3-4"))
}

func TestJumpGraphErrors(t *testing.T) {
	for _, n := range []int64{2, 1, 0, -3, 63, math.MaxInt64, math.MinInt64} {
		wantError(t, call("JumpGraph", n), impl.ErrRange, results(impl.JumpGraph(n, nil))...)
		wantError(t, call("JumpGraph", n), impl.ErrRange, results(impl.JumpGraph(n, []int64{1}))...)
	}
	for _, jumps := range [][]int64{{0}, {7}, {-1}, {8}, {1, 2, 7}, {0, 1}, {math.MaxInt64}, {math.MinInt64}} {
		wantError(t, call("JumpGraph", jumps), impl.ErrRange, results(impl.JumpGraph(7, jumps))...)
	}
	g, code := impl.JumpGraph(7, []int64{1, 6})
	wantGraph(t, "JumpGraph with the limits 1 and 6", g, code, ringWithJumps(7, nil).graph())
	twenty := make([]int64, 20)
	for i := range twenty {
		twenty[i] = 2
	}
	g, code = impl.JumpGraph(62, twenty)
	wantGraph(t, "JumpGraph with 20 jumps", g, code, ringWithJumps(62, twenty).graph())
	wantError(t, "JumpGraph with 21 jumps", impl.ErrRange, results(impl.JumpGraph(62, append(twenty, 2)))...)
}

func TestNamedTexts(t *testing.T) {
	for name, text := range map[string]string{
		"k4":       "4:0-1,0-2,0-3,1-2,1-3,2-3",
		"k5":       "5:0-1,0-2,0-3,0-4,1-2,1-3,1-4,2-3,2-4,3-4",
		"k33":      "6:0-3,0-4,0-5,1-3,1-4,1-5,2-3,2-4,2-5",
		"cube":     "8:0-1,0-2,0-4,1-3,1-5,2-3,2-6,3-7,4-5,4-6,5-7,6-7",
		"petersen": "10:0-1,0-4,0-5,1-2,1-6,2-3,2-7,3-4,3-8,4-9,5-7,5-8,6-8,6-9,7-9",
		"icosahedron": "12:0-1,0-2,0-3,0-4,0-5,1-2,1-5,1-6,1-7,2-3,2-7,2-8,3-4,3-8,3-9,4-5,4-9,4-10,5-6,5-10," +
			"6-7,6-10,6-11,7-8,7-11,8-9,8-11,9-10,9-11,10-11",
		"heawood": "14:0-1,0-5,0-13,1-2,1-10,2-3,2-7,3-4,3-12,4-5,4-9,5-6,6-7,6-11,7-8,8-9,8-13,9-10,10-11,11-12,12-13",
	} {
		if got := textOf(t, named(t, name)); got != text {
			t.Errorf("%s is %s, want %s", name, got, text)
		}
	}
}

func TestNamedJumpGraphs(t *testing.T) {
	for _, c := range []struct {
		name  string
		n     int64
		jumps []int64
	}{
		{"heawood", 14, []int64{5, 9}},
		{"moebiuskantor", 16, []int64{5, 11}},
		{"pappus", 18, []int64{5, 7, 11, 7, 11, 13}},
		{"desargues", 20, []int64{5, 15, 9, 11}},
		{"dodecahedron", 20, []int64{10, 7, 4, 16, 13, 10, 16, 7, 13, 4}},
		{"mcgee", 24, []int64{12, 7, 17}},
		{"tuttecoxeter", 30, []int64{17, 21, 7, 23, 9, 13}},
	} {
		g, code := impl.NamedGraph(c.name)
		wantGraph(t, c.name, g, code, ringWithJumps(c.n, c.jumps).graph())
	}
}

func TestNamedClebsch(t *testing.T) {
	want := newTable(16)
	for v := range int64(16) {
		for _, digits := range []int64{1, 2, 4, 8, 15} {
			want.join(v, v^digits)
		}
	}
	g, code := impl.NamedGraph("clebsch")
	wantGraph(t, "clebsch", g, code, want.graph())
}

// TestNamedHoffmanSingleton asks of each pair of vertices what the document says of it.
func TestNamedHoffmanSingleton(t *testing.T) {
	want := newTable(50)
	for v := range int64(50) {
		for w := range v {
			near := (v-w+50)%5 == 1 || (w-v+50)%5 == 1
			far := (v-w+50)%5 == 2 || (w-v+50)%5 == 2
			sameRing := v/5 == w/5
			across := v >= 25 && w < 25 && (v-25)%5 == (w/5*((v-25)/5)+w%5)%5
			if v < 25 && sameRing && near || w >= 25 && sameRing && far || across {
				want.join(v, w)
			}
		}
	}
	g, code := impl.NamedGraph("hoffmansingleton")
	wantGraph(t, "hoffmansingleton", g, code, want.graph())
}

// shortestCycle grows a way from each vertex until it meets itself.
func shortestCycle(x table) int {
	least := len(x) + 1
	for start := range x {
		distance := make([]int, len(x))
		before := make([]int, len(x))
		distance[start], before[start] = 1, -1
		queue := []int{start}
		for len(queue) > 0 {
			v := queue[0]
			queue = queue[1:]
			for w, joined := range x[v] {
				if joined && distance[w] == 0 {
					distance[w], before[w] = distance[v]+1, v
					queue = append(queue, w)
				} else if joined && w != before[v] {
					least = min(least, distance[v]+distance[w]-1)
				}
			}
		}
	}
	return least
}

// TestNamedGirths holds the graphs against what is known of them.
func TestNamedGirths(t *testing.T) {
	for name, want := range map[string]int{"k4": 3, "k5": 3, "k33": 4, "cube": 4, "clebsch": 4, "petersen": 5, "icosahedron": 3, "hoffmansingleton": 5,
		"heawood": 6, "moebiuskantor": 6, "pappus": 6, "desargues": 6, "dodecahedron": 5, "mcgee": 7, "tuttecoxeter": 8} {
		if girth := shortestCycle(tableOf(named(t, name))); girth != want {
			t.Errorf("%s has a cycle of %d, want %d", name, girth, want)
		}
	}
}

func TestNamedGraphErrors(t *testing.T) {
	for _, name := range []string{"", "k3", "k6", "K4", "Petersen", " petersen", "petersen ", "peterse", "petersenn", "heawood\n", "hoffman-singleton", "\xff"} {
		wantError(t, call("NamedGraph", name), impl.ErrNotFound, results(impl.NamedGraph(name))...)
	}
}
