package tests

import (
	"fmt"
	"math"
	"reflect"
	"slices"
	"testing"

	"loop.example/g01331/impl"
)

// table is a graph by a table of bools, so that the tests do not rest on rows of bits.
type table [][]bool

func newTable(n int64) table {
	t := make(table, n)
	for v := range t {
		t[v] = make([]bool, n)
	}
	return t
}

func (t table) join(v int64, w int64) { t[v][w], t[w][v] = true, true }

// graph adds up the rows of the table.
func (t table) graph() impl.Graph {
	g := impl.Graph{Size: int64(len(t)), Rows: make([]int64, len(t))}
	for v := range t {
		power := int64(1)
		for w := range t[v] {
			if t[v][w] {
				g.Rows[v] += power
			}
			power *= 2
		}
	}
	return g
}

func tableOf(g impl.Graph) table {
	t := newTable(g.Size)
	for v := range t {
		left := g.Rows[v]
		for w := range t {
			t[v][w] = left%2 == 1
			left /= 2
		}
	}
	return t
}

// firstPowers returns the table as numbers, and its power 0.
func (t table) firstPowers() ([][]int64, [][]int64) {
	once, unit := make([][]int64, len(t)), make([][]int64, len(t))
	for v := range t {
		once[v], unit[v] = make([]int64, len(t)), make([]int64, len(t))
		unit[v][v] = 1
		for w := range t {
			if t[v][w] {
				once[v][w] = 1
			}
		}
	}
	return once, unit
}

// edges returns the edges of the table in order.
func (t table) edges() [][]int64 {
	var list [][]int64
	for v := range t {
		for w := v + 1; w < len(t); w++ {
			if t[v][w] {
				list = append(list, []int64{int64(v), int64(w)})
			}
		}
	}
	return list
}

// names are those of the graphs of chapter 1.
func names() []string {
	return []string{"k4", "k5", "k33", "cube", "clebsch", "petersen", "icosahedron", "hoffmansingleton",
		"heawood", "moebiuskantor", "pappus", "desargues", "dodecahedron", "mcgee", "tuttecoxeter"}
}

func named(t *testing.T, name string) impl.Graph {
	t.Helper()
	g, code := impl.NamedGraph(name)
	wantCode(t, "NamedGraph("+name+")", code, impl.ErrNone)
	return g
}

func parsed(t *testing.T, text string) impl.Graph {
	t.Helper()
	g, code := impl.ParseGraph(text)
	wantCode(t, "ParseGraph("+text+")", code, impl.ErrNone)
	return g
}

func textOf(t *testing.T, g impl.Graph) string {
	t.Helper()
	text, code := impl.GraphText(g)
	wantCode(t, "GraphText", code, impl.ErrNone)
	return text
}

// smallTables yields all graphs of at most five vertices.
func smallTables(yield func(table) bool) {
	for n := int64(1); n <= 5; n++ {
		for choice := range 1 << (n * (n - 1) / 2) {
			t := newTable(n)
			for w := range n {
				for v := range w {
					if choice%2 == 1 {
						t.join(v, w)
					}
					choice /= 2
				}
			}
			if !yield(t) {
				return
			}
		}
	}
}

// largeTables yields graphs of 6 to 62 vertices: without edges, with all, and scattered ones with few and many.
func largeTables(yield func(table) bool) {
	state := uint32(1)
	for n := int64(6); n <= impl.MaxVertices; n += 7 {
		for _, share := range []uint32{0, 3, 10, 50, 100} {
			t := newTable(n)
			for w := range n {
				for v := range w {
					state = state*1664525 + 1013904223
					if state>>8%100 < share {
						t.join(v, w)
					}
				}
			}
			if !yield(t) {
				return
			}
		}
	}
}

// sampleTables yields the small, the large and the named graphs.
func sampleTables(yield func(table) bool) {
	for t := range smallTables {
		if !yield(t) {
			return
		}
	}
	for t := range largeTables {
		if !yield(t) {
			return
		}
	}
	for _, name := range names() {
		g, _ := impl.NamedGraph(name)
		if !yield(tableOf(g)) {
			return
		}
	}
}

// turn returns the renumbering of n vertices that adds a number to each of them, around.
func turn(n int64, by int64) []int64 {
	p := make([]int64, n)
	for v := range p {
		p[v] = (int64(v) + by) % n
	}
	return p
}

// notGraphs are values each of which breaks one rule of a graph.
func notGraphs() map[string]impl.Graph {
	many := make([]int64, impl.MaxVertices+1)
	top := make([]int64, impl.MaxVertices)
	top[0] = 1 << impl.MaxVertices
	below := make([]int64, impl.MaxVertices)
	below[0] = math.MinInt64
	return map[string]impl.Graph{
		"the zero value":         {},
		"no size, one row":       {Size: 0, Rows: []int64{0}},
		"a negative size":        {Size: -1},
		"63 vertices":            {Size: impl.MaxVertices + 1, Rows: many},
		"62 and 63 rows":         {Size: impl.MaxVertices, Rows: many},
		"the greatest size":      {Size: math.MaxInt64},
		"the least size":         {Size: math.MinInt64},
		"no rows":                {Size: 2},
		"a row too few":          {Size: 3, Rows: []int64{2, 1}},
		"a row too many":         {Size: 2, Rows: []int64{2, 1, 0}},
		"a negative row":         {Size: 2, Rows: []int64{-2, 1}},
		"a row of 2^n":           {Size: 2, Rows: []int64{4, 0}},
		"2^n with an edge":       {Size: 2, Rows: []int64{6, 1}},
		"2^62 with 62 vertices":  {Size: impl.MaxVertices, Rows: top},
		"-2^63 with 62 vertices": {Size: impl.MaxVertices, Rows: below},
		"one's own neighbour":    {Size: 2, Rows: []int64{3, 1}},
		"a last own neighbour":   {Size: 2, Rows: []int64{2, 3}},
		"one vertex, itself":     {Size: 1, Rows: []int64{1}},
		"one way, up":            {Size: 2, Rows: []int64{2, 0}},
		"one way, down":          {Size: 2, Rows: []int64{0, 1}},
		"one way around":         {Size: 3, Rows: []int64{2, 4, 1}},
	}
}

func wantCode(t *testing.T, what string, got int64, want int64) {
	t.Helper()
	if got != want {
		t.Errorf("%s: code %d, want %d", what, got, want)
	}
}

// wantGraph holds a graph that came with a code against the one that must have come.
func wantGraph(t *testing.T, what string, got impl.Graph, code int64, want impl.Graph) {
	t.Helper()
	wantCode(t, what, code, impl.ErrNone)
	if got.Size != want.Size || !slices.Equal(got.Rows, want.Rows) {
		t.Errorf("%s = %v, want %v", what, got, want)
	}
}

func wantList(t *testing.T, what string, got []int64, code int64, want ...int64) {
	t.Helper()
	wantCode(t, what, code, impl.ErrNone)
	if !slices.Equal(got, want) {
		t.Errorf("%s = %v, want %v", what, got, want)
	}
}

func wantLists(t *testing.T, what string, got [][]int64, code int64, want [][]int64) {
	t.Helper()
	wantCode(t, what, code, impl.ErrNone)
	if !slices.EqualFunc(got, want, slices.Equal[[]int64]) {
		t.Errorf("%s = %v, want %v", what, got, want)
	}
}

// wantError takes the results of a call, the code last: all others must be zero values, or empty.
func wantError(t *testing.T, what string, code int64, results ...any) {
	t.Helper()
	last := len(results) - 1
	if results[last] != any(code) {
		t.Errorf("%s: code %v, want %d", what, results[last], code)
	}
	for _, r := range results[:last] {
		if x, ok := r.(impl.Digraph); ok {
			r = impl.Graph(x)
		}
		if g, ok := r.(impl.Graph); ok {
			if g.Size != 0 || len(g.Rows) != 0 {
				t.Errorf("%s: %v beside an error", what, r)
			}
			continue
		}
		if x := reflect.ValueOf(r); !(x.Kind() == reflect.Slice && x.Len() == 0) && !x.IsZero() {
			t.Errorf("%s: %v beside an error", what, r)
		}
	}
}

// results lays the results of a call out for wantError.
func results(r ...any) []any { return r }

// call names a call by its function and arguments.
func call(function string, arguments ...any) string {
	return fmt.Sprintf("%s(%v)", function, arguments)
}
