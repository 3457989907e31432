package impl

import (
	"iter"
	"math/bits"
	"slices"
	"strconv"
	"strings"
)

const (
	ErrNone = iota
	ErrInvalid
	ErrRange
	ErrLimit
	ErrNotFound
	ErrState
	ErrSyntax
)
const MaxVertices = 62

const (
	maxEdgeLists = 4000
	minJumpSize  = 3
	maxJumps     = 20
	// maxGraphText is more than the text of any graph needs: a size with ":", and for each pair of
	// vertices two numbers of two digits with "-" and ",".
	maxGraphText = 3 + 6*MaxVertices*(MaxVertices-1)/2
)

type Graph struct {
	Size int64
	Rows []int64
}

// rowArray has the rows of a graph of any size, with zeros behind them, so that == compares them all.
type rowArray [MaxVertices]int64

// vertexPair is an edge, the lesser vertex first.
type vertexPair [2]int64

// pairSet has each edge once, however often and in whatever order its vertices were joined.
type pairSet map[vertexPair]bool

func (s pairSet) join(v int64, w int64) {
	s[vertexPair{min(v, w), max(v, w)}] = true
}

// jumpPlan has what the table of names tells of a jump graph.
type jumpPlan struct {
	size  int64
	jumps []int64
}

// IsGraph reports whether g is a graph.
func IsGraph(g Graph) bool {
	if !isSize(g.Size) || int64(len(g.Rows)) != g.Size {
		return false
	}
	for v, row := range g.Rows {
		if row < 0 || row > allVertices(g.Size) || row>>v&1 == 1 {
			return false
		}
	}
	rows := rowArrayOf(g.Rows)
	return rows == turnedRows(rows)
}

// GraphOf returns the graph of the Size n, in 1..MaxVertices, with edges in any order, told by
// lists of their two different vertices, in any order, and ErrNone. (An edge may stand more than
// once; it is there once. There may be at most 4000 lists.)
func GraphOf(n int64, edges [][]int64) (Graph, int64) {
	if !isSize(n) || len(edges) > maxEdgeLists {
		return Graph{}, ErrRange
	}
	pairs := pairSet{}
	for _, edge := range edges {
		if len(edge) != 2 {
			return Graph{}, ErrRange
		}
		p := vertexPair(edge)
		if !areDifferent(n, p[0], p[1]) {
			return Graph{}, ErrRange
		}
		pairs.join(p[0], p[1])
	}
	return graphOfPairs(n, pairs), ErrNone
}

// EdgesOf returns all edges, as lists of two vertices, in order, and ErrNone.
func EdgesOf(g Graph) ([][]int64, int64) {
	if !IsGraph(g) {
		return nil, ErrInvalid
	}
	var edges [][]int64
	for v, w := range edgesIn(g) {
		edges = append(edges, []int64{v, w})
	}
	return edges, ErrNone
}

// NeighboursOf returns the neighbours of a vertex, ascending, and ErrNone.
func NeighboursOf(g Graph, v int64) ([]int64, int64) {
	if !IsGraph(g) {
		return nil, ErrInvalid
	}
	if !isVertex(g.Size, v) {
		return nil, ErrRange
	}
	return listOf(g.Rows[v]), ErrNone
}

// DegreesOf returns the degrees of all vertices, and ErrNone.
func DegreesOf(g Graph) ([]int64, int64) {
	if !IsGraph(g) {
		return nil, ErrInvalid
	}
	degrees := make([]int64, g.Size)
	for v, row := range g.Rows {
		degrees[v] = countOf(row)
	}
	return degrees, ErrNone
}

// RegularDegree returns the k for which g is regular of degree k, and ErrNone. Errors: ErrState if
// there is none.
func RegularDegree(g Graph) (int64, int64) {
	if !IsGraph(g) {
		return 0, ErrInvalid
	}
	degree := countOf(g.Rows[0])
	for _, row := range g.Rows {
		if countOf(row) != degree {
			return 0, ErrState
		}
	}
	return degree, ErrNone
}

// PartsOf returns the parts, each ascending, in the order of their least vertices, and ErrNone.
func PartsOf(g Graph) ([][]int64, int64) {
	if !IsGraph(g) {
		return nil, ErrInvalid
	}
	var parts [][]int64
	for even, odd := range partsIn(g) {
		parts = append(parts, listOf(even|odd))
	}
	return parts, ErrNone
}

// IsConnected reports whether g is connected, and returns ErrNone.
func IsConnected(g Graph) (bool, int64) {
	if !IsGraph(g) {
		return false, ErrInvalid
	}
	even, odd := reachedFrom(g, 0)
	return even|odd == allVertices(g.Size), ErrNone
}

// IsBipartite reports whether g is bipartite, and returns ErrNone.
func IsBipartite(g Graph) (bool, int64) {
	if !IsGraph(g) {
		return false, ErrInvalid
	}
	for even, odd := range partsIn(g) {
		if even&odd != 0 {
			return false, ErrNone
		}
	}
	return true, ErrNone
}

// ComplementOf returns the complement, and ErrNone.
func ComplementOf(g Graph) (Graph, int64) {
	if !IsGraph(g) {
		return Graph{}, ErrInvalid
	}
	complement := graphWithoutEdges(g.Size)
	for v, row := range g.Rows {
		complement.Rows[v] = allVertices(g.Size) &^ row &^ (1 << v)
	}
	return complement, ErrNone
}

// PartOn returns the graph whose vertices 0, 1, .. stand for those of an ascending list of
// different vertices, at least one, and are neighbours if those are, and ErrNone.
func PartOn(g Graph, vertices []int64) (Graph, int64) {
	if !IsGraph(g) {
		return Graph{}, ErrInvalid
	}
	if len(vertices) == 0 || !areAscending(g.Size, vertices) {
		return Graph{}, ErrRange
	}
	part := graphWithoutEdges(int64(len(vertices)))
	for i, v := range vertices {
		for j, w := range vertices {
			part.Rows[i] |= g.Rows[v] >> w & 1 << j
		}
	}
	return part, ErrNone
}

// PutEdge returns g with an edge of the different vertices a and b more, and ErrNone. Errors:
// ErrState if they are neighbours.
func PutEdge(g Graph, a int64, b int64) (Graph, int64) {
	return exchangeEdge(g, a, b, 0)
}

// TakeEdge returns g without the edge of the different vertices a and b, and ErrNone. Errors:
// ErrState if they are no neighbours.
func TakeEdge(g Graph, a int64, b int64) (Graph, int64) {
	return exchangeEdge(g, a, b, 1)
}

// RenumberGraph returns g renumbered by p, and ErrNone.
func RenumberGraph(g Graph, p []int64) (Graph, int64) {
	if !IsGraph(g) {
		return Graph{}, ErrInvalid
	}
	if !isRenumbering(g.Size, p) {
		return Graph{}, ErrRange
	}
	pairs := pairSet{}
	for v, w := range edgesIn(g) {
		pairs.join(p[v], p[w])
	}
	return graphOfPairs(g.Size, pairs), ErrNone
}

// PutBeside returns the graph that has the vertices and edges of g, and those of h with the Size of
// g added to each vertex, and ErrNone. Errors: ErrLimit if there would be more than MaxVertices
// vertices.
func PutBeside(g Graph, h Graph) (Graph, int64) {
	if !IsGraph(g) || !IsGraph(h) {
		return Graph{}, ErrInvalid
	}
	if g.Size+h.Size > MaxVertices {
		return Graph{}, ErrLimit
	}
	both := graphWithoutEdges(g.Size + h.Size)
	copy(both.Rows, g.Rows)
	for v, row := range h.Rows {
		both.Rows[g.Size+int64(v)] = row << g.Size
	}
	return both, ErrNone
}

// JumpGraph returns the jump graph of n, in 3..MaxVertices, and of a list of jumps, and ErrNone.
func JumpGraph(n int64, jumps []int64) (Graph, int64) {
	if n < minJumpSize || n > MaxVertices || !areNumbersUpTo(n-1, maxJumps, jumps) {
		return Graph{}, ErrRange
	}
	return jumpGraph(n, jumps), ErrNone
}

// NamedGraph returns the graph with a name, and ErrNone. Errors: ErrNotFound if there is none.
func NamedGraph(name string) (Graph, int64) {
	switch name {
	case "k4":
		return graphWhere(4, everyPair), ErrNone
	case "k5":
		return graphWhere(5, everyPair), ErrNone
	case "k33":
		return graphWhere(6, func(v int64, w int64) bool { return v < 3 && w >= 3 }), ErrNone
	case "cube":
		return graphWhere(8, func(v int64, w int64) bool { return countOf(v^w) == 1 }), ErrNone
	case "clebsch":
		return graphWhere(16, func(v int64, w int64) bool { return countOf(v^w) == 1 || countOf(v^w) == 4 }), ErrNone
	case "petersen":
		return ringGraph(5, 2), ErrNone
	case "icosahedron":
		return icosahedronGraph(), ErrNone
	case "hoffmansingleton":
		return hoffmanSingletonGraph(), ErrNone
	}
	if plan, ok := jumpPlans()[name]; ok {
		return jumpGraph(plan.size, plan.jumps), ErrNone
	}
	return Graph{}, ErrNotFound
}

// GraphText returns the text of g, and ErrNone.
func GraphText(g Graph) (string, int64) {
	if !IsGraph(g) {
		return "", ErrInvalid
	}
	var edges []string
	for v, w := range edgesIn(g) {
		edges = append(edges, strconv.FormatInt(v, 10)+"-"+strconv.FormatInt(w, 10))
	}
	return strconv.FormatInt(g.Size, 10) + ":" + strings.Join(edges, ","), ErrNone
}

// ParseGraph returns the graph with a text, and ErrNone. Errors: ErrSyntax if there is none. (No
// other errors are returned.)
func ParseGraph(text string) (Graph, int64) {
	if len(text) > maxGraphText {
		return Graph{}, ErrSyntax
	}
	size, rest, _ := strings.Cut(text, ":")
	n, err := strconv.ParseInt(size, 10, 64)
	if err != nil {
		return Graph{}, ErrSyntax
	}
	edges, ok := edgesInText(rest)
	if !ok {
		return Graph{}, ErrSyntax
	}
	g, code := GraphOf(n, edges)
	if code != ErrNone {
		return Graph{}, ErrSyntax
	}
	// A graph has one text alone: this refuses signs, leading zeros, and edges twice or out of order.
	if only, _ := GraphText(g); only != text {
		return Graph{}, ErrSyntax
	}
	return g, ErrNone
}

// edgesInText reads the numbers of edges, without regard to whether a graph has such a text.
func edgesInText(text string) ([][]int64, bool) {
	if text == "" {
		return nil, true
	}
	var edges [][]int64
	for edge := range strings.SplitSeq(text, ",") {
		first, second, _ := strings.Cut(edge, "-")
		v, firstErr := strconv.ParseInt(first, 10, 64)
		w, secondErr := strconv.ParseInt(second, 10, 64)
		if firstErr != nil || secondErr != nil {
			return nil, false
		}
		edges = append(edges, []int64{v, w})
	}
	return edges, true
}

func isSize(n int64) bool { return n >= 1 && n <= MaxVertices }

func isVertex(n int64, v int64) bool { return v >= 0 && v < n }

// areDifferent reports whether v and w are two different vertices of a graph of the size n.
func areDifferent(n int64, v int64, w int64) bool {
	return isVertex(n, v) && isVertex(n, w) && v != w
}

// areAscending reports whether a list is a strictly ascending one of vertices of a graph of the size n.
func areAscending(n int64, list []int64) bool {
	least := int64(0)
	for _, v := range list {
		if v < least || v >= n {
			return false
		}
		least = v + 1
	}
	return true
}

// isRenumbering reports whether a list has each of the numbers 0 to n - 1 once.
func isRenumbering(n int64, p []int64) bool {
	if int64(len(p)) != n {
		return false
	}
	met := int64(0)
	for _, v := range p {
		if !isVertex(n, v) {
			return false
		}
		met |= 1 << v
	}
	return met == allVertices(n)
}

// areNumbersUpTo reports whether a list has at most so many numbers, and all of them are in
// 1..greatest.
func areNumbersUpTo(greatest int64, most int, list []int64) bool {
	if len(list) > most {
		return false
	}
	for _, x := range list {
		if !isNumberUpTo(greatest, x) {
			return false
		}
	}
	return true
}

func isNumberUpTo(greatest int64, x int64) bool { return x >= 1 && x <= greatest }

// allVertices returns the row with all vertices of a graph of the size n.
func allVertices(n int64) int64 { return 1<<n - 1 }

// countOf returns how many digits of a row are 1.
func countOf(row int64) int64 { return int64(bits.OnesCount64(uint64(row))) }

// firstOf returns the least vertex of a row that has one.
func firstOf(row int64) int64 { return int64(bits.TrailingZeros64(uint64(row))) }

// rowArrayOf takes at most MaxVertices rows.
func rowArrayOf(rows []int64) rowArray {
	padded := make([]int64, MaxVertices)
	copy(padded, rows)
	return rowArray(padded)
}

// turnedRows returns the rows in which w has v if v had w.
func turnedRows(rows rowArray) rowArray {
	var turned rowArray
	for v, row := range rows {
		for w := range membersOf(row) {
			turned[w] |= 1 << v
		}
	}
	return turned
}

// membersOf yields the vertices of a row, ascending.
func membersOf(row int64) iter.Seq[int64] {
	return func(yield func(int64) bool) {
		for left := row; left != 0; left &= left - 1 {
			if !yield(firstOf(left)) {
				return
			}
		}
	}
}

// listOf returns the vertices of a row, ascending.
func listOf(row int64) []int64 {
	var list []int64
	for v := range membersOf(row) {
		list = append(list, v)
	}
	return list
}

// edgesIn yields the edges of g in order, the lesser vertex first.
func edgesIn(g Graph) iter.Seq2[int64, int64] {
	return func(yield func(int64, int64) bool) {
		for v := range g.Size {
			for w := range membersOf(g.Rows[v] &^ allVertices(v+1)) {
				if !yield(v, w) {
					return
				}
			}
		}
	}
}

// partsIn yields the parts of g in the order of their least vertices: those to which there are ways
// of even, and those to which there are ways of odd lengths from the least vertex.
func partsIn(g Graph) iter.Seq2[int64, int64] {
	return func(yield func(int64, int64) bool) {
		left := allVertices(g.Size)
		for left != 0 {
			even, odd := reachedFrom(g, firstOf(left))
			if !yield(even, odd) {
				return
			}
			left &^= even | odd
		}
	}
}

// reachedFrom returns the vertices to which there are ways of even, and those to which there are
// ways of odd lengths from v; a part is bipartite just if none is in both.
func reachedFrom(g Graph, v int64) (int64, int64) {
	even, odd := int64(1)<<v, int64(0)
	for {
		moreOdd := odd | neighboursAround(g, even)
		moreEven := even | neighboursAround(g, moreOdd)
		if moreEven == even && moreOdd == odd {
			return even, odd
		}
		even, odd = moreEven, moreOdd
	}
}

// neighboursAround returns all neighbours of the vertices of a row.
func neighboursAround(g Graph, row int64) int64 {
	around := int64(0)
	for v := range membersOf(row) {
		around |= g.Rows[v]
	}
	return around
}

// exchangeEdge turns the digits of a and b over, which must be as told before.
func exchangeEdge(g Graph, a int64, b int64, before int64) (Graph, int64) {
	if !IsGraph(g) {
		return Graph{}, ErrInvalid
	}
	if !areDifferent(g.Size, a, b) {
		return Graph{}, ErrRange
	}
	if g.Rows[a]>>b&1 != before {
		return Graph{}, ErrState
	}
	changed := copyOf(g)
	turnEdge(changed, a, b)
	return changed, ErrNone
}

// turnEdge writes an edge of a and b into the rows of g, or takes it out of them if it is there.
func turnEdge(g Graph, a int64, b int64) {
	g.Rows[a] ^= 1 << b
	g.Rows[b] ^= 1 << a
}

func graphWithoutEdges(n int64) Graph {
	return Graph{Size: n, Rows: make([]int64, n)}
}

func copyOf(g Graph) Graph {
	return Graph{Size: g.Size, Rows: slices.Clone(g.Rows)}
}

func graphOfPairs(n int64, pairs pairSet) Graph {
	g := graphWithoutEdges(n)
	for p := range pairs {
		g.Rows[p[0]] |= 1 << p[1]
		g.Rows[p[1]] |= 1 << p[0]
	}
	return g
}

// graphWhere joins v and w, v less than w, if joined says so.
func graphWhere(n int64, joined func(int64, int64) bool) Graph {
	pairs := pairSet{}
	for w := range n {
		for v := range w {
			if joined(v, w) {
				pairs.join(v, w)
			}
		}
	}
	return graphOfPairs(n, pairs)
}

func everyPair(int64, int64) bool { return true }

func jumpGraph(n int64, jumps []int64) Graph {
	pairs := pairSet{}
	for i := range n {
		pairs.join(i, (i+1)%n)
		if len(jumps) > 0 {
			pairs.join(i, (i+jumps[i%int64(len(jumps))])%n)
		}
	}
	return graphOfPairs(n, pairs)
}

func jumpPlans() map[string]jumpPlan {
	return map[string]jumpPlan{
		"heawood":       {14, []int64{5, 9}},
		"moebiuskantor": {16, []int64{5, 11}},
		"pappus":        {18, []int64{5, 7, 11, 7, 11, 13}},
		"desargues":     {20, []int64{5, 15, 9, 11}},
		"dodecahedron":  {20, []int64{10, 7, 4, 16, 13, 10, 16, 7, 13, 4}},
		"mcgee":         {24, []int64{12, 7, 17}},
		"tuttecoxeter":  {30, []int64{17, 21, 7, 23, 9, 13}},
	}
}

// ringGraph returns the ring graph (chapter 4) of n and k: the graph with the name petersen is that
// of 5 and 2.
func ringGraph(n int64, k int64) Graph {
	pairs := pairSet{}
	for i := range n {
		pairs.join(i, (i+1)%n)
		pairs.join(i, n+i)
		pairs.join(n+i, n+(i+k)%n)
	}
	return graphOfPairs(2*n, pairs)
}

func icosahedronGraph() Graph {
	pairs := pairSet{}
	for i := range int64(5) {
		j := (i + 1) % 5
		pairs.join(0, 1+i)
		pairs.join(11, 6+i)
		pairs.join(1+i, 1+j)
		pairs.join(6+i, 6+j)
		pairs.join(1+i, 6+i)
		pairs.join(1+i, 6+j)
	}
	return graphOfPairs(12, pairs)
}

func hoffmanSingletonGraph() Graph {
	pairs := pairSet{}
	for h := range int64(5) {
		for j := range int64(5) {
			pairs.join(5*h+j, 5*h+(j+1)%5)
			pairs.join(25+5*h+j, 25+5*h+(j+2)%5)
			for i := range int64(5) {
				pairs.join(5*h+j, 25+5*i+(h*i+j)%5)
			}
		}
	}
	return graphOfPairs(50, pairs)
}
