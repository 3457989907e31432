package tests

import (
	"slices"
	"testing"

	"loop.example/g01331/impl"
)

// wordKind is a kind of words, with the greatest d, and the diameter of the word digraphs for d as 1, whatever k is.
type wordKind struct {
	name  string
	most  int64
	start int64
	make  func(d int64, k int64) (impl.Digraph, int64)
}

func wordKinds() []wordKind {
	return []wordKind{{"de Bruijn", 62, 0, impl.DeBruijnDigraph}, {"Kautz", 61, 1, impl.KautzDigraph}}
}

// TestPromise8Lines asks that line digraphs of word digraphs are those of words with one number more, and are refused where those are.
func TestPromise8Lines(t *testing.T) {
	for _, words := range wordKinds() {
		made, refused := 0, 0
		for d := int64(1); d <= words.most; d++ {
			for k := int64(1); k < 10; k++ {
				x, code := words.make(d, k)
				if code != impl.ErrNone {
					break
				}
				what := call("LineDigraph of "+words.name, d, k)
				longer, code := words.make(d, k+1)
				if code != impl.ErrNone {
					wantError(t, what, code, results(impl.LineDigraph(x))...)
					refused++
					continue
				}
				line, code := impl.LineDigraph(x)
				wantDigraph(t, what, line, code, longer)
				made++
			}
		}
		if made != 9+4+2+4 || int64(refused) != words.most-1 {
			t.Errorf("of %s there are %d line digraphs, and %d are refused", words.name, made, refused)
		}
	}
}

// TestPromise8Arcs asks that the arcs of word digraphs of Kautz lead from words to what is left of them and one number more.
func TestPromise8Arcs(t *testing.T) {
	for d := int64(1); d <= 61; d++ {
		for k := int64(1); k <= 10; k++ {
			words, code := impl.KautzWords(d, k)
			if code != impl.ErrNone {
				break
			}
			x, code := impl.KautzDigraph(d, k)
			wantCode(t, "KautzDigraph", code, impl.ErrNone)
			arcs, code := impl.ArcsOf(x)
			wantCode(t, "ArcsOf", code, impl.ErrNone)
			if int64(len(arcs)) != d*x.Size {
				t.Errorf("there are %d arcs of Kautz for %d and %d", len(arcs), d, k)
			}
			for _, arc := range arcs {
				from, to := words[arc[0]], words[arc[1]]
				if longer := append(slices.Clone(from), to[k-1]); !slices.Equal(longer[1:], to) || !isKautzWord(longer) {
					t.Errorf("an arc leads from %v to %v", from, to)
				}
			}
		}
	}
}

// TestPromise8Diameters asks that word digraphs are regular and strong, that their diameters are the lengths of the words (but for
// d as 1, where there are one or two words alone), and that there is just one walk as long, or with words of Kautz by one less.
func TestPromise8Diameters(t *testing.T) {
	for _, words := range wordKinds() {
		for d := int64(1); d <= words.most; d++ {
			for k := int64(1); k <= 10; k++ {
				x, code := words.make(d, k)
				if code != impl.ErrNone {
					break
				}
				want := k
				if d == 1 {
					want = words.start
				}
				wantDegree(t, digraphTable(x), d)
				wantDiameter(t, digraphTable(x), want)
				if k <= 8 {
					wantOneWalk(t, words.name, x, k, words.start)
				}
				wantWithinBound(t, words.name, x, d, want)
			}
		}
	}
}

// wantOneWalk counts the walks of the length k from each vertex to each one, and, with less as 1, those of one step less, too.
func wantOneWalk(t *testing.T, what string, x impl.Digraph, k int64, less int64) {
	t.Helper()
	for a := range x.Size {
		for b := range x.Size {
			walks, code := impl.CountWalks(x, a, b, k)
			wantCode(t, "CountWalks", code, impl.ErrNone)
			if less == 1 {
				shorter, code := impl.CountWalks(x, a, b, k-1)
				wantCode(t, "CountWalks", code, impl.ErrNone)
				walks += shorter
			}
			if walks != 1 {
				t.Errorf("%s: from %d to %d in %v there are %d walks of %d", what, a, b, x, walks, k)
			}
		}
	}
}

// wantWithinBound asks for at most as many vertices as the bound, and for a Moore digraph if there are just so many.
func wantWithinBound(t *testing.T, what string, x impl.Digraph, degree int64, diameter int64) {
	t.Helper()
	if diameter == 0 {
		wantMooreDigraph(t, what, digraphTable(x), false)
		return
	}
	bound, code := impl.DigraphBound(degree, diameter)
	if bound < x.Size || code != impl.ErrNone {
		t.Errorf("%s: the bound of %v is %d, %d", what, x, bound, code)
	}
	wantMooreDigraph(t, what, digraphTable(x), bound == x.Size)
}

// TestPromise8Reversed asks that reversed digraphs have reversed walks, arcs and diameters, and are the digraphs when reversed again.
func TestPromise8Reversed(t *testing.T) {
	for x := range sampleDigraphs {
		g := x.digraph()
		reversed, code := impl.ReverseDigraph(g)
		wantCode(t, "ReverseDigraph", code, impl.ErrNone)
		again, code := impl.ReverseDigraph(reversed)
		wantDigraph(t, "reversed twice", again, code, g)
		arcs, _ := impl.ArcsOf(g)
		for _, arc := range arcs {
			slices.Reverse(arc)
		}
		slices.SortFunc(arcs, slices.Compare)
		turned, code := impl.ArcsOf(reversed)
		wantLists(t, "ArcsOf the reversed", turned, code, arcs)
		wantSame(t, "IsStrong", g, reversed, func(x impl.Digraph) []any { return results(impl.IsStrong(x)) })
		wantSame(t, "DiameterOfDigraph", g, reversed, func(x impl.Digraph) []any { return results(impl.DiameterOfDigraph(x)) })
		wantSame(t, "DegreeOfDigraph", g, reversed, func(x impl.Digraph) []any { return results(impl.DegreeOfDigraph(x)) })
		wantSame(t, "IsMooreDigraph", g, reversed, func(x impl.Digraph) []any { return results(impl.IsMooreDigraph(x)) })
		wantReversedWalks(t, g, reversed)
	}
}

func wantSame(t *testing.T, what string, x impl.Digraph, y impl.Digraph, ask func(impl.Digraph) []any) {
	t.Helper()
	if one, other := ask(x), ask(y); !slices.Equal(one, other) {
		t.Errorf("%s of %v and %v: %v and %v", what, x, y, one, other)
	}
}

// wantReversedWalks has all pairs of small digraphs, and some of large ones.
func wantReversedWalks(t *testing.T, x impl.Digraph, reversed impl.Digraph) {
	t.Helper()
	step := 1 + x.Size/5
	for a := int64(0); a < x.Size; a += step {
		for b := int64(0); b < x.Size; b += step {
			for k := range int64(9) {
				there, one := impl.CountWalks(x, a, b, k)
				back, two := impl.CountWalks(reversed, b, a, k)
				if there != back || one != impl.ErrNone || two != impl.ErrNone {
					t.Errorf("from %d to %d in %v there are %d walks of %d, %d, and %d back, %d", a, b, x, there, k, one, back, two)
				}
			}
		}
	}
}

// TestPromise8Walks asks that a line digraph has a walk for each one along its arcs that is longer by one.
func TestPromise8Walks(t *testing.T) {
	for x := range sampleDigraphs {
		line, code := impl.LineDigraph(x.digraph())
		if code != impl.ErrNone {
			continue
		}
		for k := int64(1); k <= 8; k += 3 {
			sum, lineSum := int64(0), int64(0)
			for a := range int64(len(x)) {
				for b := range int64(len(x)) {
					walks, _ := impl.CountWalks(x.digraph(), a, b, k)
					sum += walks
				}
			}
			for a := range line.Size {
				for b := range line.Size {
					walks, _ := impl.CountWalks(line, a, b, k-1)
					lineSum += walks
				}
			}
			if sum != lineSum {
				t.Errorf("%v has %d walks of %d, its line digraph has %d of one less", x.digraph(), sum, k, lineSum)
			}
		}
	}
}

// TestPromise8Graphs asks that digraphs of graphs go both ways, and have the diameters, degrees and walks of the graphs.
func TestPromise8Graphs(t *testing.T) {
	for x := range sampleTables {
		g := x.graph()
		of, code := impl.DigraphOf(g)
		wantCode(t, "DigraphOf", code, impl.ErrNone)
		reversed, code := impl.ReverseDigraph(of)
		wantDigraph(t, "the reversed digraph of a graph", reversed, code, of)
		arcs, _ := impl.ArcsOf(of)
		edges, _ := impl.EdgesOf(g)
		strong, _ := impl.IsStrong(of)
		connected, _ := impl.IsConnected(g)
		if len(arcs) != 2*len(edges) || strong != connected {
			t.Errorf("the digraph of %v has %d arcs and %d edges, is strong %v and connected %v", g, len(arcs), len(edges), strong, connected)
		}
		diameter, one := impl.DiameterOfDigraph(of)
		want, _, two := impl.DiameterOf(g)
		degree, three := impl.DegreeOfDigraph(of)
		regular, four := impl.RegularDegree(g)
		if diameter != want || one != two || degree != regular || three != four {
			t.Errorf("the digraph of %v has the diameter %d, %d, and the degree %d, %d", g, diameter, one, degree, three)
		}
		for v := range g.Size {
			walks, _ := impl.CountWalks(of, v, v, 5)
			if ways, _ := impl.CountClosedAt(g, v, 5); walks != ways {
				t.Errorf("there are %d walks and %d ways at %d in %v", walks, ways, v, g)
			}
		}
	}
}

// TestPromise8Sequences asks that sequences have all words, and that they lead around along the word digraph.
func TestPromise8Sequences(t *testing.T) {
	for d := int64(1); d <= 10; d++ {
		for k := int64(1); k <= 10; k++ {
			list, code := impl.WordSequence(d, k)
			if code != impl.ErrNone {
				continue
			}
			if int64(len(list)) != bruijnCount(d, k).Int64() || slices.Min(list) < 0 || slices.Max(list) >= d || !hasAllWords(list, d, k) {
				t.Errorf("WordSequence(%d, %d) = %v", d, k, list)
			}
			if x, code := impl.DeBruijnDigraph(d, k); code == impl.ErrNone {
				wantAround(t, x, list, d, k)
			}
		}
	}
}

// wantAround goes from word to word of a sequence.
func wantAround(t *testing.T, x impl.Digraph, list []int64, d int64, k int64) {
	t.Helper()
	words := bruijnWords(d, k)
	twice := slices.Repeat(list, int(k)+1)
	place := func(i int) int64 {
		return int64(slices.IndexFunc(words, func(word []int64) bool { return slices.Equal(word, twice[i:i+int(k)]) }))
	}
	for i := range list {
		if walks, code := impl.CountWalks(x, place(i), place(i+1), 1); walks != 1 || code != impl.ErrNone {
			t.Errorf("there is no arc from %d to %d in %v: %d", place(i), place(i+1), x, code)
		}
	}
}

// TestAnswersOwnTheirMemory8 writes over the answers of chapter 8, asks again, and looks at the arguments.
func TestAnswersOwnTheirMemory8(t *testing.T) {
	rows, graphRows := []int64{6, 1, 3}, []int64{6, 1, 1}
	x, g := impl.Digraph{Size: 3, Rows: guarded(rows)}, impl.Graph{Size: 3, Rows: guarded(graphRows)}
	for range 2 {
		line, code := impl.LineDigraph(x)
		wantDigraph(t, "LineDigraph", line, code, impl.Digraph{Size: 5, Rows: []int64{4, 24, 3, 3, 4}})
		spoil(line.Rows)
		reversed, code := impl.ReverseDigraph(x)
		wantDigraph(t, "ReverseDigraph", reversed, code, impl.Digraph{Size: 3, Rows: []int64{6, 5, 1}})
		spoil(reversed.Rows)
		of, code := impl.DigraphOf(g)
		wantDigraph(t, "DigraphOf", of, code, impl.Digraph{Size: 3, Rows: graphRows})
		spoil(of.Rows)
		bruijn, code := impl.DeBruijnDigraph(2, 1)
		wantDigraph(t, "DeBruijnDigraph", bruijn, code, impl.Digraph{Size: 2, Rows: []int64{3, 3}})
		spoil(bruijn.Rows)
		kautz, code := impl.KautzDigraph(2, 1)
		wantDigraph(t, "KautzDigraph", kautz, code, impl.Digraph{Size: 3, Rows: []int64{6, 5, 3}})
		spoil(kautz.Rows)
		sequence, code := impl.WordSequence(2, 2)
		wantList(t, "WordSequence", sequence, code, 0, 0, 1, 1)
		spoil(sequence)
		impl.IsDigraph(x)
		impl.DegreeOfDigraph(x)
		impl.IsStrong(x)
		impl.DiameterOfDigraph(x)
		impl.CountWalks(x, 0, 1, 8)
		impl.IsMooreDigraph(x)
		wantGuarded(t, "chapter 8", x.Rows, rows)
		wantGuarded(t, "chapter 8", g.Rows, graphRows)
	}
}

// TestListsOwnTheirMemory8 writes over one list of an answer, and looks at the others.
func TestListsOwnTheirMemory8(t *testing.T) {
	for spoilt := range 6 {
		for _, ask := range []func() ([][]int64, int64){
			func() ([][]int64, int64) { return impl.KautzWords(2, 2) },
			func() ([][]int64, int64) { return impl.ArcsOf(impl.Digraph{Size: 3, Rows: []int64{6, 5, 3}}) },
		} {
			lists, code := ask()
			want := kautzWords(2, 2)
			wantLists(t, "chapter 8", lists, code, want)
			spoil(lists[spoilt])
			wantLists(t, "chapter 8", slices.Delete(lists, spoilt, spoilt+1), code, slices.Delete(want, spoilt, spoilt+1))
		}
	}
}
