package tests

import (
	"math"
	"math/big"
	"slices"
	"testing"

	"loop.example/g01331/impl"
)

// bruijnCount counts the words of de Bruijn, without a limit.
func bruijnCount(d int64, k int64) *big.Int {
	return new(big.Int).Exp(big.NewInt(d), big.NewInt(k), nil)
}

// kautzCount counts the words of Kautz, without a limit: there are d + 1 numbers to begin with, and d to go on with.
func kautzCount(d int64, k int64) *big.Int {
	return new(big.Int).Mul(big.NewInt(d+1), bruijnCount(d, k-1))
}

func isTooMany(count *big.Int, most int64) bool { return count.Cmp(big.NewInt(most)) > 0 }

// bruijnWords writes the numbers from 0 on to the base d.
func bruijnWords(d int64, k int64) [][]int64 {
	words := make([][]int64, bruijnCount(d, k).Int64())
	for i := range words {
		left := int64(i)
		words[i] = make([]int64, k)
		for place := k - 1; place >= 0; place-- {
			words[i][place] = left % d
			left /= d
		}
	}
	return words
}

func isKautzWord(word []int64) bool { return len(slices.Compact(slices.Clone(word))) == len(word) }

// kautzWords leaves out the words of de Bruijn with equal neighbours.
func kautzWords(d int64, k int64) [][]int64 {
	return slices.DeleteFunc(bruijnWords(d+1, k), func(word []int64) bool { return !isKautzWord(word) })
}

// wordTable has an arc from a word to each one that is its numbers but the first one, and one more that may stand there.
func wordTable(words [][]int64, mayFollow func(last int64, next int64) bool) table {
	return pointed(int64(len(words)), func(v int64, w int64) bool {
		from, to := words[v], words[w]
		k := len(from)
		return slices.Equal(from[1:], to[:k-1]) && mayFollow(from[k-1], to[k-1])
	})
}

func anyNumber(int64, int64) bool { return true }

func otherNumber(last int64, next int64) bool { return last != next }

// TestDeBruijnDigraph has all d and k.
func TestDeBruijnDigraph(t *testing.T) {
	met := 0
	for d := int64(1); d <= 62; d++ {
		for k := int64(1); k <= 10; k++ {
			what := call("DeBruijnDigraph", d, k)
			if isTooMany(bruijnCount(d, k), impl.MaxVertices) {
				wantError(t, what, impl.ErrLimit, results(impl.DeBruijnDigraph(d, k))...)
				continue
			}
			x, code := impl.DeBruijnDigraph(d, k)
			wantDigraph(t, what, x, code, wordTable(bruijnWords(d, k), anyNumber).digraph())
			met++
		}
	}
	// All k for 1, five for 2, three for 3, two for 4 to 7, and one for each other d.
	if met != 10+5+3+4*2+55 {
		t.Errorf("there are %d word digraphs", met)
	}
}

// TestKautz has all d and k.
func TestKautz(t *testing.T) {
	met := 0
	for d := int64(1); d <= 61; d++ {
		for k := int64(1); k <= 10; k++ {
			if isTooMany(kautzCount(d, k), impl.MaxVertices) {
				wantError(t, call("KautzWords", d, k), impl.ErrLimit, results(impl.KautzWords(d, k))...)
				wantError(t, call("KautzDigraph", d, k), impl.ErrLimit, results(impl.KautzDigraph(d, k))...)
				continue
			}
			want := kautzWords(d, k)
			words, code := impl.KautzWords(d, k)
			wantLists(t, call("KautzWords", d, k), words, code, want)
			x, code := impl.KautzDigraph(d, k)
			wantDigraph(t, call("KautzDigraph", d, k), x, code, wordTable(want, otherNumber).digraph())
			if count := kautzCount(d, k).Int64(); x.Size != count || int64(len(words)) != count {
				t.Errorf("there are %d words of Kautz for %d and %d, and a digraph of %d", len(words), d, k, x.Size)
			}
			met++
		}
	}
	// All k for 1, five for 2, three for 3, two for 4 to 7, and one for each other d.
	if met != 10+5+3+4*2+54 {
		t.Errorf("there are %d word digraphs", met)
	}
}

func TestWordDigraphsByHand(t *testing.T) {
	for _, c := range []struct {
		d, k int64
		want []int64
	}{
		{1, 1, []int64{1}}, {1, 10, []int64{1}}, {2, 1, []int64{3, 3}}, {3, 1, []int64{7, 7, 7}},
		{2, 2, []int64{3, 12, 3, 12}},
		{2, 3, []int64{3, 12, 48, 192, 3, 12, 48, 192}},
		{3, 2, []int64{7, 56, 448, 7, 56, 448, 7, 56, 448}},
	} {
		x, code := impl.DeBruijnDigraph(c.d, c.k)
		wantDigraph(t, call("DeBruijnDigraph", c.d, c.k), x, code, impl.Digraph{Size: int64(len(c.want)), Rows: c.want})
	}
	for _, c := range []struct {
		d, k int64
		want []int64
	}{
		{1, 1, []int64{2, 1}}, {1, 2, []int64{2, 1}}, {1, 9, []int64{2, 1}}, {1, 10, []int64{2, 1}},
		{2, 1, []int64{6, 5, 3}}, {3, 1, []int64{14, 13, 11, 7}},
		{2, 2, []int64{12, 48, 3, 48, 3, 12}},
	} {
		x, code := impl.KautzDigraph(c.d, c.k)
		wantDigraph(t, call("KautzDigraph", c.d, c.k), x, code, impl.Digraph{Size: int64(len(c.want)), Rows: c.want})
	}
}

func TestKautzWordsByHand(t *testing.T) {
	for _, c := range []struct {
		d, k int64
		want [][]int64
	}{
		{1, 1, [][]int64{{0}, {1}}}, {1, 3, [][]int64{{0, 1, 0}, {1, 0, 1}}}, {2, 1, [][]int64{{0}, {1}, {2}}},
		{2, 2, [][]int64{{0, 1}, {0, 2}, {1, 0}, {1, 2}, {2, 0}, {2, 1}}},
		{1, 10, [][]int64{{0, 1, 0, 1, 0, 1, 0, 1, 0, 1}, {1, 0, 1, 0, 1, 0, 1, 0, 1, 0}}},
	} {
		words, code := impl.KautzWords(c.d, c.k)
		wantLists(t, call("KautzWords", c.d, c.k), words, code, c.want)
	}
}

// TestWordLimits has words that are just 62 in number, or the most below, and those that are just more.
func TestWordLimits(t *testing.T) {
	for _, c := range [][3]int64{{62, 1, 62}, {7, 2, 49}, {3, 3, 27}, {2, 5, 32}, {61, 1, 61}} {
		if x, code := impl.DeBruijnDigraph(c[0], c[1]); x.Size != c[2] || code != impl.ErrNone {
			t.Errorf("DeBruijnDigraph(%d, %d) has %d vertices, %d", c[0], c[1], x.Size, code)
		}
	}
	for _, c := range [][2]int64{{8, 2}, {4, 3}, {2, 6}, {3, 4}, {62, 2}, {2, 10}, {62, 10}} {
		wantError(t, call("DeBruijnDigraph", c), impl.ErrLimit, results(impl.DeBruijnDigraph(c[0], c[1]))...)
	}
	for _, c := range [][3]int64{{61, 1, 62}, {7, 2, 56}, {3, 3, 36}, {2, 5, 48}, {60, 1, 61}} {
		x, one := impl.KautzDigraph(c[0], c[1])
		words, two := impl.KautzWords(c[0], c[1])
		if x.Size != c[2] || int64(len(words)) != c[2] || one != impl.ErrNone || two != impl.ErrNone {
			t.Errorf("for %d and %d there are %d words of Kautz, %d, and a digraph of %d, %d", c[0], c[1], len(words), two, x.Size, one)
		}
	}
	for _, c := range [][2]int64{{8, 2}, {4, 3}, {2, 6}, {3, 4}, {61, 2}, {2, 10}, {61, 10}} {
		wantError(t, call("KautzDigraph", c), impl.ErrLimit, results(impl.KautzDigraph(c[0], c[1]))...)
		wantError(t, call("KautzWords", c), impl.ErrLimit, results(impl.KautzWords(c[0], c[1]))...)
	}
}

// beyond are numbers that are not in the range from 1 to another one.
func beyond(greatest int64) []int64 {
	return []int64{0, -1, greatest + 1, greatest + 2, -greatest, 1 << 32, 1<<32 + 1, math.MaxInt64, math.MinInt64, math.MinInt64 + 1}
}

// wantRanges asks for ErrRange where d or k is not in its range, also beside those that are too great together.
func wantRanges(t *testing.T, mostD int64, mostK int64, ask func(d int64, k int64) []any) {
	t.Helper()
	for _, d := range beyond(mostD) {
		for _, k := range append(beyond(mostK), 1, 2, mostK) {
			wantError(t, call("", d, k), impl.ErrRange, ask(d, k)...)
		}
	}
	for _, k := range beyond(mostK) {
		for _, d := range []int64{1, 2, mostD} {
			wantError(t, call("", d, k), impl.ErrRange, ask(d, k)...)
		}
	}
}

func TestWordRanges(t *testing.T) {
	wantRanges(t, 62, 10, func(d int64, k int64) []any { return results(impl.DeBruijnDigraph(d, k)) })
	wantRanges(t, 61, 10, func(d int64, k int64) []any { return results(impl.KautzWords(d, k)) })
	wantRanges(t, 61, 10, func(d int64, k int64) []any { return results(impl.KautzDigraph(d, k)) })
	wantRanges(t, 62, 60, func(d int64, k int64) []any { return results(impl.DigraphBound(d, k)) })
	wantRanges(t, 10, 10, func(d int64, k int64) []any { return results(impl.WordSequence(d, k)) })
}

// TestDigraphBound has all d and k.
func TestDigraphBound(t *testing.T) {
	for d := int64(1); d <= 62; d++ {
		for k := int64(1); k <= 60; k++ {
			bound, code := impl.DigraphBound(d, k)
			wantBound(t, call("DigraphBound", d, k), bigPowers(1, d, k), bound, code)
		}
	}
}

// TestDigraphBoundsByHand has the greatest bounds of at most MaxBound, and the least ones that are greater; none is MaxBound itself.
func TestDigraphBoundsByHand(t *testing.T) {
	for _, c := range [][3]int64{{1, 1, 2}, {1, 2, 3}, {1, 60, 61}, {2, 1, 3}, {2, 2, 7}, {2, 3, 15}, {3, 2, 13}, {7, 1, 8}, {62, 1, 63}, {62, 2, 3907},
		{5, 17, 953674316406}, {2, 38, 549755813887}, {3, 24, 423644304721}, {4, 19, 366503875925}, {10, 11, 111111111111}, {61, 6, 52379047267}, {62, 6, 57731386987}} {
		if bound, code := impl.DigraphBound(c[0], c[1]); bound != c[2] || code != impl.ErrNone {
			t.Errorf("DigraphBound(%d, %d) = %d, %d, want %d", c[0], c[1], bound, code, c[2])
		}
	}
	for _, c := range [][2]int64{{52, 7}, {5, 18}, {2, 39}, {3, 25}, {4, 20}, {10, 12}, {62, 7}, {62, 8}, {2, 60}, {2, 59}, {61, 60}, {62, 60}} {
		wantError(t, call("DigraphBound", c), impl.ErrLimit, results(impl.DigraphBound(c[0], c[1]))...)
	}
}

func wantMooreDigraph(t *testing.T, what string, x table, want bool) {
	t.Helper()
	if moore, code := impl.IsMooreDigraph(x.digraph()); moore != want || code != impl.ErrNone {
		t.Errorf("IsMooreDigraph(%s, %v) = %v, %d", what, x.digraph(), moore, code)
	}
}

// isMooreByRules asks for one condition of the document after the other.
func isMooreByRules(x table) bool {
	n := int64(len(x))
	greatest := int64(0)
	for _, row := range distancesBySums(x) {
		if slices.Contains(row, -1) {
			return false
		}
		greatest = max(greatest, slices.Max(row))
	}
	degree := degreeByArcs(x)
	return degree >= 1 && greatest >= 1 && bigPowers(1, degree, greatest).Cmp(big.NewInt(n)) == 0
}

func TestIsMooreDigraph(t *testing.T) {
	met := 0
	for x := range sampleDigraphs {
		moore := isMooreByRules(x)
		wantMooreDigraph(t, "a sample", x, moore)
		if moore {
			met++
		}
	}
	if met < 20 {
		t.Errorf("there are %d Moore digraphs alone", met)
	}
}

// TestMooreDigraphsByHand has circles, also that of 62, whose diameter is 61, and all arcs but those from a vertex to itself, and what lacks one thing.
func TestMooreDigraphsByHand(t *testing.T) {
	wantMooreDigraph(t, "one vertex", newTable(1), false)
	wantMooreDigraph(t, "one vertex with a loop", newTable(1).with(0, 0), false)
	for n := int64(2); n <= impl.MaxVertices; n++ {
		around := circle(n, 1)
		others := pointed(n, otherNumber)
		wantMooreDigraph(t, "a circle", around, true)
		wantMooreDigraph(t, "a circle turned", circle(n, n-1), true)
		wantMooreDigraph(t, "all other vertices", others, true)
		wantMooreDigraph(t, "no arcs", newTable(n), false)
		wantMooreDigraph(t, "too few vertices", everyArc(n), false)
		wantMooreDigraph(t, "not regular", around.with(1, 1), false)
		wantMooreDigraph(t, "not regular", others.with(0, 0), false)
		wantMooreDigraph(t, "not strong", around.without(n-1, 0), false)
		wantMooreDigraph(t, "not regular to each vertex", others.without(0, n-1).with(0, 0), false)
		if n%2 == 0 && n > 2 {
			wantMooreDigraph(t, "regular, and not strong", circle(n, 2), false)
		}
	}
	for name := range map[string]bool{"petersen": true, "hoffmansingleton": true, "heawood": true, "cube": true} {
		wantMooreDigraph(t, name, tableOf(named(t, name)), false)
	}
	// The degree is 2, the number that for the diameter 2, and the diameter 3.
	seven := pointed(7, func(v int64, w int64) bool { return w == (v+1)%7 || w == (v+3)%7 })
	wantDegree(t, seven, 2)
	wantDiameter(t, seven, 3)
	wantMooreDigraph(t, "seven vertices", seven, false)
	// The degree is 2, the diameter 5, and the number that for the degree 5 and the diameter 2.
	turnedAbout := pointed(31, func(v int64, w int64) bool { return w == 2*v%31 || w == (2*v+1)%31 })
	wantDegree(t, turnedAbout, 2)
	wantDiameter(t, turnedAbout, 5)
	wantMooreDigraph(t, "31 vertices", turnedAbout, false)
	for _, c := range [][2]int64{{2, 2}, {2, 3}, {3, 2}, {4, 2}, {2, 5}, {62, 1}, {1, 1}, {1, 10}} {
		x, code := impl.DeBruijnDigraph(c[0], c[1])
		wantCode(t, "DeBruijnDigraph", code, impl.ErrNone)
		wantMooreDigraph(t, call("DeBruijnDigraph", c), digraphTable(x), false)
	}
	for _, c := range [][2]int64{{2, 1}, {1, 1}, {1, 10}, {61, 1}, {2, 2}, {3, 2}, {2, 5}} {
		x, code := impl.KautzDigraph(c[0], c[1])
		wantCode(t, "KautzDigraph", code, impl.ErrNone)
		wantMooreDigraph(t, call("KautzDigraph", c), digraphTable(x), c[0] == 1 || c[1] == 1)
	}
}

// arcsLeft has the arcs of the word digraph of k - 1 numbers, told by words of k, along which a list of numbers has not gone yet.
type arcsLeft struct {
	d, words, count int64
	left            []bool
}

func (a *arcsLeft) take(arc int64) {
	a.left[arc] = false
	a.count--
}

func (a *arcsLeft) putBack(arc int64) {
	a.left[arc] = true
	a.count++
}

// canFollow reports whether one can go from a word of k - 1 numbers along all arcs that are left, once each. There are as
// many to each word as from it, but for the beginning and the end of the way, so that it is enough that all are met from there.
func (a *arcsLeft) canFollow(from int64) bool {
	seen := make([]bool, a.words)
	seen[from] = true
	met := int64(0)
	for list := []int64{from}; len(list) > 0; list = list[1:] {
		for arc := list[0] * a.d; arc < (list[0]+1)*a.d; arc++ {
			if !a.left[arc] {
				continue
			}
			met++
			if to := arc % a.words; !seen[to] {
				seen[to] = true
				list = append(list, to)
			}
		}
	}
	return met == a.count
}

// sequenceByTrial takes the least number with which the rest can still be done, and begins with zeros: no list is less than
// one that begins so. It goes from zeros to zeros along the words of k - 1 numbers.
func sequenceByTrial(d int64, k int64) []int64 {
	words := bruijnCount(d, k-1).Int64()
	a := arcsLeft{d, words, words * d, slices.Repeat([]bool{true}, int(words*d))}
	list := make([]int64, k-1)
	word := int64(0)
	for a.count > 0 {
		for next := range d {
			arc := word*d + next
			if !a.left[arc] {
				continue
			}
			a.take(arc)
			if a.canFollow(arc % words) {
				word = arc % words
				list = append(list, next)
				break
			}
			a.putBack(arc)
		}
	}
	// The last k - 1 numbers are the zeros ahead.
	return list[:words*d]
}

// TestWordSequence has all d and k.
func TestWordSequence(t *testing.T) {
	met := 0
	for d := int64(1); d <= 10; d++ {
		for k := int64(1); k <= 10; k++ {
			what := call("WordSequence", d, k)
			if isTooMany(bruijnCount(d, k), 1024) {
				wantError(t, what, impl.ErrLimit, results(impl.WordSequence(d, k))...)
				continue
			}
			list, code := impl.WordSequence(d, k)
			wantList(t, what, list, code, sequenceByTrial(d, k)...)
			met++
		}
	}
	// All k for 1 and 2, six for 3, five for 4, four for 5, and three for 6 to 10.
	if met != 10+10+6+5+4+5*3 {
		t.Errorf("there are %d sequences", met)
	}
}

// hasAllWords reports whether all words of k numbers stand in a list, around.
func hasAllWords(list []int64, d int64, k int64) bool {
	met := map[int64]bool{}
	for i := range list {
		word := int64(0)
		for j := range k {
			word = word*d + list[(int64(i)+j)%int64(len(list))]
		}
		met[word] = true
	}
	return len(met) == len(list)
}

// TestWordSequenceLeast goes through all lists in lexicographic order.
func TestWordSequenceLeast(t *testing.T) {
	for _, c := range [][2]int64{{1, 1}, {1, 2}, {1, 10}, {2, 1}, {2, 2}, {2, 3}, {2, 4}, {3, 1}, {3, 2}, {4, 1}, {5, 1}, {6, 1}, {7, 1}} {
		for _, list := range bruijnWords(c[0], bruijnCount(c[0], c[1]).Int64()) {
			if hasAllWords(list, c[0], c[1]) {
				got, code := impl.WordSequence(c[0], c[1])
				wantList(t, call("WordSequence", c), got, code, list...)
				break
			}
		}
	}
}

func TestWordSequencesByHand(t *testing.T) {
	for k := int64(1); k <= 10; k++ {
		list, code := impl.WordSequence(1, k)
		wantList(t, call("WordSequence", 1, k), list, code, 0)
		list, code = impl.WordSequence(k, 1)
		wantList(t, call("WordSequence", k, 1), list, code, turn(k, 0)...)
	}
	for _, c := range []struct {
		d, k int64
		want []int64
	}{
		{2, 2, []int64{0, 0, 1, 1}}, {2, 3, []int64{0, 0, 0, 1, 0, 1, 1, 1}}, {2, 4, []int64{0, 0, 0, 0, 1, 0, 0, 1, 1, 0, 1, 0, 1, 1, 1, 1}},
		{3, 2, []int64{0, 0, 1, 0, 2, 1, 1, 2, 2}}, {4, 2, []int64{0, 0, 1, 0, 2, 0, 3, 1, 1, 2, 1, 3, 2, 2, 3, 3}},
		{3, 3, []int64{0, 0, 0, 1, 0, 0, 2, 0, 1, 1, 0, 1, 2, 0, 2, 1, 0, 2, 2, 1, 1, 1, 2, 1, 2, 2, 2}},
	} {
		list, code := impl.WordSequence(c.d, c.k)
		wantList(t, call("WordSequence", c.d, c.k), list, code, c.want...)
	}
}

// TestWordSequenceLimits has the numbers of words of 1024, and those that are just more.
func TestWordSequenceLimits(t *testing.T) {
	for _, c := range [][3]int64{{2, 10, 1024}, {4, 5, 1024}, {10, 3, 1000}, {3, 6, 729}, {5, 4, 625}} {
		if list, code := impl.WordSequence(c[0], c[1]); int64(len(list)) != c[2] || code != impl.ErrNone {
			t.Errorf("WordSequence(%d, %d) has %d numbers, %d", c[0], c[1], len(list), code)
		}
	}
	for _, c := range [][2]int64{{6, 4}, {3, 7}, {7, 4}, {5, 5}, {4, 6}, {10, 4}, {3, 10}, {10, 10}} {
		wantError(t, call("WordSequence", c), impl.ErrLimit, results(impl.WordSequence(c[0], c[1]))...)
	}
}
