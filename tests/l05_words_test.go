package tests

import (
	"math"
	"slices"
	"testing"

	"loop.example/g01331/impl"
)

// multiplied returns the product of a word, letter by letter.
func (g groupTable) multiplied(set []int64, word []int64) int64 {
	x := int64(0)
	for _, letter := range word {
		x = g.times[x][set[letter]]
	}
	return x
}

// leastWord lists longer and longer reduced words until one has the unit as its product; 0 is none of at most MaxLetter letters.
func (g groupTable) leastWord(set []int64) int64 {
	var grow func(x int64, last int64, letters int64) bool
	grow = func(x int64, last int64, letters int64) bool {
		if letters == 0 {
			return x == 0
		}
		for _, s := range set {
			if s != last && grow(g.times[x][s], g.inverse(s), letters-1) {
				return true
			}
		}
		return false
	}
	for letters := int64(3); letters <= impl.MaxLetter; letters++ {
		if grow(0, 0, letters) {
			return letters
		}
	}
	return 0
}

func wantWordGirth(t *testing.T, group impl.Group, set []int64, want int64) {
	t.Helper()
	if want == 0 {
		wantError(t, call("WordGirth", group, set), impl.ErrNotFound, results(impl.WordGirth(group, set))...)
	} else if girth, code := impl.WordGirth(group, set); girth != want || code != impl.ErrNone {
		t.Errorf("WordGirth(%v, %v) = %d, %d, want %d", group, set, girth, code, want)
	}
}

// TestProductOfWord tries all words of up to three letters of some sets, and scattered ones of up to MaxLetter letters.
func TestProductOfWord(t *testing.T) {
	state := uint32(5)
	for g := range allGroups {
		for set := range g.someSets {
			var words [][]int64
			letters := int64(len(set))
			for length := range impl.MaxLetter + 1 {
				word := make([]int64, length)
				if length > 0 && letters == 0 {
					break
				}
				for next := true; next && letters <= 6 && length <= 3; next = countUp(word, letters) {
					words = append(words, slices.Clone(word))
				}
				for i := range word {
					state = state*1664525 + 1013904223
					word[i] = int64(state>>8) % letters
				}
				words = append(words, word)
			}
			for _, word := range words {
				if x, code := impl.ProductOfWord(g.group, set, word); x != g.multiplied(set, word) || code != impl.ErrNone {
					t.Errorf("ProductOfWord(%v, %v, %v) = %d, %d, want %d", g.group, set, word, x, code, g.multiplied(set, word))
				}
			}
		}
	}
}

func TestProductsOfWordsByHand(t *testing.T) {
	for _, c := range []struct {
		group     impl.Group
		set, word []int64
		want      int64
	}{
		{groupOf(cyclic, 1), nil, nil, 0}, {groupOf(cyclic, 6), []int64{1, 3, 5}, nil, 0}, {groupOf(cyclic, 6), []int64{1, 3, 5}, []int64{}, 0}, {groupOf(cyclic, 6), []int64{1, 3, 5}, []int64{2}, 5},
		{groupOf(cyclic, 6), []int64{1, 3, 5}, []int64{0, 1, 1, 0}, 2}, {groupOf(cyclic, 62), []int64{1, 61}, make([]int64, 16), 16}, {groupOf(cyclic, 62), []int64{1, 61}, slices.Repeat([]int64{1}, 16), 46},
		{groupOf(dihedral, 31), []int64{31, 32}, []int64{0, 1}, 30}, {groupOf(dihedral, 31), []int64{31, 32}, []int64{1, 0}, 1}, {groupOf(dihedral, 31), []int64{31, 32}, slices.Repeat([]int64{1, 0}, 8), 8},
		{groupOf(dihedral, 31), []int64{1, 30, 61}, []int64{2, 0, 2}, 30}, {groupOf(dihedral, 5), []int64{1, 4, 5}, []int64{0, 2}, 6}, {groupOf(dihedral, 5), []int64{1, 4, 5}, []int64{2, 0}, 9},
		{groupOf(affine, 5), []int64{1, 4, 5, 10}, []int64{2, 0}, 7}, {groupOf(affine, 5), []int64{1, 4, 5, 10}, []int64{0, 2}, 6}, {groupOf(affine, 5), []int64{1, 4, 5, 10}, []int64{2, 0, 3}, 2},
		{groupOf(affine, 7), []int64{41}, slices.Repeat([]int64{0}, 15), 41}, {groupOf(affine, 2), []int64{1}, slices.Repeat([]int64{0}, 16), 0},
	} {
		if x, code := impl.ProductOfWord(c.group, c.set, c.word); x != c.want || code != impl.ErrNone {
			t.Errorf("ProductOfWord(%v, %v, %v) = %d, %d, want %d", c.group, c.set, c.word, x, code, c.want)
		}
	}
}

// TestWordErrors has words of one letter too many, and letters one beyond, of connection sets and of lists that are none: ErrRange comes first.
func TestWordErrors(t *testing.T) {
	for _, c := range []struct {
		group impl.Group
		set   []int64
		code  int64
	}{
		{groupOf(cyclic, 6), []int64{1, 3, 5}, impl.ErrNone}, {groupOf(cyclic, 6), []int64{1, 3}, impl.ErrState}, {groupOf(cyclic, 6), []int64{5, 1}, impl.ErrState}, {groupOf(cyclic, 6), []int64{0, 3}, impl.ErrState},
		{groupOf(cyclic, 6), []int64{3, 3}, impl.ErrState}, {groupOf(dihedral, 31), []int64{61}, impl.ErrNone}, {groupOf(dihedral, 31), []int64{30}, impl.ErrState}, {groupOf(affine, 7), []int64{7, 21}, impl.ErrNone},
		{groupOf(affine, 7), []int64{7, 14}, impl.ErrState}, {groupOf(cyclic, 62), make([]int64, 100), impl.ErrState},
	} {
		letters := int64(len(c.set))
		for _, word := range [][]int64{nil, {0}, {letters - 1}, {letters - 1, 0, letters - 1}, slices.Repeat([]int64{letters - 1}, 16)} {
			x, code := impl.ProductOfWord(c.group, c.set, word)
			wantCode(t, call("ProductOfWord", c.group, c.set, word), code, c.code)
			if code != impl.ErrNone && x != 0 {
				t.Errorf("ProductOfWord(%v, %v, %v) = %d beside an error", c.group, c.set, word, x)
			}
		}
		for _, word := range [][]int64{make([]int64, 17), slices.Repeat([]int64{letters - 1}, 17), make([]int64, 4000), {letters}, {-1}, {0, letters}, {letters, 0}, {0, 0, -1},
			append(make([]int64, 15), letters), {math.MaxInt64}, {math.MinInt64}, {1<<32 + 0}} {
			wantError(t, call("ProductOfWord", c.group, c.set, word), impl.ErrRange, results(impl.ProductOfWord(c.group, c.set, word))...)
		}
		if c.code != impl.ErrNone {
			wantError(t, call("WordGirth", c.group, c.set), c.code, results(impl.WordGirth(c.group, c.set))...)
		}
	}
	for _, word := range [][]int64{{0}, {-1}, {1}, make([]int64, 16)} {
		wantError(t, "ProductOfWord without letters", impl.ErrRange, results(impl.ProductOfWord(groupOf(cyclic, 62), nil, word))...)
	}
}

func TestWordGirth(t *testing.T) {
	for g := range allGroups {
		for set := range g.someSets {
			wantWordGirth(t, g.group, set, g.leastWord(set))
		}
	}
}

// TestWordGirthsByHand has no letters, letters that are their own inverses, rings up to MaxLetter and beyond, and difference sets.
func TestWordGirthsByHand(t *testing.T) {
	for _, c := range []struct {
		group impl.Group
		set   []int64
		want  int64
	}{
		{groupOf(cyclic, 1), nil, 0}, {groupOf(cyclic, 62), nil, 0}, {groupOf(cyclic, 2), []int64{1}, 0}, {groupOf(cyclic, 62), []int64{31}, 0}, {groupOf(dihedral, 1), []int64{1}, 0}, {groupOf(affine, 2), []int64{1}, 0},
		{groupOf(cyclic, 3), []int64{1, 2}, 3}, {groupOf(cyclic, 62), []int64{1, 61}, 0}, {groupOf(cyclic, 48), []int64{3, 45}, 16}, {groupOf(cyclic, 51), []int64{3, 48}, 0},
		{groupOf(cyclic, 6), []int64{1, 3, 5}, 4}, {groupOf(cyclic, 62), []int64{1, 31, 61}, 4}, {groupOf(cyclic, 62), []int64{1, 2, 60, 61}, 3}, {groupOf(cyclic, 5), []int64{1, 2, 3, 4}, 3},
		{groupOf(dihedral, 2), []int64{2, 3}, 4}, {groupOf(dihedral, 3), []int64{3, 4}, 6}, {groupOf(dihedral, 8), []int64{8, 9}, 16}, {groupOf(dihedral, 9), []int64{9, 10}, 0}, {groupOf(dihedral, 31), []int64{31, 61}, 0},
		{groupOf(dihedral, 12), []int64{12, 15}, 8}, {groupOf(dihedral, 7), []int64{7, 8, 10}, 6}, {groupOf(dihedral, 13), []int64{13, 14, 16, 22}, 6}, {groupOf(dihedral, 31), []int64{31, 32, 34, 39, 43, 49}, 6},
		{groupOf(dihedral, 7), []int64{1, 6, 7}, 4}, {groupOf(dihedral, 31), []int64{1, 30, 61}, 4},
		{groupOf(affine, 3), []int64{3, 4}, 6}, {groupOf(affine, 3), []int64{3, 4, 5}, 4}, {groupOf(affine, 5), []int64{1, 4}, 5}, {groupOf(affine, 5), []int64{5, 10}, 4}, {groupOf(affine, 7), []int64{7, 21}, 3},
	} {
		wantWordGirth(t, c.group, c.set, c.want)
		wantWordGirth(t, c.group, c.set, groupTableOf(c.group).leastWord(c.set))
	}
	for n := int64(3); n <= 62; n++ {
		want := n
		if n > impl.MaxLetter {
			want = 0
		}
		wantWordGirth(t, groupOf(cyclic, n), []int64{1, n - 1}, want)
	}
}
