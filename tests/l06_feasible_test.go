package tests

import (
	"math"
	"math/big"
	"slices"
	"testing"

	"loop.example/g01331/impl"
)

// numbersByRatios returns the numbers at distances, without a limit, and whether all are whole.
func numbersByRatios(b []int64, c []int64) ([]*big.Rat, bool) {
	number, whole := big.NewRat(1, 1), true
	numbers := []*big.Rat{number}
	for i := range b {
		number = new(big.Rat).Mul(number, big.NewRat(b[i], c[i]))
		numbers = append(numbers, number)
		whole = whole && number.IsInt()
	}
	return numbers, whole
}

// feasibleByRules asks for one condition of the document after the other.
func feasibleByRules(b []int64, c []int64) bool {
	d := len(b)
	c = append([]int64{0}, c...)
	feasible := c[1] == 1 && c[d] <= b[0]
	for i := 1; i <= d; i++ {
		for j := range d {
			feasible = feasible && !(i+j <= d && c[i] > b[j]) && !(j < i && i < d && b[j] < b[i]) && !(1 <= j && j < i && c[j] > c[i])
		}
		feasible = feasible && !(i < d && b[i]+c[i] > b[0])
	}
	numbers, whole := numbersByRatios(b, c[1:])
	sum := new(big.Rat)
	for _, number := range numbers {
		sum.Add(sum, number)
	}
	sum.Mul(sum, big.NewRat(b[0], 2))
	return feasible && whole && sum.IsInt()
}

// wantNumbers returns whether two lists are feasible.
func wantNumbers(t *testing.T, b []int64, c []int64) bool {
	t.Helper()
	numbers, whole := numbersByRatios(b, c)
	if !whole {
		wantError(t, call("NumbersAt", b, c), impl.ErrState, results(impl.NumbersAt(b, c))...)
	} else {
		want := make([]int64, len(numbers))
		for i, number := range numbers {
			want[i] = number.Num().Int64()
		}
		got, code := impl.NumbersAt(b, c)
		wantList(t, call("NumbersAt", b, c), got, code, want...)
	}
	want := feasibleByRules(b, c)
	if feasible, code := impl.AreFeasible(b, c); feasible != want || code != impl.ErrNone {
		t.Errorf("AreFeasible(%v, %v) = %v, %d", b, c, feasible, code)
	}
	return want
}

// TestNumbersOfShortLists has all lists of one to four numbers that are small.
func TestNumbersOfShortLists(t *testing.T) {
	feasible := 0
	for d, greatest := range map[int]int64{1: 62, 2: 12, 3: 5, 4: 3} {
		digits := make([]int64, 2*d)
		for next := true; next; next = countUp(digits, greatest) {
			list := make([]int64, 2*d)
			for i := range list {
				list[i] = digits[i] + 1
			}
			if wantNumbers(t, list[:d:d], list[d:]) {
				feasible++
			}
		}
	}
	if feasible < 300 {
		t.Errorf("%d lists are feasible", feasible)
	}
}

// TestNumbersOfLongLists has scattered lists, and ones that rise and fall as feasible ones do.
func TestNumbersOfLongLists(t *testing.T) {
	state := uint32(6)
	random := func(below int64) int64 {
		state = state*1664525 + 1013904223
		return int64(state>>8) % below
	}
	feasible := 0
	for range 40000 {
		d := 1 + random(10)
		b, c := make([]int64, d), make([]int64, d)
		high, low := 1+random(62), int64(1)
		for i := range d {
			b[i], c[i] = high, low
			high = max(1, high-random(3)*random(3))
			low = min(62, low+random(2)*random(2))
		}
		if wantNumbers(t, b, c) {
			feasible++
		}
		b[random(d)], c[random(d)] = 1+random(62), 1+random(62)
		wantNumbers(t, b, c)
	}
	if feasible < 500 {
		t.Errorf("%d lists are feasible", feasible)
	}
}

func TestNumbersByHand(t *testing.T) {
	ones := slices.Repeat([]int64{1}, 10)
	for _, c := range []struct{ b, c, want []int64 }{
		{[]int64{3, 2}, []int64{1, 1}, []int64{1, 3, 6}}, {[]int64{1}, []int64{1}, []int64{1, 1}}, {[]int64{62}, []int64{1}, []int64{1, 62}}, {[]int64{62}, []int64{62}, []int64{1, 1}},
		{[]int64{62}, []int64{31}, []int64{1, 2}}, {[]int64{3, 2, 1}, []int64{1, 2, 3}, []int64{1, 3, 3, 1}}, {[]int64{1, 1, 6}, []int64{1, 1, 3}, []int64{1, 1, 1, 2}},
		{slices.Repeat([]int64{62}, 10), ones, []int64{1, 62, 3844, 238328, 14776336, 916132832, 56800235584, 3521614606208, 218340105584896, 13537086546263552, 839299365868340224}},
		{append(slices.Repeat([]int64{62}, 5), 1, 1, 1, 1, 1), append([]int64{1, 1, 1, 1, 1}, slices.Repeat([]int64{62}, 5)...), []int64{1, 62, 3844, 238328, 14776336, 916132832, 14776336, 238328, 3844, 62, 1}},
		{ones, ones, slices.Repeat([]int64{1}, 11)},
	} {
		numbers, code := impl.NumbersAt(c.b, c.c)
		wantList(t, call("NumbersAt", c.b, c.c), numbers, code, c.want...)
	}
	for _, c := range [][2][]int64{{{1}, {2}}, {{1}, {62}}, {{61}, {62}}, {{62}, {61}}, {{3, 2}, {1, 4}}, {{3, 4}, {2, 3}}, {{1, 62}, {62, 1}}, {ones, append(slices.Repeat([]int64{1}, 9), 2)},
		{slices.Repeat([]int64{62}, 10), append(slices.Repeat([]int64{1}, 9), 61)}} {
		wantError(t, call("NumbersAt", c), impl.ErrState, results(impl.NumbersAt(c[0], c[1]))...)
		if feasible, code := impl.AreFeasible(c[0], c[1]); feasible || code != impl.ErrNone {
			t.Errorf("AreFeasible(%v) = %v, %d", c, feasible, code)
		}
	}
}

// TestFeasibleByHand breaks one condition alone in each of the lists that are not feasible. (A c(d) greater than b(0) breaks also that of c(i) and b(j), for i as d and j as 0, and a k(2) that is not whole that of the sum.)
func TestFeasibleByHand(t *testing.T) {
	falls := append([]int64{61}, slices.Repeat([]int64{59}, 9)...)
	ones := slices.Repeat([]int64{1}, 10)
	for what, c := range map[string]struct {
		b, c []int64
		want bool
	}{
		"petersen":                        {[]int64{3, 2}, []int64{1, 1}, true},
		"two vertices":                    {[]int64{1}, []int64{1}, true},
		"as many as 62 have":              {[]int64{62}, []int64{1}, true},
		"around 20":                       {append([]int64{2}, ones[:9]...), append(slices.Repeat([]int64{1}, 9), 2), true},
		"around 21":                       {append([]int64{2}, ones[:9]...), ones, true},
		"many":                            {append([]int64{62}, slices.Repeat([]int64{61}, 9)...), ones, true},
		"many of an odd degree":           {append([]int64{61}, slices.Repeat([]int64{60}, 9)...), ones, true},
		"62 neighbours":                   {[]int64{62, 31}, []int64{1, 31}, true},
		"c(d) is b(0)":                    {[]int64{4, 3}, []int64{1, 4}, true},
		"c(2) is b(1)":                    {[]int64{4, 2, 1}, []int64{1, 2, 2}, true},
		"c(1) is 2":                       {[]int64{4}, []int64{2}, false},
		"c(1) is 2, with more":            {[]int64{4, 2}, []int64{2, 2}, false},
		"a b rises":                       {[]int64{4, 1, 2}, []int64{1, 1, 1}, false},
		"a c falls":                       {[]int64{4, 2, 2}, []int64{1, 2, 1}, false},
		"c(2) is more than b(1)":          {[]int64{4, 1, 1}, []int64{1, 2, 2}, false},
		"c(3) is more than b(1), d is 4":  {[]int64{4, 1, 1, 1}, []int64{1, 1, 2, 2}, false},
		"c(2) is more than b(2), d is 4":  {[]int64{4, 2, 1, 1}, []int64{1, 2, 2, 2}, false},
		"c(2) is b(1), i and j are d + 1": {[]int64{6, 1}, []int64{1, 2}, true},
		"b(1) and c(1) are too many":      {[]int64{4, 4}, []int64{1, 1}, false},
		"b(2) and c(2) are too many":      {[]int64{4, 3, 3}, []int64{1, 2, 2}, false},
		"b(2) and c(2) are not too many":  {[]int64{4, 2, 2}, []int64{1, 2, 2}, true},
		"c(d) is more than b(0)":          {[]int64{4, 3}, []int64{1, 6}, false},
		"k(2) is not whole":               {[]int64{4, 2}, []int64{1, 3}, false},
		"k(3) is not whole":               {[]int64{4, 3, 1}, []int64{1, 2, 4}, false},
		"7 vertices of the degree 3":      {[]int64{3, 1}, []int64{1, 1}, false},
		"5 vertices of the degree 3":      {[]int64{3, 1}, []int64{1, 3}, false},
		"very many, odd":                  {falls, ones, false},
		"b(i) and c(i) are 63":            {slices.Repeat([]int64{62}, 10), ones, false},
	} {
		if feasible, code := impl.AreFeasible(c.b, c.c); feasible != c.want || feasible != feasibleByRules(c.b, c.c) || code != impl.ErrNone {
			t.Errorf("%s: AreFeasible(%v, %v) = %v, %d", what, c.b, c.c, feasible, code)
		}
	}
}

// TestListErrors has too few and too many numbers, lists of different lengths, and numbers one beyond in each place, also where numbers at distances are not whole.
func TestListErrors(t *testing.T) {
	refuse := func(b []int64, c []int64) {
		t.Helper()
		wantError(t, call("NumbersAt", b, c), impl.ErrRange, results(impl.NumbersAt(b, c))...)
		wantError(t, call("AreFeasible", b, c), impl.ErrRange, results(impl.AreFeasible(b, c))...)
	}
	list := func(length int) []int64 { return slices.Repeat([]int64{1}, length) }
	lengths := []int{0, 1, 2, 9, 10, 11, 12, 62, 4000}
	for _, one := range lengths {
		for _, other := range lengths {
			if one != other || one == 0 || one > 10 {
				refuse(list(one), list(other))
				refuse(slices.Repeat([]int64{2}, one), slices.Repeat([]int64{3}, other))
			}
		}
	}
	refuse(nil, nil)
	refuse([]int64{}, nil)
	for length := 1; length <= 10; length++ {
		for place := range length {
			for _, x := range []int64{0, 63, -1, 1<<32 + 1, math.MaxInt64, math.MinInt64} {
				for _, other := range []int64{1, 3, 62} {
					wrong, right := slices.Repeat([]int64{2}, length), slices.Repeat([]int64{other}, length)
					wrong[place] = x
					refuse(wrong, right)
					refuse(right, wrong)
					refuse(wrong, wrong)
				}
			}
		}
	}
}
