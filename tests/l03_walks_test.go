package tests

import (
	"math"
	"math/big"
	"slices"
	"testing"

	"loop.example/g01331/impl"
)

// goAlong returns where a step begins and ends, and what it adds to a sum.
func goAlong(x impl.Base, step int64) (int64, int64, int64) {
	arc := x.Arcs[step/2]
	if step%2 == 0 {
		return arc.From, arc.To, arc.Volt
	}
	return arc.To, arc.From, -arc.Volt
}

// walked is what the document tells of a list of steps.
type walked struct {
	isWalk, closed, reduced bool
	sum                     int64
}

func walk(x impl.Base, steps []int64) walked {
	told := walked{isWalk: true, closed: true, reduced: true}
	for i, step := range steps {
		_, end, volt := goAlong(x, step)
		follower := steps[(i+1)%len(steps)]
		begin, _, _ := goAlong(x, follower)
		if i == len(steps)-1 {
			told.closed = begin == end
		} else if begin != end {
			told.isWalk = false
		}
		if follower/2 == step/2 && follower%2 != step%2 {
			told.reduced = false
		}
		told.sum += volt
	}
	for told.sum < 0 {
		told.sum += x.Modulus
	}
	told.sum %= x.Modulus
	return told
}

// walksOf lists the walks of a length in all.
func walksOf(x impl.Base, length int) [][]int64 {
	list := [][]int64{{}}
	for range length {
		var longer [][]int64
		for _, steps := range list {
			for step := range 2 * int64(len(x.Arcs)) {
				if more := append(slices.Clone(steps), step); walk(x, more).isWalk {
					longer = append(longer, more)
				}
			}
		}
		list = longer
	}
	return list
}

// scatteredWalks takes some walks of each length up to MaxWalk.
func scatteredWalks(x impl.Base, yield func([]int64) bool) {
	state := uint32(3)
	var steps []int64
	for len(x.Arcs) > 0 && len(steps) < impl.MaxWalk {
		state = state*1664525 + 1013904223
		step := int64(state>>8) % (2 * int64(len(x.Arcs)))
		if more := append(slices.Clone(steps), step); walk(x, more).isWalk {
			steps = more
			if !yield(slices.Clone(steps)) {
				return
			}
		}
	}
}

// wantWalk holds the sum of a walk and the lifts of it against what is told.
func wantWalk(t *testing.T, x impl.Base, steps []int64) {
	t.Helper()
	told := walk(x, steps)
	what := call("", x, steps)
	if !told.isWalk {
		wantError(t, "WalkSum"+what, impl.ErrState, results(impl.WalkSum(x, steps))...)
		wantError(t, "IsReducedWalk"+what, impl.ErrState, results(impl.IsReducedWalk(x, steps))...)
		wantError(t, "LiftedWalk"+what, impl.ErrState, results(impl.LiftedWalk(x, steps, x.Modulus-1))...)
		return
	}
	if sum, code := impl.WalkSum(x, steps); sum != told.sum || code != impl.ErrNone {
		t.Errorf("WalkSum%s = %d, %d, want %d", what, sum, code, told.sum)
	}
	if yes, code := impl.IsReducedWalk(x, steps); yes != (told.closed && told.reduced) || code != impl.ErrNone {
		t.Errorf("IsReducedWalk%s = %v, %d", what, yes, code)
	}
	if len(steps) == 0 {
		return
	}
	for i := range x.Modulus {
		from, _, _ := goAlong(x, steps[0])
		want := []int64{from*x.Modulus + i}
		number := i
		for _, step := range steps {
			_, to, volt := goAlong(x, step)
			number = (number + volt + x.Modulus) % x.Modulus
			want = append(want, to*x.Modulus+number)
		}
		vertices, code := impl.LiftedWalk(x, steps, i)
		wantList(t, call("LiftedWalk", x, steps, i), vertices, code, want...)
	}
}

// TestWalks tries all lists of up to three steps of the small bases, and scattered walks of the large ones.
func TestWalks(t *testing.T) {
	for x := range smallBases {
		wantWalk(t, x, nil)
		for length := 1; length <= 3 && len(x.Arcs) > 0; length++ {
			steps := make([]int64, length)
			for next := true; next; next = countUp(steps, 2*int64(len(x.Arcs))) {
				wantWalk(t, x, steps)
			}
		}
	}
	for x := range largeBases {
		scatteredWalks(x, func(steps []int64) bool {
			wantWalk(t, x, steps)
			return true
		})
	}
}

func TestWalksByHand(t *testing.T) {
	x := baseOf(2, 5, [3]int64{0, 0, 1}, [3]int64{0, 1, 0}, [3]int64{1, 1, 2})
	twice := baseOf(2, 4, [3]int64{0, 1, 3}, [3]int64{0, 1, 3}, [3]int64{1, 0, 1})
	half := bouquet(6, 3)
	for _, c := range []struct {
		x       impl.Base
		steps   []int64
		sum     int64
		reduced bool
	}{
		{x, nil, 0, true},
		{x, []int64{}, 0, true},
		{x, []int64{0}, 1, true},
		{x, []int64{1}, 4, true},
		{x, []int64{2}, 0, false},
		{x, []int64{3}, 0, false},
		{x, []int64{5}, 3, true},
		{x, []int64{0, 0}, 2, true},
		{x, []int64{0, 1}, 0, false},
		{x, []int64{1, 0}, 0, false},
		{x, []int64{2, 3}, 0, false},
		{x, []int64{2, 4, 3}, 2, false},
		{x, []int64{0, 2, 4, 3}, 3, true},
		{x, []int64{0, 2, 4, 3, 1}, 2, false},
		{x, []int64{3, 0, 2, 4}, 3, true},
		{x, []int64{0, 2, 4}, 3, false},
		{x, slices.Repeat([]int64{4}, 14), 3, true},
		{x, slices.Repeat([]int64{5}, 14), 2, true},
		{x, slices.Repeat([]int64{0, 1}, 7), 0, false},
		{x, append(slices.Repeat([]int64{0}, 13), 1), 2, false},
		{twice, []int64{0, 3}, 0, true},
		{twice, []int64{0, 1}, 0, false},
		{twice, []int64{0, 4}, 0, true},
		{twice, []int64{5, 1}, 0, true},
		{twice, []int64{4, 0}, 0, true},
		{half, []int64{0}, 3, true},
		{half, []int64{0, 0}, 0, true},
		{half, []int64{1, 1}, 0, true},
		{half, []int64{0, 1}, 0, false},
		{bouquet(1, 0), []int64{0}, 0, true},
		{bouquet(1, 0), []int64{1, 1, 1}, 0, true},
	} {
		if sum, code := impl.WalkSum(c.x, c.steps); sum != c.sum || code != impl.ErrNone {
			t.Errorf("WalkSum(%v, %v) = %d, %d, want %d", c.x, c.steps, sum, code, c.sum)
		}
		if yes, code := impl.IsReducedWalk(c.x, c.steps); yes != c.reduced || code != impl.ErrNone {
			t.Errorf("IsReducedWalk(%v, %v) = %v, %d", c.x, c.steps, yes, code)
		}
	}
	wantLifted(t, x, []int64{0}, 4, 4, 0)
	wantLifted(t, x, []int64{3}, 4, 9, 4)
	wantLifted(t, x, slices.Repeat([]int64{4}, 14), 0, 5, 7, 9, 6, 8, 5, 7, 9, 6, 8, 5, 7, 9, 6, 8)
	wantLifted(t, half, []int64{1, 0}, 2, 2, 5, 2)
	wantLifted(t, bouquet(3, 0), []int64{0, 1}, 2, 2, 2, 2)
	wantLifted(t, baseOf(10, 6, [3]int64{9, 0, 5}), []int64{0, 1}, 5, 59, 4, 59)
}

func wantLifted(t *testing.T, x impl.Base, steps []int64, i int64, want ...int64) {
	t.Helper()
	vertices, code := impl.LiftedWalk(x, steps, i)
	wantList(t, call("LiftedWalk", x, steps, i), vertices, code, want...)
}

// TestWalkErrors has lists that are too long, numbers that are none, and both together with steps that do not meet.
func TestWalkErrors(t *testing.T) {
	x := baseOf(3, 5, [3]int64{0, 0, 1}, [3]int64{0, 1, 0}, [3]int64{1, 1, 2})
	for _, steps := range [][]int64{
		make([]int64, 15), append(make([]int64, 14), 4), make([]int64, 4000), slices.Repeat([]int64{0, 4}, 8),
		{6}, {-1}, {7}, {0, 6}, {6, 0}, {0, 4, 6}, {0, 4, -1}, {math.MaxInt64}, {math.MinInt64}, {2, 64}, {0, 4, math.MinInt64},
	} {
		for _, i := range []int64{0, 5, -1} {
			wantError(t, call("LiftedWalk", steps, i), impl.ErrRange, results(impl.LiftedWalk(x, steps, i))...)
		}
		wantError(t, call("WalkSum", steps), impl.ErrRange, results(impl.WalkSum(x, steps))...)
		wantError(t, call("IsReducedWalk", steps), impl.ErrRange, results(impl.IsReducedWalk(x, steps))...)
	}
	for _, steps := range [][]int64{{0, 4}, {0, 3}, {2, 2}, {2, 0}, {4, 2}, {3, 3}, {3, 4}, append(make([]int64, 13), 4), {4, 0}, {2, 4, 3, 0, 0, 1, 5}} {
		wantWalk(t, x, steps)
		wantError(t, call("WalkSum", steps), impl.ErrState, results(impl.WalkSum(x, steps))...)
		for _, i := range outside(5) {
			wantError(t, call("LiftedWalk", steps, i), impl.ErrRange, results(impl.LiftedWalk(x, steps, i))...)
		}
	}
	for _, i := range append(outside(5), 0, 4) {
		wantError(t, call("LiftedWalk", i), impl.ErrRange, results(impl.LiftedWalk(x, nil, i))...)
	}
	for _, i := range outside(5) {
		wantError(t, call("LiftedWalk", i), impl.ErrRange, results(impl.LiftedWalk(x, []int64{0}, i))...)
	}
	for _, step := range []int64{0, 1, -1} {
		wantError(t, "WalkSum without arcs", impl.ErrRange, results(impl.WalkSum(bouquet(5), []int64{step}))...)
		wantError(t, "IsReducedWalk without arcs", impl.ErrRange, results(impl.IsReducedWalk(bouquet(5), []int64{step}))...)
		wantError(t, "LiftedWalk without arcs", impl.ErrRange, results(impl.LiftedWalk(bouquet(5), []int64{step}, 0))...)
	}
	most := bouquet(62, make([]int64, impl.MaxArcs)...)
	if sum, code := impl.WalkSum(most, []int64{31}); sum != 0 || code != impl.ErrNone {
		t.Errorf("WalkSum of the last step = %d, %d", sum, code)
	}
	wantError(t, "WalkSum behind the last step", impl.ErrRange, results(impl.WalkSum(most, []int64{32}))...)
}

// leastReduced lists longer and longer walks until one is closed and reduced with the sum 0; 0 is none.
func leastReduced(x impl.Base) int64 {
	var grow func(steps []int64, length int) bool
	grow = func(steps []int64, length int) bool {
		if len(steps) == length {
			told := walk(x, steps)
			return told.closed && told.reduced && told.sum == 0
		}
		for step := range 2 * int64(len(x.Arcs)) {
			if len(steps) > 0 {
				_, to, _ := goAlong(x, steps[len(steps)-1])
				if from, _, _ := goAlong(x, step); from != to || step == steps[len(steps)-1]^1 {
					continue
				}
			}
			if grow(append(steps, step), length) {
				return true
			}
		}
		return false
	}
	for length := 1; length <= impl.MaxWalk; length++ {
		if grow(make([]int64, 0, length), length) {
			return int64(length)
		}
	}
	return 0
}

func wantWalkGirth(t *testing.T, x impl.Base, want int64) {
	t.Helper()
	if want == 0 {
		wantError(t, call("WalkGirth", x), impl.ErrNotFound, results(impl.WalkGirth(x))...)
	} else if girth, code := impl.WalkGirth(x); girth != want || code != impl.ErrNone {
		t.Errorf("WalkGirth(%v) = %d, %d, want %d", x, girth, code, want)
	}
}

func TestWalkGirths(t *testing.T) {
	for x := range smallBases {
		wantWalkGirth(t, x, leastReduced(x))
	}
	for _, x := range girthBases() {
		wantWalkGirth(t, x, leastReduced(x))
	}
	for x := range largeBases {
		if girth, _ := impl.WalkGirth(x); len(x.Arcs) < impl.MaxArcs || girth < 6 {
			wantWalkGirth(t, x, leastReduced(x))
		}
	}
}

func TestWalkGirthsByHand(t *testing.T) {
	for _, c := range []struct {
		x    impl.Base
		want int64
	}{
		{bouquet(1), 0}, {baseOf(10, 6), 0}, {bouquet(1, 0), 1}, {bouquet(62, 0), 1}, {bouquet(2, 1), 2}, {bouquet(62, 31), 2}, {bouquet(3, 1), 3},
		{bouquet(14, 1), 14}, {bouquet(14, 13), 14}, {bouquet(15, 1), 0}, {bouquet(62, 1), 0}, {bouquet(60, 4), 0}, {bouquet(60, 5), 12}, {bouquet(56, 4), 14},
		{bouquet(7, 1, 1), 2}, {bouquet(7, 1, 6), 2}, {bouquet(7, 1, 2), 3}, {bouquet(62, 1, 10), 4}, {bouquet(62, 1, 10, 0), 1},
		{baseOf(2, 31, [3]int64{0, 1, 0}), 0}, {baseOf(2, 31, [3]int64{0, 1, 4}, [3]int64{0, 1, 4}), 2}, {baseOf(2, 31, [3]int64{0, 1, 4}, [3]int64{1, 0, 27}), 2},
		{baseOf(2, 7, [3]int64{0, 1, 0}, [3]int64{0, 1, 1}), 14}, {baseOf(2, 8, [3]int64{0, 1, 0}, [3]int64{0, 1, 1}), 0}, {baseOf(2, 8, [3]int64{0, 1, 0}, [3]int64{1, 0, 1}), 0},
		{baseOf(2, 8, [3]int64{0, 1, 0}, [3]int64{0, 1, 2}), 8}, {baseOf(2, 7, [3]int64{0, 1, 0}, [3]int64{0, 1, 1}, [3]int64{0, 1, 3}), 6},
		{baseOf(2, 13, [3]int64{0, 1, 0}, [3]int64{0, 1, 1}, [3]int64{0, 1, 3}, [3]int64{0, 1, 9}), 6}, {turns(30, 17, 21, 7, 23, 9, 13), 8}, {turns(18, 5, 7, 11, 7, 11, 13), 6},
		{turns(24, 12, 7, 17), 2}, {baseOf(10, 1, [3]int64{0, 1, 0}, [3]int64{1, 2, 0}, [3]int64{2, 0, 0}), 3},
		{baseOf(3, 5, [3]int64{0, 0, 1}, [3]int64{0, 1, 0}, [3]int64{1, 2, 0}), 5}, {baseOf(3, 20, [3]int64{0, 0, 1}, [3]int64{0, 1, 0}, [3]int64{1, 2, 0}), 0},
	} {
		wantWalkGirth(t, c.x, c.want)
	}
	for m := int64(15); m <= impl.MaxVertices; m++ {
		wantWalkGirth(t, bouquet(m, 1), 0)
	}
}

// wrappedTimes multiplies tables of numbers, which wrap around.
func wrappedTimes(a [][]int64, b [][]int64) [][]int64 {
	product := make([][]int64, len(a))
	for v := range a {
		product[v] = make([]int64, len(b))
		for u, left := range a[v] {
			if left != 0 {
				for w, right := range b[u] {
					product[v][w] += left * right
				}
			}
		}
	}
	return product
}

// wantCounts goes k steps in the lift from each vertex with the number 0, and looks at the numbers there.
func wantCounts(t *testing.T, x impl.Base, k int64) {
	t.Helper()
	once, ways := make([][]int64, x.Size*x.Modulus), make([][]int64, x.Size)
	for v := range once {
		once[v] = make([]int64, len(once))
	}
	for step := range 2 * int64(len(x.Arcs)) {
		from, to, volt := goAlong(x, step)
		for i := range x.Modulus {
			once[from*x.Modulus+i][to*x.Modulus+(i+volt+x.Modulus)%x.Modulus]++
		}
	}
	for v := range ways {
		ways[v] = make([]int64, len(once))
		ways[v][v*int(x.Modulus)] = 1
	}
	for range k {
		ways = wrappedTimes(ways, once)
	}
	for sum := range x.Modulus {
		want := int64(0)
		for v := range x.Size {
			want += ways[v][v*x.Modulus+sum]
		}
		if count, code := impl.CountVoltWalks(x, k, sum); count != want || code != impl.ErrNone {
			t.Errorf("CountVoltWalks(%v, %d, %d) = %d, %d, want %d", x, k, sum, count, code, want)
		}
	}
}

// TestCountVoltWalks tries all lengths of walks for the smaller bases, and one for each of the large ones.
func TestCountVoltWalks(t *testing.T) {
	for k := range int64(impl.MaxWalk + 1) {
		for x := range smallBases {
			wantCounts(t, x, k)
		}
		for _, x := range girthBases() {
			wantCounts(t, x, k)
		}
		for x := range largeBases {
			if (x.Size+x.Modulus)%(impl.MaxWalk+1) == k {
				wantCounts(t, x, k)
			}
		}
	}
}

// TestCountVoltWalksOneByOne lists the walks of small bases.
func TestCountVoltWalksOneByOne(t *testing.T) {
	for x := range smallBases {
		for k := range 5 {
			counts := make([]int64, x.Modulus)
			for _, steps := range walksOf(x, k) {
				if told := walk(x, steps); told.closed {
					counts[told.sum]++
				}
			}
			if k == 0 {
				counts[0] = x.Size
			}
			for sum, want := range counts {
				if count, code := impl.CountVoltWalks(x, int64(k), int64(sum)); count != want || code != impl.ErrNone {
					t.Errorf("CountVoltWalks(%v, %d, %d) = %d, %d, want %d", x, k, sum, count, code, want)
				}
			}
		}
	}
}

// TestGreatCounts has loops that all have the voltage 0; behind 2^63 the numbers wrap around.
func TestGreatCounts(t *testing.T) {
	for loops := range int64(impl.MaxArcs + 1) {
		for _, m := range []int64{1, 2, 62} {
			x := bouquet(m, make([]int64, loops)...)
			for k := range int64(impl.MaxWalk + 1) {
				whole := new(big.Int).Exp(big.NewInt(2*loops), big.NewInt(k), nil)
				want := int64(whole.Mod(whole, new(big.Int).Lsh(big.NewInt(1), 64)).Uint64())
				if count, code := impl.CountVoltWalks(x, k, 0); count != want || code != impl.ErrNone {
					t.Errorf("CountVoltWalks(%d loops, %d) = %d, %d, want %d", loops, k, count, code, want)
				}
				if count, code := impl.CountVoltWalks(x, k, m-1); m > 1 && count != 0 || code != impl.ErrNone {
					t.Errorf("CountVoltWalks(%d loops, %d, %d) = %d, %d", loops, k, m-1, count, code)
				}
			}
		}
	}
	for _, c := range []struct {
		x      impl.Base
		k, sum int64
		want   int64
	}{
		{baseOf(10, 6), 0, 0, 10}, {baseOf(10, 6), 0, 5, 0}, {baseOf(10, 6), 14, 0, 0}, {bouquet(1), 0, 0, 1},
		{bouquet(2, 1), 1, 1, 2}, {bouquet(2, 1), 14, 0, 16384}, {bouquet(2, 1), 14, 1, 0}, {bouquet(6, 3), 1, 3, 2}, {bouquet(62, 1), 14, 0, 3432}, {bouquet(62, 1), 14, 14, 1}, {bouquet(62, 1), 14, 48, 1},
		{bouquet(62, make([]int64, 16)...), 12, 0, 1 << 60}, {bouquet(1, make([]int64, 16)...), 13, 0, 0},
		{baseOf(2, 31, [3]int64{0, 1, 3}), 14, 0, 2}, {baseOf(2, 31, [3]int64{0, 1, 3}), 13, 0, 0}, {baseOf(2, 31, [3]int64{0, 1, 3}), 2, 6, 0},
	} {
		if count, code := impl.CountVoltWalks(c.x, c.k, c.sum); count != c.want || code != impl.ErrNone {
			t.Errorf("CountVoltWalks(%v, %d, %d) = %d, %d, want %d", c.x, c.k, c.sum, count, code, c.want)
		}
	}
}

func TestCountErrors(t *testing.T) {
	for _, m := range []int64{1, 2, 5, 62} {
		x := bouquet(m, m-1)
		for _, k := range []int64{-1, 15, 16, math.MaxInt64, math.MinInt64} {
			for _, sum := range []int64{0, m - 1, m, -1} {
				wantError(t, call("CountVoltWalks", m, k, sum), impl.ErrRange, results(impl.CountVoltWalks(x, k, sum))...)
			}
		}
		for _, sum := range outside(m) {
			for _, k := range []int64{0, 1, 14, 15, -1} {
				wantError(t, call("CountVoltWalks", m, k, sum), impl.ErrRange, results(impl.CountVoltWalks(x, k, sum))...)
			}
		}
	}
}
