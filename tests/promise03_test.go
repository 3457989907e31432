package tests

import (
	"slices"
	"testing"

	"loop.example/g01331/impl"
)

// TestPromise3LiftedWalks asks that lifted walks are ways in the lift, but where a loop has the voltage 0, and that they
// end with the numbers that their sums tell.
func TestPromise3LiftedWalks(t *testing.T) {
	met := 0
	check := func(x impl.Base, steps []int64) {
		sum, code := impl.WalkSum(x, steps)
		if code != impl.ErrNone || len(steps) == 0 {
			return
		}
		met++
		lift, _ := impl.LiftOf(x)
		cover, _ := impl.CoverOfLift(x)
		lowTurn := func(number int64) int64 { return number % x.Modulus }
		for i := range x.Modulus {
			vertices, code := impl.LiftedWalk(x, steps, i)
			wantCode(t, "LiftedWalk", code, impl.ErrNone)
			first, last := vertices[0], vertices[len(vertices)-1]
			if len(vertices) != len(steps)+1 || lowTurn(first) != i || lowTurn(last) != lowTurn(i+sum) {
				t.Errorf("%v with %v and the sum %d leads from %d along %v", x, steps, sum, i, vertices)
			}
			for k, step := range steps {
				v, w, arc := vertices[k], vertices[k+1], x.Arcs[step/2]
				still := arc.From == arc.To && arc.Volt == 0
				if still != (v == w) || !still && lift.Rows[v]>>w&1 == 0 {
					t.Errorf("%v with %v leads from %d along %v, which is no way at %d", x, steps, i, vertices, k)
				}
				ends := []int64{cover[v], cover[w]}
				if !slices.Equal(ends, []int64{arc.From, arc.To}) && !slices.Equal(ends, []int64{arc.To, arc.From}) {
					t.Errorf("%v with %v leads from %d along %v, which is not above the walk", x, steps, i, vertices)
				}
			}
		}
	}
	for x := range smallBases {
		for length := 1; length <= 3; length++ {
			for _, steps := range walksOf(x, length) {
				check(x, steps)
			}
		}
	}
	for x := range largeBases {
		scatteredWalks(x, func(steps []int64) bool {
			check(x, steps)
			return true
		})
	}
	if met < 5000 {
		t.Errorf("there are %d walks alone", met)
	}
}

// TestPromise3AllSums adds the counts of all sums up: they are those of the base by the modulus 1.
func TestPromise3AllSums(t *testing.T) {
	for x := range sampleBases {
		whole := impl.Base{Size: x.Size, Modulus: 1}
		for _, arc := range x.Arcs {
			whole.Arcs = append(whole.Arcs, impl.Arc{From: arc.From, To: arc.To})
		}
		for _, k := range []int64{0, 1, 2, 5, impl.MaxWalk} {
			all := int64(0)
			for sum := range x.Modulus {
				count, code := impl.CountVoltWalks(x, k, sum)
				wantCode(t, "CountVoltWalks", code, impl.ErrNone)
				all += count
			}
			if want, code := impl.CountVoltWalks(whole, k, 0); all != want || code != impl.ErrNone {
				t.Errorf("%v has %d closed walks of %d steps, and by the modulus 1 there are %d, %d", x, all, k, want, code)
			}
		}
	}
}

// TestPromise3Covers asks that the lift of a graph covers it.
func TestPromise3Covers(t *testing.T) {
	for h := range sampleTables {
		edges := h.edges()
		if len(h) > impl.MaxBase || len(edges) > impl.MaxArcs {
			continue
		}
		for modulus := int64(1); modulus*int64(len(h)) <= impl.MaxVertices; modulus += 4 {
			x := impl.Base{Size: int64(len(h)), Modulus: modulus}
			for i, e := range edges {
				x.Arcs = append(x.Arcs, impl.Arc{From: e[i%2], To: e[1-i%2], Volt: int64(i*i+i) % modulus})
			}
			lift, one := impl.LiftOf(x)
			list, two := impl.CoverOfLift(x)
			yes, three := impl.IsCover(lift, h.graph(), list)
			faithful, four := impl.IsFaithful(x)
			if !yes || !faithful || one != impl.ErrNone || two != impl.ErrNone || three != impl.ErrNone || four != impl.ErrNone {
				t.Errorf("the lift of %v covers %v: %v, faithful: %v", x, h.graph(), yes, faithful)
			}
		}
	}
}

// guardedArcs has spare capacity behind the arcs, which must stay as it is.
func guardedArcs(arcs []impl.Arc) []impl.Arc {
	wide := append(slices.Clone(arcs), impl.Arc{From: 77, To: 77, Volt: 77}, impl.Arc{From: 78, To: 78, Volt: 78})
	return wide[:len(arcs)]
}

// TestAnswersOwnTheirMemory3 writes over the answers of chapter 3, and looks at the arguments.
func TestAnswersOwnTheirMemory3(t *testing.T) {
	arcs := []impl.Arc{{From: 0, To: 0, Volt: 1}, {From: 0, To: 1, Volt: 0}, {From: 1, To: 1, Volt: 2}}
	x := impl.Base{Size: 2, Modulus: 5, Arcs: guardedArcs(arcs)}
	rows, steps, list := []int64{2, 1}, []int64{2, 4, 3, 1}, []int64{1, 0}
	g, h := impl.Graph{Size: 2, Rows: guarded(rows)}, impl.Graph{Size: 2, Rows: guarded(rows)}
	walk, broken, cover := guarded(steps), guarded([]int64{0, 4}), guarded(list)
	petersen := named(t, "petersen")
	for range 2 {
		lift, code := impl.LiftOf(x)
		wantGraph(t, "LiftOf", lift, code, petersen)
		below, code := impl.CoverOfLift(x)
		wantList(t, "CoverOfLift", below, code, 0, 0, 0, 0, 0, 1, 1, 1, 1, 1)
		vertices, code := impl.LiftedWalk(x, walk, 3)
		wantList(t, "LiftedWalk", vertices, code, 3, 8, 5, 0, 4)
		spoil(lift.Rows)
		spoil(below)
		spoil(vertices)
		impl.IsBase(x)
		impl.IsFaithful(x)
		impl.WalkSum(x, walk)
		impl.WalkSum(x, broken)
		impl.IsReducedWalk(x, walk)
		impl.WalkGirth(x)
		impl.CountVoltWalks(x, 14, 2)
		impl.LiftParts(x)
		impl.IsCover(g, h, cover)
		if !slices.Equal(x.Arcs[:5], guardedArcs(arcs)[:5]) || x.Size != 2 || x.Modulus != 5 {
			t.Errorf("the base is %v now, was %v", x.Arcs[:5], arcs)
		}
		wantGuarded(t, "chapter 3", walk, steps)
		wantGuarded(t, "chapter 3", broken, []int64{0, 4})
		wantGuarded(t, "chapter 3", cover, list)
		wantGuarded(t, "chapter 3", g.Rows, rows)
		wantGuarded(t, "chapter 3", h.Rows, rows)
	}
}
