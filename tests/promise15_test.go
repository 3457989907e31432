package tests

import (
	"testing"

	"loop.example/g01331/impl"
)

// TestPromise15 asks of all faithful bases that the walk girth is the girth of the lift, as far as it is told, and of the
// others that it is none of a graph.
func TestPromise15(t *testing.T) {
	told, untold := 0, 0
	for x := range sampleBases {
		faithful, code := impl.IsFaithful(x)
		wantCode(t, "IsFaithful", code, impl.ErrNone)
		walkGirth, walkCode := impl.WalkGirth(x)
		if !faithful {
			if walkGirth < 1 || walkGirth > 2 || walkCode != impl.ErrNone {
				t.Errorf("%v is not faithful, and has the walk girth %d, %d", x, walkGirth, walkCode)
			}
			continue
		}
		lift, code := impl.LiftOf(x)
		wantCode(t, "LiftOf", code, impl.ErrNone)
		girth, code := impl.GirthOf(lift)
		if code == impl.ErrNone && girth <= impl.MaxWalk {
			told++
			if walkGirth != girth || walkCode != impl.ErrNone {
				t.Errorf("WalkGirth(%v) = %d, %d, the girth of the lift is %d", x, walkGirth, walkCode, girth)
			}
			continue
		}
		untold++
		wantError(t, call("WalkGirth", x), impl.ErrNotFound, walkGirth, walkCode)
	}
	if told < 200 || untold < 200 {
		t.Errorf("%d walk girths alone are told, and %d not", told, untold)
	}
}

// TestPromise15Girths has lifts with the girths of the graphs that they are.
func TestPromise15Girths(t *testing.T) {
	for girth := int64(3); girth <= impl.MaxVertices; girth++ {
		want, code := girth, int64(impl.ErrNone)
		if girth > impl.MaxWalk {
			want, code = 0, impl.ErrNotFound
		}
		if got, gotCode := impl.WalkGirth(bouquet(girth, 1)); got != want || gotCode != code {
			t.Errorf("the walk girth of a ring of %d is %d, %d", girth, got, gotCode)
		}
	}
	for name, x := range map[string]impl.Base{"heawood": turns(14, 5, 9), "moebiuskantor": turns(16, 5, 11), "pappus": turns(18, 5, 7, 11, 7, 11, 13),
		"desargues": turns(20, 5, 15, 9, 11), "tuttecoxeter": turns(30, 17, 21, 7, 23, 9, 13)} {
		want, _ := impl.GirthOf(named(t, name))
		if got, code := impl.WalkGirth(x); got != want || code != impl.ErrNone {
			t.Errorf("the walk girth of %s is %d, %d, want %d", name, got, code, want)
		}
	}
}
