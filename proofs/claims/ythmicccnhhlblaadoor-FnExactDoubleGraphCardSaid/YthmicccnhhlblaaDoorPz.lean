/-
  What the graphs of pairs want of the plain base, in a tied seat of graphs.
-/
import Derived.Test.YthmicccnhhlblaaDoorMark
import Derived.Test.YthmicccnhhlblaaDoorIsB
import Derived.Deep.RegionWith
namespace Go.Proofs.YthmicccnhhlblaaDoor
open Go.RowKit

/-- A graph and a code, the rows in memory of their own from block B on. -/
def GRes (B : Nat) (N : Int) (L : List Int) (c : Int) (e : Ending) (w' : World) : Prop := ∃ u, e = .returned (.tuple #[.agg #[.int .i64 N, u], .int .i64 c]) ∧ Own w' B u L

set_option maxHeartbeats 400000 in
theorem specEmpty_any (len : Nat) (w : World) (hl : len ≤ 1048576) :
    Calls Tryd.prog 22 #[.int .i64 len] w fun e w' => e = .returned (.agg #[.int .i64 len, .slice (some ⟨w.heap.size + 1, 0, none⟩) len len]) ∧ Blk w' (w.heap.size + 1) (List.replicate len 0) ∧ Below w.heap.size w w' := by
  have hmk := run_mkInts len hl
  have hb2 : Below w.heap.size w ((w.alloc (.cells #[.int .i64 len, .slice (some ⟨w.heap.size + 1, 0, none⟩) len len] 26)).alloc (.cells (intsA (List.replicate len 0)) 2)) := ((Below.refl _ _).alloc (Nat.le_refl _) _).alloc (by simp) _
  have HN := Lib.hid (Blk.new (w.alloc (.cells #[.int .i64 len, .slice (some ⟨w.heap.size + 1, 0, none⟩) len len] 26)) (List.replicate len 0))
  have HR := Lib.hid (heap_old_at (heap_new_at w (.cells #[.int .i64 len, .slice (some ⟨w.heap.size + 1, 0, none⟩) len len] 26) w.heap.size rfl) (.cells (intsA (List.replicate len 0)) 2))
  go_enter Tryd.func22, Tryd.ntmps22
  go_wp2
  refine bodyPost_ret (v := .agg #[.int .i64 len, .slice (some ⟨w.heap.size + 1, 0, none⟩) len len]) (results_cell_row (p := 2) (ty := 26) rfl _ _ w.heap.size 26 _ (0, 0) _ rfl HR.out Tryd.underlying26 rfl (by exact info27)) rfl ⟨rfl, ?_, hb2⟩
  have h := HN.out
  rw [World.size_alloc] at h
  exact h

set_option maxHeartbeats 400000 in
theorem implEmpty_any (len : Nat) (w : World) (hl : len ≤ 1048576) :
    Calls Tryd.prog 54 #[.int .i64 len] w fun e w' => e = .returned (.agg #[.int .i64 len, .slice (some ⟨w.heap.size + 1, 0, none⟩) len len]) ∧ Blk w' (w.heap.size + 1) (List.replicate len 0) ∧ Below w.heap.size w w' := by
  have hmk := run_mkInts len hl
  have hb2 : Below w.heap.size w ((w.alloc (.cells #[.int .i64 len, .slice (some ⟨w.heap.size + 1, 0, none⟩) len len] 26)).alloc (.cells (intsA (List.replicate len 0)) 2)) := ((Below.refl _ _).alloc (Nat.le_refl _) _).alloc (by simp) _
  have HN := Lib.hid (Blk.new (w.alloc (.cells #[.int .i64 len, .slice (some ⟨w.heap.size + 1, 0, none⟩) len len] 26)) (List.replicate len 0))
  have HR := Lib.hid (heap_old_at (heap_new_at w (.cells #[.int .i64 len, .slice (some ⟨w.heap.size + 1, 0, none⟩) len len] 26) w.heap.size rfl) (.cells (intsA (List.replicate len 0)) 2))
  go_enter Tryd.func54, Tryd.ntmps54
  go_wp2
  refine bodyPost_ret (v := .agg #[.int .i64 len, .slice (some ⟨w.heap.size + 1, 0, none⟩) len len]) (results_cell_row (p := 2) (ty := 26) rfl _ _ w.heap.size 26 _ (0, 0) _ rfl HR.out Tryd.underlying26 rfl (by exact info27)) rfl ⟨rfl, ?_, hb2⟩
  have h := HN.out
  rw [World.size_alloc] at h
  exact h

theorem results_cell2 {P : Program} {fn : Func} {p u : Tmp} {ty : TypeId} (h : fn.results = #[.cell p ty, .tmp u]) (tmps : Array Value) (w : World) (g : Nat) (t : TypeId) (cs : Array Value) (fr : Nat × Nat) (d : TypeDesc)
    (hp : tmps.getD p undef = .pointer (some ⟨g, 0, none⟩)) (hg : w.heap[g]? = some (.cells cs t fr))
    (hu : P.underlying ty = some d) (hd : (match d with | .struct _ | .array _ _ => true | _ => false) = true) (hi : (P.info? ty).map (·.size) = some cs.size) :
    (results fn tmps).run P w = .ok (.tuple #[.agg cs, tmps.getD u undef]) w := by
  have hp' : tmps[p]?.getD undef = .pointer (some ⟨g, 0, none⟩) := by simpa using hp
  simp only [results, h]
  simp [hp', asAddr, run_loadVar_row w g t ty cs fr d hg hu hd hi]

end Go.Proofs.YthmicccnhhlblaaDoor
